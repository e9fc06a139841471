/- impl's words: the closures that read an event, by their contracts. -/
import Derived.Test.YthfiaihbpnlbjaaDoorLi
import Derived.Test.YthfiaihbpnlbjaaDoorRDa
import Derived.Test.YthfiaihbpnlbjaaDoorRs
import Derived.Deep.QuietTactic
import Derived.Deep.DeepCutAuto
import Derived.BigQuiet
import Derived.Laws.EntriesVeiled
namespace Go.Proofs.YthfiaihbpnlbjaaDoor
open Go.RowKit Kit
theorem hmf : ∀ (fn : Fn) (first cap : Array Value) (w : World), (Instr.makeFunc fn first cap).run Tryd.prog w = .ok (.func fn first cap) w := fun _ _ _ _ => rfl
abbrev pt (b : Nat) : Value := .pointer (some ⟨b, 0, none⟩)
abbrev exF (a b : Nat) : Value := .func (.func 39) #[] #[pt a, pt b]
set_option maxRecDepth 100000 in
theorem exactly_any (n : Int) (fn : Fn) (cp : Array Value) (w : World) :
    Calls Tryd.prog 25 #[.int .i64 n, .func fn #[] cp] w fun e w' => e = .returned (exF w.heap.size (w.heap.size + 1)) ∧ w' = (w.alloc (.cells #[.int .i64 n] 3)).alloc (.cells #[.func fn #[] cp] 48) := by
  have hf := hmf
  go_enter Tryd.func25, Tryd.ntmps25
  go_wp2
  go_ret
  exact ⟨rfl, rfl⟩
set_option maxRecDepth 100000 in
theorem pathWord_any (k : Int) (w : World) :
    Calls Tryd.prog 23 #[.int .i64 k] w fun e w' => e = .returned (exF (w.heap.size + 1) (w.heap.size + 1 + 1)) ∧ w' = ((w.alloc (.cells #[.int .i64 k] 3)).alloc (.cells #[.int .i64 1] 3)).alloc (.cells #[.func (.func 37) #[] #[pt w.heap.size]] 48) := by
  have hf := hmf
  go_enter Tryd.func23, Tryd.ntmps23
  go_wp2_with fail
  refine (exactly_any _ _ _ _).mono ?_
  rintro e w1 ⟨rfl, h⟩
  subst h
  go_wp2
  go_ret
  exact ⟨by simp, by simp⟩
set_option maxRecDepth 100000 in
theorem loneWord_any (k : Int) (w : World) :
    Calls Tryd.prog 24 #[.int .i64 k] w fun e w' => e = .returned (exF (w.heap.size + 1) (w.heap.size + 1 + 1)) ∧ w' = ((w.alloc (.cells #[.int .i64 k] 3)).alloc (.cells #[.int .i64 0] 3)).alloc (.cells #[.func (.func 38) #[] #[pt w.heap.size]] 48) := by
  have hf := hmf
  go_enter Tryd.func24, Tryd.ntmps24
  go_wp2_with fail
  refine (exactly_any _ _ _ _).mono ?_
  rintro e w1 ⟨rfl, h⟩
  subst h
  go_wp2
  go_ret
  exact ⟨by simp, by simp⟩
theorem specRDi_any (y : ByteArray) (w : World) (hy : y.size ≤ 600) : Calls Tryd.prog 28 #[.string y] w fun e w' => e = .returned (.tuple #[.int .i64 (nuN y), .bool (nuB y)]) ∧ Below w.heap.size w w' := by
  rw [← nu_val]
  exact implRD_any y w _ (rdN_ok _) (by omega)
set_option maxRecDepth 100000 in
set_option maxHeartbeats 3200000 in
theorem loneC_any (a : Option Addr) (c : Nat) (k : Int) (b : Nat) (w : World) (hv : RSt w (.slice a 0 c) ([] : List ByteArray)) (hk : AtC w b 3 #[.int .i64 k]) :
    Calls Tryd.prog 38 #[.slice a 0 c, pt b] w fun e w' => e = .returned (.tuple #[.agg #[.int .i64 k, .string e0, .string e0, .int .i64 0, .string e0], .bool true]) ∧ Below w.heap.size w w' := by
  obtain ⟨a', c', e, h⟩ := hv
  simp at e
  obtain ⟨rfl, rfl⟩ := e
  have hkc := hk.cell 0
  replace hkc : w.cell? ⟨b, 0, none⟩ = some (.int .i64 k) := hkc
  have hkb := hk.lt
  clear h
  go_enter Tryd.func38, Tryd.ntmps38
  go_wp2
  exact bodyPost_ret (v := .tuple #[.agg #[.int .i64 k, .string e0, .string e0, .int .i64 0, .string e0], .bool true]) (by simp [results, go_sem]) rfl ⟨rfl, (Below.refl _ w).alloc (Nat.le_refl _) _⟩
set_option maxRecDepth 100000 in
set_option maxHeartbeats 3200000 in
theorem pathC_any (a : Option Addr) (c : Nat) (k : Int) (b : Nat) (y0 : ByteArray) (w : World) (hv : RSt w (.slice a 1 c) ([y0] : List ByteArray)) (hk : AtC w b 3 #[.int .i64 k]) :
    Calls Tryd.prog 37 #[.slice a 1 c, pt b] w fun e w' => e = .returned (.tuple #[.agg #[.int .i64 k, .string y0, .string e0, .int .i64 0, .string e0], .bool true]) ∧ Below w.heap.size w w' := by
  obtain ⟨a', c', e, h⟩ := hv
  simp at e
  obtain ⟨rfl, rfl⟩ := e
  obtain ⟨g, off, rfl, hg, k0⟩ := h 0 (by simp)
  simp only [Nat.add_zero, List.getElem_cons_zero] at k0
  have hkc := hk.cell 0
  replace hkc : w.cell? ⟨b, 0, none⟩ = some (.int .i64 k) := hkc
  have hkb := hk.lt
  clear h
  obtain ⟨W0, hW0⟩ : ∃ W0, w.alloc (.cells #[.int .i64 0, .string e0, .string e0, .int .i64 0, .string e0] 33) = W0 := ⟨_, rfl⟩
  have HB : Hid (Below w.heap.size w W0 ∧ AtC W0 w.heap.size 33 #[.int .i64 0, .string e0, .string e0, .int .i64 0, .string e0] ∧ w.heap.size < W0.heap.size) := by
    rw [← hW0]
    exact hide ⟨(Below.refl _ w).alloc (Nat.le_refl _) _, AtC.new w 33 _, by simp⟩
  have hzz := HB.out.2.2
  have n0 := (HB.out.1.cell (p := ⟨g, off, none⟩) hg).trans k0
  have nk := (HB.out.1.cell (p := ⟨b, 0, none⟩) hkb).trans hkc
  clear hk
  go_enter Tryd.func37, Tryd.ntmps37
  obtain ⟨l0, l1, l2, l3, l4, lz⟩ := HB.out.2.1.five
  obtain ⟨f0, f1, f2, f3, f4⟩ := HB.out.2.1.frz5
  have HR : Hid (AtC ((((((W0.setCell ⟨w.heap.size, 0, none⟩ (.int .i64 k)).setCell ⟨w.heap.size, 1, none⟩ (.string y0)).setCell ⟨w.heap.size, 2, none⟩ (.string e0)).setCell ⟨w.heap.size, 3, none⟩ (.int .i64 0)).setCell ⟨w.heap.size, 4, none⟩ (.string e0)).drew) w.heap.size 33 #[.int .i64 k, .string y0, .string e0, .int .i64 0, .string e0]) := hide (res5 HB.out.2.1 (.int .i64 k) (.string y0) (.string e0) (.int .i64 0) (.string e0))
  obtain ⟨r0, r1, r2, r3, r4, rz⟩ := HR.out.five
  go_wp2
  go_region
  go_wp2
  refine bodyPost_ret (v := .tuple #[.agg #[.int .i64 k, .string y0, .string e0, .int .i64 0, .string e0], .bool true]) (by simp [results, go_sem, r0, r1, r2, r3, r4]) rfl ⟨rfl, ?_⟩
  exact (below_set (below_set (below_set (below_set (below_set HB.out.1 _ _ _ (Nat.le_refl _)) _ _ _ (Nat.le_refl _)) _ _ _ (Nat.le_refl _)) _ _ _ (Nat.le_refl _)) _ _ _ (Nat.le_refl _)).drew
set_option maxRecDepth 100000 in
set_option maxHeartbeats 3200000 in
theorem moveC_any (a : Option Addr) (c : Nat) (y0 : ByteArray) (y1 : ByteArray) (w : World) (hv : RSt w (.slice a 2 c) ([y0, y1] : List ByteArray)) :
    Calls Tryd.prog 26 #[.slice a 2 c] w fun e w' => e = .returned (.tuple #[.agg #[.int .i64 5, .string y0, .string y1, .int .i64 0, .string e0], .bool true]) ∧ Below w.heap.size w w' := by
  obtain ⟨a', c', e, h⟩ := hv
  simp at e
  obtain ⟨rfl, rfl⟩ := e
  obtain ⟨g, off, rfl, hg, k0⟩ := h 0 (by simp)
  simp only [Nat.add_zero, List.getElem_cons_zero] at k0
  obtain ⟨g', off', e, -, k1⟩ := h 1 (by simp)
  simp only [Option.some.injEq, Addr.mk.injEq, and_true] at e
  obtain ⟨rfl, rfl⟩ := e
  replace k1 : _ = some (Value.string y1) := k1
  clear h
  obtain ⟨W0, hW0⟩ : ∃ W0, w.alloc (.cells #[.int .i64 0, .string e0, .string e0, .int .i64 0, .string e0] 33) = W0 := ⟨_, rfl⟩
  have HB : Hid (Below w.heap.size w W0 ∧ AtC W0 w.heap.size 33 #[.int .i64 0, .string e0, .string e0, .int .i64 0, .string e0] ∧ w.heap.size < W0.heap.size) := by
    rw [← hW0]
    exact hide ⟨(Below.refl _ w).alloc (Nat.le_refl _) _, AtC.new w 33 _, by simp⟩
  have hzz := HB.out.2.2
  have n0 := (HB.out.1.cell (p := ⟨g, off, none⟩) hg).trans k0
  have n1 := (HB.out.1.cell (p := ⟨g, off + 1, none⟩) hg).trans k1
  go_enter Tryd.func26, Tryd.ntmps26
  obtain ⟨l0, l1, l2, l3, l4, lz⟩ := HB.out.2.1.five
  obtain ⟨f0, f1, f2, f3, f4⟩ := HB.out.2.1.frz5
  have HR : Hid (AtC ((((((W0.setCell ⟨w.heap.size, 0, none⟩ (.int .i64 5)).setCell ⟨w.heap.size, 1, none⟩ (.string y0)).setCell ⟨w.heap.size, 2, none⟩ (.string y1)).setCell ⟨w.heap.size, 3, none⟩ (.int .i64 0)).setCell ⟨w.heap.size, 4, none⟩ (.string e0)).drew) w.heap.size 33 #[.int .i64 5, .string y0, .string y1, .int .i64 0, .string e0]) := hide (res5 HB.out.2.1 (.int .i64 5) (.string y0) (.string y1) (.int .i64 0) (.string e0))
  obtain ⟨r0, r1, r2, r3, r4, rz⟩ := HR.out.five
  go_wp2
  go_region
  go_wp2
  refine bodyPost_ret (v := .tuple #[.agg #[.int .i64 5, .string y0, .string y1, .int .i64 0, .string e0], .bool true]) (by simp [results, go_sem, r0, r1, r2, r3, r4]) rfl ⟨rfl, ?_⟩
  exact (below_set (below_set (below_set (below_set (below_set HB.out.1 _ _ _ (Nat.le_refl _)) _ _ _ (Nat.le_refl _)) _ _ _ (Nat.le_refl _)) _ _ _ (Nat.le_refl _)) _ _ _ (Nat.le_refl _)).drew
set_option maxRecDepth 100000 in
set_option maxHeartbeats 3200000 in
theorem writeC_any (a : Option Addr) (c : Nat) (y0 : ByteArray) (y1 : ByteArray) (y2 : ByteArray) (w : World) (hv : RSt w (.slice a 3 c) ([y0, y1, y2] : List ByteArray)) (hy : y1.size ≤ 600) :
    Calls Tryd.prog 27 #[.slice a 3 c] w fun e w' => e = .returned (.tuple #[.agg #[.int .i64 3, .string y0, .string e0, .int .i64 (nuN y1), .string y2], .bool (nuB y1)]) ∧ Below w.heap.size w w' := by
  obtain ⟨a', c', e, h⟩ := hv
  simp at e
  obtain ⟨rfl, rfl⟩ := e
  obtain ⟨g, off, rfl, hg, k0⟩ := h 0 (by simp)
  simp only [Nat.add_zero, List.getElem_cons_zero] at k0
  obtain ⟨g', off', e, -, k1⟩ := h 1 (by simp)
  simp only [Option.some.injEq, Addr.mk.injEq, and_true] at e
  obtain ⟨rfl, rfl⟩ := e
  replace k1 : _ = some (Value.string y1) := k1
  obtain ⟨g', off', e, -, k2⟩ := h 2 (by simp)
  simp only [Option.some.injEq, Addr.mk.injEq, and_true] at e
  obtain ⟨rfl, rfl⟩ := e
  replace k2 : _ = some (Value.string y2) := k2
  clear h
  obtain ⟨W0, hW0⟩ : ∃ W0, w.alloc (.cells #[.int .i64 0, .string e0, .string e0, .int .i64 0, .string e0] 33) = W0 := ⟨_, rfl⟩
  have HB : Hid (Below w.heap.size w W0 ∧ AtC W0 w.heap.size 33 #[.int .i64 0, .string e0, .string e0, .int .i64 0, .string e0] ∧ w.heap.size < W0.heap.size) := by
    rw [← hW0]
    exact hide ⟨(Below.refl _ w).alloc (Nat.le_refl _) _, AtC.new w 33 _, by simp⟩
  have hzz := HB.out.2.2
  have hgz : g < W0.heap.size := Nat.lt_of_lt_of_le hg HB.out.1.size
  have n0 := (HB.out.1.cell (p := ⟨g, off, none⟩) hg).trans k0
  have n1 := (HB.out.1.cell (p := ⟨g, off + 1, none⟩) hg).trans k1
  have n2 := (HB.out.1.cell (p := ⟨g, off + 2, none⟩) hg).trans k2
  go_enter Tryd.func27, Tryd.ntmps27
  go_wp2_with fail
  refine (specRDi_any y1 _ hy).mono ?_
  rintro e w1 ⟨rfl, B1⟩
  have HB1 : Hid (Below w.heap.size w w1 ∧ AtC w1 w.heap.size 33 #[.int .i64 0, .string e0, .string e0, .int .i64 0, .string e0] ∧ w.heap.size < w1.heap.size) := hide ⟨HB.out.1.trans (B1.mono HB.out.1.size), HB.out.2.1.over B1, Nat.lt_of_lt_of_le HB.out.2.2 B1.size⟩
  replace n0 := (B1.cell (p := ⟨g, off, none⟩) (by omega)).trans n0
  replace n1 := (B1.cell (p := ⟨g, off + 1, none⟩) (by omega)).trans n1
  replace n2 := (B1.cell (p := ⟨g, off + 2, none⟩) (by omega)).trans n2
  clear B1
  obtain ⟨nu, hnu⟩ : ∃ nu, nuN y1 = nu := ⟨_, rfl⟩
  obtain ⟨nb, hnb⟩ : ∃ nb, nuB y1 = nb := ⟨_, rfl⟩
  rw [hnu, hnb]
  have HNU := hide (And.intro hnu hnb)
  clear hnu hnb
  obtain ⟨l0, l1, l2, l3, l4, lz⟩ := HB1.out.2.1.five
  obtain ⟨f0, f1, f2, f3, f4⟩ := HB1.out.2.1.frz5
  have HR : Hid (AtC ((((((w1.setCell ⟨w.heap.size, 0, none⟩ (.int .i64 3)).setCell ⟨w.heap.size, 1, none⟩ (.string y0)).setCell ⟨w.heap.size, 2, none⟩ (.string e0)).setCell ⟨w.heap.size, 3, none⟩ (.int .i64 nu)).setCell ⟨w.heap.size, 4, none⟩ (.string y2)).drew) w.heap.size 33 #[.int .i64 3, .string y0, .string e0, .int .i64 nu, .string y2]) := hide (res5 HB1.out.2.1 (.int .i64 3) (.string y0) (.string e0) (.int .i64 nu) (.string y2))
  obtain ⟨r0, r1, r2, r3, r4, rz⟩ := HR.out.five
  go_wp2
  go_region
  go_wp2
  refine bodyPost_ret (v := .tuple #[.agg #[.int .i64 3, .string y0, .string e0, .int .i64 nu, .string y2], .bool nb]) (by simp [results, go_sem, r0, r1, r2, r3, r4]) rfl ⟨by rw [HNU.out.1, HNU.out.2], ?_⟩
  exact (below_set (below_set (below_set (below_set (below_set HB1.out.1 _ _ _ (Nat.le_refl _)) _ _ _ (Nat.le_refl _)) _ _ _ (Nat.le_refl _)) _ _ _ (Nat.le_refl _)) _ _ _ (Nat.le_refl _)).drew
set_option maxRecDepth 100000 in
set_option maxHeartbeats 3200000 in
theorem backC_any (a : Option Addr) (c : Nat) (y0 : ByteArray) (w : World) (hv : RSt w (.slice a 1 c) ([y0] : List ByteArray)) (hy : y0.size ≤ 600) :
    Calls Tryd.prog 29 #[.slice a 1 c] w fun e w' => e = .returned (.tuple #[.agg #[.int .i64 6, .string e0, .string e0, .int .i64 (nuN y0), .string e0], .bool (nuB y0)]) ∧ Below w.heap.size w w' := by
  obtain ⟨a', c', e, h⟩ := hv
  simp at e
  obtain ⟨rfl, rfl⟩ := e
  obtain ⟨g, off, rfl, hg, k0⟩ := h 0 (by simp)
  simp only [Nat.add_zero, List.getElem_cons_zero] at k0
  clear h
  obtain ⟨W0, hW0⟩ : ∃ W0, w.alloc (.cells #[.int .i64 0, .string e0, .string e0, .int .i64 0, .string e0] 33) = W0 := ⟨_, rfl⟩
  have HB : Hid (Below w.heap.size w W0 ∧ AtC W0 w.heap.size 33 #[.int .i64 0, .string e0, .string e0, .int .i64 0, .string e0] ∧ w.heap.size < W0.heap.size) := by
    rw [← hW0]
    exact hide ⟨(Below.refl _ w).alloc (Nat.le_refl _) _, AtC.new w 33 _, by simp⟩
  have hzz := HB.out.2.2
  have hgz : g < W0.heap.size := Nat.lt_of_lt_of_le hg HB.out.1.size
  have n0 := (HB.out.1.cell (p := ⟨g, off, none⟩) hg).trans k0
  go_enter Tryd.func29, Tryd.ntmps29
  go_wp2_with fail
  refine (specRDi_any y0 _ hy).mono ?_
  rintro e w1 ⟨rfl, B1⟩
  have HB1 : Hid (Below w.heap.size w w1 ∧ AtC w1 w.heap.size 33 #[.int .i64 0, .string e0, .string e0, .int .i64 0, .string e0] ∧ w.heap.size < w1.heap.size) := hide ⟨HB.out.1.trans (B1.mono HB.out.1.size), HB.out.2.1.over B1, Nat.lt_of_lt_of_le HB.out.2.2 B1.size⟩
  replace n0 := (B1.cell (p := ⟨g, off, none⟩) (by omega)).trans n0
  clear B1
  obtain ⟨nu, hnu⟩ : ∃ nu, nuN y0 = nu := ⟨_, rfl⟩
  obtain ⟨nb, hnb⟩ : ∃ nb, nuB y0 = nb := ⟨_, rfl⟩
  rw [hnu, hnb]
  have HNU := hide (And.intro hnu hnb)
  clear hnu hnb
  obtain ⟨l0, l1, l2, l3, l4, lz⟩ := HB1.out.2.1.five
  obtain ⟨f0, f1, f2, f3, f4⟩ := HB1.out.2.1.frz5
  have HR := hide (res5 HB1.out.2.1 (.int .i64 6) (.string e0) (.string e0) (.int .i64 nu) (.string e0))
  obtain ⟨r0, r1, r2, r3, r4, rz⟩ := HR.out.five
  go_wp2
  refine bodyPost_ret (v := .tuple #[.agg #[.int .i64 6, .string e0, .string e0, .int .i64 nu, .string e0], .bool nb]) (by simp [results, go_sem, r0, r1, r2, r3, r4]) rfl ⟨by rw [HNU.out.1, HNU.out.2], ?_⟩
  exact (below_set (below_set (below_set (below_set (below_set HB1.out.1 _ _ _ (Nat.le_refl _)) _ _ _ (Nat.le_refl _)) _ _ _ (Nat.le_refl _)) _ _ _ (Nat.le_refl _)) _ _ _ (Nat.le_refl _))
end Go.Proofs.YthfiaihbpnlbjaaDoor
