/- Texts of the proof, bundled: Sp, Ih. -/
import Derived.Test.YtljooldjcefkoaaGreatU15
import Derived.Test.YtljooldjcefkoaaGreatU16
import Derived.Test.YtljooldjcefkoaaGreatU17
/- Of the specification: SafeDisk by its contract. -/
namespace Go.Proofs.YtljooldjcefkoaaGreat
open Go.RowKit Kit
set_option maxRecDepth 100000 in
set_option maxHeartbeats 3200000 in
theorem specSafe_any (dx dy iv bv : Value) (xs ys : List Bool) (is : List Ino) (bs : List Blk) (w : World) (h : DR w dx dy iv bv xs ys is bs) (hG : Big 1048576 xs ys is bs) :
    Calls Tryz.prog 6 #[.agg #[dx, dy, iv, bv]] w fun e w' => e = .returned (.bool (safeB xs ys is bs)) ∧ Below w.heap.size w w' := by
  obtain ⟨a1, c1, a2, c2, a3, c3, a4, c4, rfl, rfl, rfl, rfl⟩ := h.form
  have HB0 : Hid (Below w.heap.size w (w.alloc (.cells #[.slice a1 xs.length c1, .slice a2 ys.length c2, .slice a3 is.length c3, .slice a4 bs.length c4] 35))) := (Below.refl _ w).alloc (Nat.le_refl _) _
  have HA0 := hide (AtC.new w 35 #[.slice a1 xs.length c1, .slice a2 ys.length c2, .slice a3 is.length c3, .slice a4 bs.length c4])
  have CO := hide (specOk_disk (.slice a1 xs.length c1) (.slice a2 ys.length c2) (.slice a3 is.length c3) (.slice a4 bs.length c4) xs ys is bs (w.alloc (.cells #[.slice a1 xs.length c1, .slice a2 ys.length c2, .slice a3 is.length c3, .slice a4 bs.length c4] 35)) (h.alloc _) (fun j hj k hk => (hG.s j hj).2.1 k hk))
  have HH := hide h
  cases hok : diskOk xs ys is bs with
  | false =>
    rw [hok] at CO
    have HS : Hid (safeB xs ys is bs = false) := by show _ = _; unfold safeB; rw [hok]; rfl
    clear h hG hok
    go_enter Tryz.func6, Tryz.ntmps6
    go_wp2_with fail
    refine CO.out.mono ?_
    rintro e w1 ⟨rfl, B1⟩
    have HB1 := hide (HB0.out.trans (B1.mono HB0.out.size))
    clear B1
    go_wp2
    go_ret
    exact ⟨by rw [HS.out]; rfl, HB1.out⟩
  | true =>
  rw [hok] at CO
  have hX := RX.of_ok hok
  have HX := hide hX
  have HS : Hid (safeB xs ys is bs = decide (kindAt is 1 = 2 ∧ dangN is bs = 0 ∧ sharedN is = 0 ∧ unmP xs is bs + unmI ys is bs = 0 ∧ shortN is bs = 0 ∧ wrongN is bs = 0)) := by show _ = _; unfold safeB; rw [hok]; rfl
  have C1 := hide (fun (W : World) (hb : Below w.heap.size w W) => specDang_any (.slice a1 xs.length c1) (.slice a2 ys.length c2) (.slice a3 is.length c3) (.slice a4 bs.length c4) xs ys is bs W (h.below hb (Nat.le_refl _)) hX)
  have C2 := hide (fun (W : World) (hb : Below w.heap.size w W) => specShr_any (.slice a1 xs.length c1) (.slice a2 ys.length c2) (.slice a3 is.length c3) (.slice a4 bs.length c4) xs ys is bs W (h.below hb (Nat.le_refl _)) hX)
  have C3 := hide (fun (W : World) (hb : Below w.heap.size w W) => specUnm_any (.slice a1 xs.length c1) (.slice a2 ys.length c2) (.slice a3 is.length c3) (.slice a4 bs.length c4) xs ys is bs W (h.below hb (Nat.le_refl _)) hX)
  have C4 := hide (fun (W : World) (hb : Below w.heap.size w W) => specShort_any (.slice a1 xs.length c1) (.slice a2 ys.length c2) (.slice a3 is.length c3) (.slice a4 bs.length c4) xs ys is bs W (h.below hb (Nat.le_refl _)) hX)
  have C5 := hide (fun (W : World) (hb : Below w.heap.size w W) => specWrong_any (.slice a1 xs.length c1) (.slice a2 ys.length c2) (.slice a3 is.length c3) (.slice a4 bs.length c4) xs ys is bs W (h.below hb (Nat.le_refl _)) hX)
  obtain ⟨g2, o2, sa, sc, rfl, hg2, y0, -, -, -⟩ := DR.ino h 0 (by rw [hX.r.hi]; decide)
  have hi8 : (0 : Int) < (is.length : Int) := by rw [hX.r.hi]; decide
  simp only [Nat.zero_mul, Nat.add_zero] at y0
  have hk1 : kindAt is (((0 : Nat) : Int) + 1) = kindAt is 1 := rfl
  rw [hk1] at y0
  have hun : ((unmP xs is bs : Int) + (unmI ys is bs : Int)) = ((unmP xs is bs + unmI ys is bs : Nat) : Int) := by omega
  simp only [hun] at C3
  obtain ⟨kd, hkd⟩ : ∃ n, kindAt is 1 = n := ⟨_, rfl⟩
  obtain ⟨n1, hn1⟩ : ∃ n, dangN is bs = n := ⟨_, rfl⟩
  obtain ⟨n2, hn2⟩ : ∃ n, sharedN is = n := ⟨_, rfl⟩
  obtain ⟨n3, hn3⟩ : ∃ n, unmP xs is bs + unmI ys is bs = n := ⟨_, rfl⟩
  obtain ⟨n4, hn4⟩ : ∃ n, shortN is bs = n := ⟨_, rfl⟩
  obtain ⟨n5, hn5⟩ : ∃ n, wrongN is bs = n := ⟨_, rfl⟩
  simp only [hkd, hn1, hn2, hn3, hn4, hn5] at HS
  simp only [hn1] at C1
  simp only [hn2] at C2
  simp only [hn3] at C3
  simp only [hn4] at C4
  simp only [hn5] at C5
  rw [hkd] at y0
  have HW : Hid (∀ W, Below (w.alloc (.cells #[.slice a1 xs.length c1, .slice a2 ys.length c2, .slice (some ⟨g2, o2, none⟩) is.length c3, .slice a4 bs.length c4] 35)).heap.size (w.alloc (.cells #[.slice a1 xs.length c1, .slice a2 ys.length c2, .slice (some ⟨g2, o2, none⟩) is.length c3, .slice a4 bs.length c4] 35)) W → AtC W w.heap.size 35 #[.slice a1 xs.length c1, .slice a2 ys.length c2, .slice (some ⟨g2, o2, none⟩) is.length c3, .slice a4 bs.length c4] ∧ W.cell? ⟨g2, o2, none⟩ = some (.int .i64 kd) ∧ Below w.heap.size w W) := fun W b => by
    have b2 := HB0.out.trans (b.mono HB0.out.size)
    exact ⟨HA0.out.over b, (b2.cell (p := ⟨g2, o2, none⟩) hg2).trans y0, b2⟩
  clear h hG hok hX hk1 hun hkd hn1 hn2 hn3 hn4 hn5 HA0 y0
  go_enter Tryz.func6, Tryz.ntmps6
  go_wp2_with fail
  refine CO.out.mono ?_
  rintro e w1 ⟨rfl, B1⟩
  have HB1 := hide B1
  have k0 := (HW.out w1 B1).2.1
  have z0 : w1.cell? ⟨w.heap.size, 0, none⟩ = some (.slice a1 xs.length c1) := (HW.out w1 B1).1.cell 0
  have z1 : w1.cell? ⟨w.heap.size, 1, none⟩ = some (.slice a2 ys.length c2) := (HW.out w1 B1).1.cell 1
  have z2 : w1.cell? ⟨w.heap.size, 2, none⟩ = some (.slice (some ⟨g2, o2, none⟩) is.length c3) := (HW.out w1 B1).1.cell 2
  have z3 : w1.cell? ⟨w.heap.size, 3, none⟩ = some (.slice a4 bs.length c4) := (HW.out w1 B1).1.cell 3
  have D1 := hide (C1.out w1 (HW.out w1 B1).2.2)
  clear B1 CO C1
  by_cases hk : kd = 2
  rotate_left
  · have hkb : (kd == 2) = false := by simp [hk]
    have HF : Hid (safeB xs ys is bs = false) := hide (by rw [HS.out]; simp [hk])
    clear hk
    go_wp2
    go_ret
    exact ⟨by rw [HF.out]; rfl, (HW.out _ HB1.out).2.2⟩
  subst hk
  go_wp2_with fail
  refine D1.out.mono ?_
  rintro e w2 ⟨rfl, B2⟩
  have HB2 : Hid (Below (w.alloc (.cells #[.slice a1 xs.length c1, .slice a2 ys.length c2, .slice (some ⟨g2, o2, none⟩) is.length c3, .slice a4 bs.length c4] 35)).heap.size (w.alloc (.cells #[.slice a1 xs.length c1, .slice a2 ys.length c2, .slice (some ⟨g2, o2, none⟩) is.length c3, .slice a4 bs.length c4] 35)) w2) := hide (HB1.out.trans (B2.mono HB1.out.size))
  clear B2 D1 z0 z1 z2 z3
  have z0 : w2.cell? ⟨w.heap.size, 0, none⟩ = some (.slice a1 xs.length c1) := (HW.out w2 HB2.out).1.cell 0
  have z1 : w2.cell? ⟨w.heap.size, 1, none⟩ = some (.slice a2 ys.length c2) := (HW.out w2 HB2.out).1.cell 1
  have z2 : w2.cell? ⟨w.heap.size, 2, none⟩ = some (.slice (some ⟨g2, o2, none⟩) is.length c3) := (HW.out w2 HB2.out).1.cell 2
  have z3 : w2.cell? ⟨w.heap.size, 3, none⟩ = some (.slice a4 bs.length c4) := (HW.out w2 HB2.out).1.cell 3
  have D2 := hide (C2.out w2 (HW.out w2 HB2.out).2.2)
  by_cases hz1 : n1 = 0
  rotate_left
  · have hzb : ((n1 : Int) == 0) = false := by simp; omega
    have HF : Hid (safeB xs ys is bs = false) := hide (by rw [HS.out]; simp [hz1])
    clear hz1
    go_wp2
    go_ret
    exact ⟨by rw [HF.out]; rfl, (HW.out _ HB2.out).2.2⟩
  subst hz1
  go_wp2_with fail
  refine D2.out.mono ?_
  rintro e w3 ⟨rfl, B3⟩
  have HB3 : Hid (Below (w.alloc (.cells #[.slice a1 xs.length c1, .slice a2 ys.length c2, .slice (some ⟨g2, o2, none⟩) is.length c3, .slice a4 bs.length c4] 35)).heap.size (w.alloc (.cells #[.slice a1 xs.length c1, .slice a2 ys.length c2, .slice (some ⟨g2, o2, none⟩) is.length c3, .slice a4 bs.length c4] 35)) w3) := hide (HB2.out.trans (B3.mono HB2.out.size))
  clear B3 D2 z0 z1 z2 z3
  have z0 : w3.cell? ⟨w.heap.size, 0, none⟩ = some (.slice a1 xs.length c1) := (HW.out w3 HB3.out).1.cell 0
  have z1 : w3.cell? ⟨w.heap.size, 1, none⟩ = some (.slice a2 ys.length c2) := (HW.out w3 HB3.out).1.cell 1
  have z2 : w3.cell? ⟨w.heap.size, 2, none⟩ = some (.slice (some ⟨g2, o2, none⟩) is.length c3) := (HW.out w3 HB3.out).1.cell 2
  have z3 : w3.cell? ⟨w.heap.size, 3, none⟩ = some (.slice a4 bs.length c4) := (HW.out w3 HB3.out).1.cell 3
  have D3 := hide (C3.out w3 (HW.out w3 HB3.out).2.2)
  by_cases hz2 : n2 = 0
  rotate_left
  · have hzb : ((n2 : Int) == 0) = false := by simp; omega
    have HF : Hid (safeB xs ys is bs = false) := hide (by rw [HS.out]; simp [hz2])
    clear hz2
    go_wp2
    go_ret
    exact ⟨by rw [HF.out]; rfl, (HW.out _ HB3.out).2.2⟩
  subst hz2
  go_wp2_with fail
  refine D3.out.mono ?_
  rintro e w4 ⟨rfl, B4⟩
  have HB4 : Hid (Below (w.alloc (.cells #[.slice a1 xs.length c1, .slice a2 ys.length c2, .slice (some ⟨g2, o2, none⟩) is.length c3, .slice a4 bs.length c4] 35)).heap.size (w.alloc (.cells #[.slice a1 xs.length c1, .slice a2 ys.length c2, .slice (some ⟨g2, o2, none⟩) is.length c3, .slice a4 bs.length c4] 35)) w4) := hide (HB3.out.trans (B4.mono HB3.out.size))
  clear B4 D3 z0 z1 z2 z3
  have z0 : w4.cell? ⟨w.heap.size, 0, none⟩ = some (.slice a1 xs.length c1) := (HW.out w4 HB4.out).1.cell 0
  have z1 : w4.cell? ⟨w.heap.size, 1, none⟩ = some (.slice a2 ys.length c2) := (HW.out w4 HB4.out).1.cell 1
  have z2 : w4.cell? ⟨w.heap.size, 2, none⟩ = some (.slice (some ⟨g2, o2, none⟩) is.length c3) := (HW.out w4 HB4.out).1.cell 2
  have z3 : w4.cell? ⟨w.heap.size, 3, none⟩ = some (.slice a4 bs.length c4) := (HW.out w4 HB4.out).1.cell 3
  have D4 := hide (C4.out w4 (HW.out w4 HB4.out).2.2)
  by_cases hz3 : n3 = 0
  rotate_left
  · have hzb : ((n3 : Int) == 0) = false := by simp; omega
    have HF : Hid (safeB xs ys is bs = false) := hide (by rw [HS.out]; simp [hz3])
    clear hz3
    go_wp2
    go_ret
    exact ⟨by rw [HF.out]; rfl, (HW.out _ HB4.out).2.2⟩
  subst hz3
  go_wp2_with fail
  refine D4.out.mono ?_
  rintro e w5 ⟨rfl, B5⟩
  have HB5 : Hid (Below (w.alloc (.cells #[.slice a1 xs.length c1, .slice a2 ys.length c2, .slice (some ⟨g2, o2, none⟩) is.length c3, .slice a4 bs.length c4] 35)).heap.size (w.alloc (.cells #[.slice a1 xs.length c1, .slice a2 ys.length c2, .slice (some ⟨g2, o2, none⟩) is.length c3, .slice a4 bs.length c4] 35)) w5) := hide (HB4.out.trans (B5.mono HB4.out.size))
  clear B5 D4 z0 z1 z2 z3
  have z0 : w5.cell? ⟨w.heap.size, 0, none⟩ = some (.slice a1 xs.length c1) := (HW.out w5 HB5.out).1.cell 0
  have z1 : w5.cell? ⟨w.heap.size, 1, none⟩ = some (.slice a2 ys.length c2) := (HW.out w5 HB5.out).1.cell 1
  have z2 : w5.cell? ⟨w.heap.size, 2, none⟩ = some (.slice (some ⟨g2, o2, none⟩) is.length c3) := (HW.out w5 HB5.out).1.cell 2
  have z3 : w5.cell? ⟨w.heap.size, 3, none⟩ = some (.slice a4 bs.length c4) := (HW.out w5 HB5.out).1.cell 3
  have D5 := hide (C5.out w5 (HW.out w5 HB5.out).2.2)
  by_cases hz4 : n4 = 0
  rotate_left
  · have hzb : ((n4 : Int) == 0) = false := by simp; omega
    have HF : Hid (safeB xs ys is bs = false) := hide (by rw [HS.out]; simp [hz4])
    clear hz4
    go_wp2
    go_ret
    exact ⟨by rw [HF.out]; rfl, (HW.out _ HB5.out).2.2⟩
  subst hz4
  go_wp2_with fail
  refine D5.out.mono ?_
  rintro e w6 ⟨rfl, B6⟩
  have HB6 : Hid (Below (w.alloc (.cells #[.slice a1 xs.length c1, .slice a2 ys.length c2, .slice (some ⟨g2, o2, none⟩) is.length c3, .slice a4 bs.length c4] 35)).heap.size (w.alloc (.cells #[.slice a1 xs.length c1, .slice a2 ys.length c2, .slice (some ⟨g2, o2, none⟩) is.length c3, .slice a4 bs.length c4] 35)) w6) := hide (HB5.out.trans (B6.mono HB5.out.size))
  clear B6 D5 z0 z1 z2 z3
  by_cases hz5 : n5 = 0
  rotate_left
  · have hzb : ((n5 : Int) == 0) = false := by simp; omega
    have HF : Hid (safeB xs ys is bs = false) := hide (by rw [HS.out]; simp [hz5])
    clear hz5
    go_wp2
    go_ret
    exact ⟨by rw [HF.out]; rfl, (HW.out _ HB6.out).2.2⟩
  subst hz5
  have HF : Hid (safeB xs ys is bs = true) := hide (by rw [HS.out]; simp)
  go_wp2
  go_ret
  exact ⟨by rw [HF.out]; rfl, (HW.out _ HB6.out).2.2⟩
end Go.Proofs.YtljooldjcefkoaaGreat
/- impl.Shared by its contract. -/
namespace Go.Proofs.YtljooldjcefkoaaGreat
open Go.RowKit Kit
set_option maxRecDepth 100000 in
set_option maxHeartbeats 3200000 in
theorem implShr_any (dx dy iv bv : Value) (xs ys : List Bool) (is : List Ino) (bs : List Blk) (w : World) (h : DR w dx dy iv bv xs ys is bs) (hX : RX xs ys is bs) :
    Calls Tryz.prog 27 #[.agg #[dx, dy, iv, bv]] w fun e w' => e = .returned (.int .i64 (sharedN is)) ∧ Below w.heap.size w w' := by
  obtain ⟨a1, c1, a2, c2, a3, c3, a4, c4, rfl, rfl, rfl, rfl⟩ := h.form
  have hmf : ∀ (fn : Fn) (first cap : Array Value) (w : World), (Instr.makeFunc fn first cap).run Tryz.prog w = .ok (.func fn first cap) w := fun _ _ _ _ => rfl
  obtain ⟨W0, hW0⟩ : ∃ W, ((w.alloc (.cells #[.slice a1 xs.length c1, .slice a2 ys.length c2, .slice a3 is.length c3, .slice a4 bs.length c4] 35)).alloc (.cells #[.bool false, .bool false, .bool false, .bool false, .bool false, .bool false, .bool false, .bool false, .bool false, .bool false, .bool false, .bool false, .bool false, .bool false, .bool false, .bool false] 89)) = W := ⟨_, rfl⟩
  have HA : Hid (AtC W0 w.heap.size 35 #[.slice a1 xs.length c1, .slice a2 ys.length c2, .slice a3 is.length c3, .slice a4 bs.length c4] ∧ AtC W0 (w.heap.size + 1) 89 (hA (List.replicate 16 false)) ∧ Below w.heap.size w W0) := by
    rw [← hW0]
    have a := AtC.new (w.alloc (.cells #[.slice a1 xs.length c1, .slice a2 ys.length c2, .slice a3 is.length c3, .slice a4 bs.length c4] 35)) 89 #[.bool false, .bool false, .bool false, .bool false, .bool false, .bool false, .bool false, .bool false, .bool false, .bool false, .bool false, .bool false, .bool false, .bool false, .bool false, .bool false]
    rw [World.size_alloc] at a
    exact ⟨(AtC.new w 35 _).alloc _, a, ((Below.refl _ w).alloc (Nat.le_refl _) _).alloc (by simp) _⟩
  have CK := hide (knd_any (.slice a1 xs.length c1) (.slice a2 ys.length c2) (.slice a3 is.length c3) (.slice a4 bs.length c4) xs ys is bs W0.drew (h.below HA.out.2.2.drew (Nat.le_refl _)) hX.r)
  have CP : Hid (∀ (lv : Value) (W : World), Below w.heap.size w W → RInts W lv (kndL is) → Calls Tryz.prog 63 #[.agg #[.slice a1 xs.length c1, .slice a2 ys.length c2, .slice a3 is.length c3, .slice a4 bs.length c4], lv] W fun e w' => ∃ v, e = .returned v ∧ POwns w' W.heap.size 93 v (ptrL is (kndL is)) ∧ Below W.heap.size W w') := fun lv W hb ho => ptrsOf_any lv (kndL is) (.slice a1 xs.length c1) (.slice a2 ys.length c2) (.slice a3 is.length c3) (.slice a4 bs.length c4) xs ys is bs W (h.below hb (Nat.le_refl _)) hX.r ho (kndL_len is) (fun i hi => (mem_kndL.1 hi).1)
  have CC : Hid (∀ (v : Value) (B : Nat) (W : World), w.heap.size + 1 < B → POwns W B 93 v (ptrL is (kndL is)) → Below w.heap.size w W → AtC W (w.heap.size + 1) 89 (hA (List.replicate 16 false)) → Calls Tryz.prog 65 #[.agg #[v, .func (.func 64) #[] #[.pointer (some ⟨w.heap.size + 1, 0, none⟩)]]] W fun e w' => e = .returned (.int .i64 (sharedN is)) ∧ Below w.heap.size w w') := fun v B W hB ho b1 ha => by
    have hzl : (ptrL is (kndL is)).length = (allP is).length := by unfold allP; rw [List.length_map]
    refine (cntP_any 64 eg64 (.pointer (some ⟨w.heap.size + 1, 0, none⟩)) v (ptrL is (kndL is)) (fun k => decide ((allP is).getD k 0 ∈ (allP is).take k)) (HadW (allP is) (w.heap.size + 1)) (fun k => k = w.heap.size + 1) W (by have := allP_len hX.r; omega) (fun k e => by rw [e]; exact ha.lt) (fun W' c => (ho.of_heap (fun k hk => c.block k (ho.lt k hk).2 (fun e => by have := (ho.lt k hk).1; omega))).rpr) (fun W' b => ⟨_, ha.over b, Had.begin _⟩) (fun k W1 W2 hh b => by obtain ⟨hl, h1, h2⟩ := hh; exact ⟨hl, h1.over b, h2⟩) (fun k hk W' hI _ => ?_)).mono ?_
    · obtain ⟨hl, h1, h2⟩ := hI
      have hk' : k < (allP is).length := by omega
      have hr := (mem_ptrL (List.getElem_mem hk)).2
      have hak : (allP is)[k] = ((ptrL is (kndL is))[k]).2 := List.getElem_map _
      obtain ⟨⟨io, p⟩, hs⟩ : ∃ s, (ptrL is (kndL is))[k] = s := ⟨_, rfl⟩
      rw [hs] at hr hak ⊢
      simp only at hr hak ⊢
      obtain ⟨q, rfl⟩ : ∃ q : Nat, p = (q : Int) + 1 := ⟨(p - 1).toNat, by omega⟩
      refine (c64_any io q (w.heap.size + 1) hl W' h1 h2.n (by omega)).mono fun e w' hh => ⟨?_, ⟨_, hh.2.1, h2.next hk' hak (by omega)⟩, hh.2.2⟩
      rw [hh.1, h2.f q (by omega), getD_at 0 hk', hak]
    · rintro e w' ⟨rfl, -, c⟩
      refine ⟨?_, b1.trans (c.below b1.size (fun k hk => by rw [hk]; omega))⟩
      rw [hzl]
      rfl
  have HW : Hid (∀ W, Below W0.drew.heap.size W0.drew W → AtC W w.heap.size 35 #[.slice a1 xs.length c1, .slice a2 ys.length c2, .slice a3 is.length c3, .slice a4 bs.length c4] ∧ AtC W (w.heap.size + 1) 89 (hA (List.replicate 16 false)) ∧ Below w.heap.size w W) := fun W b => ⟨HA.out.1.drew.over b, HA.out.2.1.drew.over b, HA.out.2.2.drew.trans (b.mono HA.out.2.2.drew.size)⟩
  have z0 : W0.drew.cell? ⟨w.heap.size, 0, none⟩ = some (.slice a1 xs.length c1) := HA.out.1.drew.cell 0
  have z1 : W0.drew.cell? ⟨w.heap.size, 1, none⟩ = some (.slice a2 ys.length c2) := HA.out.1.drew.cell 1
  have z2 : W0.drew.cell? ⟨w.heap.size, 2, none⟩ = some (.slice a3 is.length c3) := HA.out.1.drew.cell 2
  have z3 : W0.drew.cell? ⟨w.heap.size, 3, none⟩ = some (.slice a4 bs.length c4) := HA.out.1.drew.cell 3
  clear h hX
  go_enter Tryz.func27, Tryz.ntmps27
  go_upto_region 2 with fail
  clear hW0
  go_region_with (first | (go_at_call 40; refine CK.out.mono ?_; rintro e w1 ⟨kv, rfl, R1, B1⟩; obtain ⟨H1, H2, H3⟩ := HW.out _ B1; obtain ⟨ra, rc, rfl, -⟩ := R1.form; rw [ic_length] at R1 ⊢; have CP1 := hide (CP.out _ w1 H3 R1.rints); have HB1 := hide B1; have y0 : w1.cell? ⟨w.heap.size, 0, none⟩ = some (.slice a1 xs.length c1) := H1.cell 0; have y1 : w1.cell? ⟨w.heap.size, 1, none⟩ = some (.slice a2 ys.length c2) := H1.cell 1; have y2 : w1.cell? ⟨w.heap.size, 2, none⟩ = some (.slice a3 is.length c3) := H1.cell 2; have y3 : w1.cell? ⟨w.heap.size, 3, none⟩ = some (.slice a4 bs.length c4) := H1.cell 3; clear R1 B1 H1 H2 H3) | (go_at_call 63; refine CP1.out.mono ?_; rintro e w2 ⟨pv, rfl, P2, B2⟩; obtain ⟨H1, H2, H3⟩ := HW.out _ (HB1.out.trans (B2.mono HB1.out.size)); have CC1 := hide (CC.out pv w1.heap.size w2 (by have h9 := (HW.out _ HB1.out).2.1.lt; exact h9) P2 H3 H2); obtain ⟨pa, pc', rfl, -⟩ := P2.form; clear P2 B2 H1 H2 H3) | (go_at_call 65; refine CC1.out.mono ?_; rintro e w3 ⟨rfl, B3⟩))
  all_goals (try go_wp2)
  all_goals go_ret
  all_goals exact ⟨rfl, B3⟩
end Go.Proofs.YtljooldjcefkoaaGreat
