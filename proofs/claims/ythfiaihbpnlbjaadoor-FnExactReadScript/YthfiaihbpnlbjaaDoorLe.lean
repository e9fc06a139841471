/- spec.l19Event by its contract: the event of a line's parts. -/
import Derived.Test.YthfiaihbpnlbjaaDoorRs
import Derived.Test.YthfiaihbpnlbjaaDoorRDa
import Derived.Deep.QuietTactic
import Derived.BigQuiet
import Derived.Deep.DeepCutAuto
namespace Go.Proofs.YthfiaihbpnlbjaaDoor
open Go.RowKit Kit
theorem evF_hit (x : ByteArray) (n : Nat) {r : List (ByteArray × Nat)} {k : Nat} {p0 : ByteArray} {p : List ByteArray} (h1 : p0 = x) (h2 : p.length + 1 = n) : evF ((x, n) :: r) k (p0 :: p) = evK k (p0 :: p) := by
  rw [evF, if_pos ⟨h1, h2⟩]
theorem evF_word (x : ByteArray) (n : Nat) {r : List (ByteArray × Nat)} {k : Nat} {p0 : ByteArray} {p : List ByteArray} (h1 : p0 ≠ x) : evF ((x, n) :: r) k (p0 :: p) = evF r (k + 1) (p0 :: p) := by
  rw [evF, if_neg (fun h => h1 h.1)]
theorem evF_len (x : ByteArray) (n : Nat) {r : List (ByteArray × Nat)} {k : Nat} {p0 : ByteArray} {p : List ByteArray} (h1 : p.length + 1 ≠ n) : evF ((x, n) :: r) k (p0 :: p) = evF r (k + 1) (p0 :: p) := by
  rw [evF, if_neg (fun h => h1 h.2)]
set_option maxRecDepth 100000 in
set_option maxHeartbeats 12800000 in
theorem specEvent_any (v : Value) (x0 : ByteArray) (r : List ByteArray) (w : World) (hv : RSt w v (x0 :: r)) (hz : ∀ x ∈ r, x.size ≤ 600) (hl : r.length ≤ 10) :
    Calls Tryd.prog 11 #[v] w fun e w' => e = .returned (.tuple #[evW (evP (x0 :: r)).1, .bool (evP (x0 :: r)).2]) ∧ Below w.heap.size w w' := by
  obtain ⟨a, c, rfl, hc⟩ := hv
  have HC : Hid (∀ (W : World), Below w.heap.size w W → ∀ (j : Nat) (h : j < (x0 :: r).length), ∃ g off, a = some ⟨g, off, none⟩ ∧ W.cell? ⟨g, off + j, none⟩ = some (.string (x0 :: r)[j])) := fun W hb j hj => by
    obtain ⟨g, off, e, hg, c0⟩ := hc j hj
    exact ⟨g, off, e, (hb.cell (p := ⟨g, off + j, none⟩) hg).trans c0⟩
  obtain ⟨g, off, rfl, hg, -⟩ := hc 0 (by simp)
  have HZ := hide hz
  clear hc hz
  have hl0 : (x0 :: r).length = r.length + 1 := rfl
  rw [hl0]
  clear hl0
  obtain ⟨n, hn⟩ : ∃ n, r.length = n := ⟨_, rfl⟩
  rw [hn] at hl ⊢
  have HN := hide hn
  clear hn
  obtain ⟨P, hP⟩ : ∃ P, evP (x0 :: r) = P := ⟨_, rfl⟩
  have HP : Hid (evF (wk.drop 0) 1 (x0 :: r) = P) := hide hP
  rw [hP]
  clear hP
  obtain ⟨W0, hW0⟩ : ∃ W0, (((w.alloc (.cells #[.int .i64 0, .string e0, .string e0, .int .i64 0, .string e0] 33)).alloc (.cells #[.string { data := #[109, 97, 107, 101] }, .string { data := #[100, 105, 114] }, .string { data := #[119, 114, 105, 116, 101] }, .string { data := #[114, 101, 109, 111, 118, 101] }, .string { data := #[109, 111, 118, 101] }, .string { data := #[98, 97, 99, 107] }, .string { data := #[102, 108, 117, 115, 104] }, .string { data := #[102, 97, 108, 108] }] 9)).alloc (.cells #[.int .i64 2, .int .i64 2, .int .i64 4, .int .i64 2, .int .i64 3, .int .i64 2, .int .i64 1, .int .i64 1] 3)) = W0 := ⟨_, rfl⟩
  have HB : Hid (Below w.heap.size w W0 ∧ AtC W0 w.heap.size 33 #[.int .i64 0, .string e0, .string e0, .int .i64 0, .string e0] ∧ AtC W0 (w.heap.size + 1) 9 #[.string { data := #[109, 97, 107, 101] }, .string { data := #[100, 105, 114] }, .string { data := #[119, 114, 105, 116, 101] }, .string { data := #[114, 101, 109, 111, 118, 101] }, .string { data := #[109, 111, 118, 101] }, .string { data := #[98, 97, 99, 107] }, .string { data := #[102, 108, 117, 115, 104] }, .string { data := #[102, 97, 108, 108] }] ∧ AtC W0 (w.heap.size + 1 + 1) 3 #[.int .i64 2, .int .i64 2, .int .i64 4, .int .i64 2, .int .i64 3, .int .i64 2, .int .i64 1, .int .i64 1] ∧ w.heap.size + 1 + 1 < W0.heap.size) := by
    rw [← hW0]
    have z1 : (w.alloc (.cells #[.int .i64 0, .string e0, .string e0, .int .i64 0, .string e0] 33)).heap.size = w.heap.size + 1 := by simp
    have z2 : ((w.alloc (.cells #[.int .i64 0, .string e0, .string e0, .int .i64 0, .string e0] 33)).alloc (.cells #[.string { data := #[109, 97, 107, 101] }, .string { data := #[100, 105, 114] }, .string { data := #[119, 114, 105, 116, 101] }, .string { data := #[114, 101, 109, 111, 118, 101] }, .string { data := #[109, 111, 118, 101] }, .string { data := #[98, 97, 99, 107] }, .string { data := #[102, 108, 117, 115, 104] }, .string { data := #[102, 97, 108, 108] }] 9)).heap.size = w.heap.size + 1 + 1 := by simp
    refine hide ⟨(((Below.refl _ w).alloc (Nat.le_refl _) _).alloc (by omega) _).alloc (by omega) _, ((AtC.new w 33 _).alloc _).alloc _, ?_, ?_, by simp⟩
    · have := AtC.new (w.alloc (.cells #[.int .i64 0, .string e0, .string e0, .int .i64 0, .string e0] 33)) 9 #[.string { data := #[109, 97, 107, 101] }, .string { data := #[100, 105, 114] }, .string { data := #[119, 114, 105, 116, 101] }, .string { data := #[114, 101, 109, 111, 118, 101] }, .string { data := #[109, 111, 118, 101] }, .string { data := #[98, 97, 99, 107] }, .string { data := #[102, 108, 117, 115, 104] }, .string { data := #[102, 97, 108, 108] }]
      rw [z1] at this
      exact this.alloc _
    · have := AtC.new ((w.alloc (.cells #[.int .i64 0, .string e0, .string e0, .int .i64 0, .string e0] 33)).alloc (.cells #[.string { data := #[109, 97, 107, 101] }, .string { data := #[100, 105, 114] }, .string { data := #[119, 114, 105, 116, 101] }, .string { data := #[114, 101, 109, 111, 118, 101] }, .string { data := #[109, 111, 118, 101] }, .string { data := #[98, 97, 99, 107] }, .string { data := #[102, 108, 117, 115, 104] }, .string { data := #[102, 97, 108, 108] }] 9)) 3 #[.int .i64 2, .int .i64 2, .int .i64 4, .int .i64 2, .int .i64 3, .int .i64 2, .int .i64 1, .int .i64 1]
      rw [z2] at this
      exact this
  obtain ⟨eb, heb⟩ : ∃ eb, W0.heap.size = eb := ⟨_, rfl⟩
  have hgb : g < eb := by have := HB.out.2.2.2.2; omega
  have hlb : w.heap.size + 1 + 1 < eb := by have := HB.out.2.2.2.2; omega
  go_enter Tryd.func11, Tryd.ntmps11
  go_wp2
  go_loopw [6] (fun i wr => ∃ (j q : Nat), j ≤ 8 ∧ i = .int .i64 j ∧ Hid (evF (wk.drop j) (j + 1) (x0 :: r) = P) ∧ wr = W0.drewN q) (fun i _ => 8 - (intOf i).toNat)
  case atStart => exact ⟨0, 0, by omega, rfl, HP, rfl⟩
  case round =>
    obtain ⟨j, q, hj, rfl, HF, rfl⟩ := hrel
    clear HP hW0
    obtain ⟨g', off', e, k0⟩ := HC.out _ HB.out.1 0 (by simp)
    simp only [Option.some.injEq, Addr.mk.injEq, and_true] at e
    obtain ⟨rfl, rfl⟩ := e
    simp only [Nat.add_zero, List.getElem_cons_zero] at k0
    have hjs : j = 0 ∨ j = 1 ∨ j = 2 ∨ j = 3 ∨ j = 4 ∨ j = 5 ∨ j = 6 ∨ j = 7 ∨ j = 8 := by omega
    rcases hjs with rfl | rfl | rfl | rfl | rfl | rfl | rfl | rfl | rfl
    · replace HF : Hid (evF (({ data := #[109, 97, 107, 101] }, 2) :: wk.drop 1) 1 (x0 :: r) = P) := HF
      have kw : W0.cell? ⟨w.heap.size + 1, 0, none⟩ = some (.string { data := #[109, 97, 107, 101] }) := HB.out.2.2.1.cell 0
      have ks : W0.cell? ⟨w.heap.size + 1 + 1, 0, none⟩ = some (.int .i64 2) := HB.out.2.2.2.1.cell 0
      by_cases h1 : x0 = { data := #[109, 97, 107, 101] }
      · by_cases h2 : n + 1 = 2
        · have HQ : Hid (evK 1 (x0 :: r) = P) := hide (by rw [← HF.out]; exact (evF_hit _ 2 h1 (by have := HN.out; omega)).symm)
          clear HF
          obtain rfl : n = 1 := by omega
          subst h1
          clear h2
          obtain ⟨y1, rfl⟩ : ∃ y1, r = [y1] := by
            have h := HN.out
            match r, h with
            | [y1], _ => exact ⟨y1, rfl⟩
          obtain ⟨g', off', e, k1⟩ := HC.out _ HB.out.1 1 (by simp)
          simp only [Option.some.injEq, Addr.mk.injEq, and_true] at e
          obtain ⟨rfl, rfl⟩ := e
          replace k1 : _ = some (Value.string y1) := k1
          go_wp2
          go_quiet (fail)
          go_upto_region 19 with fail
          generalize hX : World.alloc _ _ = X
          have HX : Hid (Below w.heap.size w X ∧ AtC X w.heap.size 33 #[.int .i64 0, .string e0, .string e0, .int .i64 0, .string e0] ∧ AtC X eb 33 #[.int .i64 1, .string y1, .string e0, .int .i64 0, .string e0] ∧ eb < X.heap.size) := by
            rw [← hX]
            refine hide ⟨(bdN HB.out.1 _).alloc (by show w.heap.size ≤ W0.heap.size; omega) _, AtC.alloc (show AtC (W0.drewN _) w.heap.size 33 #[.int .i64 0, .string e0, .string e0, .int .i64 0, .string e0] from HB.out.2.1) _, ?_, ?_⟩
            · rw [← heb]
              exact AtC.new _ 33 _
            · show eb < (World.alloc _ _).heap.size
              rw [← heb]
              simp
          obtain ⟨m0, m1, m2, m3, m4, mz⟩ := HX.out.2.2.1.five
          obtain ⟨l0, l1, l2, l3, l4, lz⟩ := HX.out.2.1.five
          obtain ⟨f0, f1, f2, f3, f4⟩ := HX.out.2.1.frz5
          have HR := hide (res5 HX.out.2.1 (.int .i64 1) (.string y1) (.string e0) (.int .i64 0) (.string e0))
          obtain ⟨r0, r1, r2, r3, r4, rz⟩ := HR.out.five
          clear hX
          go_wp2
          refine bodyPost_ret (v := .tuple #[.agg #[.int .i64 1, .string y1, .string e0, .int .i64 0, .string e0], .bool true]) (by simp [results, go_sem, r0, r1, r2, r3, r4]) rfl ⟨by rw [← HQ.out]; rfl, ?_⟩
          exact below_set (below_set (below_set (below_set (below_set HX.out.1 _ _ _ (Nat.le_refl _)) _ _ _ (Nat.le_refl _)) _ _ _ (Nat.le_refl _)) _ _ _ (Nat.le_refl _)) _ _ _ (Nat.le_refl _)
        · have HQ : Hid (evF (wk.drop 1) (1 + 1) (x0 :: r) = P) := hide (by rw [← HF.out]; exact (evF_len _ 2 (by have := HN.out; omega)).symm)
          clear HF
          subst h1
          have h3 : ((n : Int) + 1 == 2) = false := by simp; omega
          have h4 : ((n : Int) + 1 != 2) = true := by simp; omega
          go_wp2
          go_quiet (fail)
          go_wp2
          go_roundw
          case rel => exact ⟨1, _, by omega, rfl, HQ, rfl⟩
          case measure => simp [intOf]
      · have HQ : Hid (evF (wk.drop 1) (1 + 1) (x0 :: r) = P) := hide (by rw [← HF.out]; exact (evF_word _ _ h1).symm)
        have h5 : (x0.toList == ([109, 97, 107, 101] : List UInt8)) = false := by have := ne_list h1; rw [ByteArray.toList_eq { data := #[109, 97, 107, 101] }] at this; exact this
        clear HF h1
        go_wp2
        go_quiet (fail)
        go_wp2
        go_roundw
        case rel => exact ⟨1, _, by omega, rfl, HQ, rfl⟩
        case measure => simp [intOf]
    · replace HF : Hid (evF (({ data := #[100, 105, 114] }, 2) :: wk.drop 2) 2 (x0 :: r) = P) := HF
      have kw : W0.cell? ⟨w.heap.size + 1, 1, none⟩ = some (.string { data := #[100, 105, 114] }) := HB.out.2.2.1.cell 1
      have ks : W0.cell? ⟨w.heap.size + 1 + 1, 1, none⟩ = some (.int .i64 2) := HB.out.2.2.2.1.cell 1
      by_cases h1 : x0 = { data := #[100, 105, 114] }
      · by_cases h2 : n + 1 = 2
        · have HQ : Hid (evK 2 (x0 :: r) = P) := hide (by rw [← HF.out]; exact (evF_hit _ 2 h1 (by have := HN.out; omega)).symm)
          clear HF
          obtain rfl : n = 1 := by omega
          subst h1
          clear h2
          obtain ⟨y1, rfl⟩ : ∃ y1, r = [y1] := by
            have h := HN.out
            match r, h with
            | [y1], _ => exact ⟨y1, rfl⟩
          obtain ⟨g', off', e, k1⟩ := HC.out _ HB.out.1 1 (by simp)
          simp only [Option.some.injEq, Addr.mk.injEq, and_true] at e
          obtain ⟨rfl, rfl⟩ := e
          replace k1 : _ = some (Value.string y1) := k1
          go_wp2
          go_quiet (fail)
          go_upto_region 19 with fail
          generalize hX : World.alloc _ _ = X
          have HX : Hid (Below w.heap.size w X ∧ AtC X w.heap.size 33 #[.int .i64 0, .string e0, .string e0, .int .i64 0, .string e0] ∧ AtC X eb 33 #[.int .i64 2, .string y1, .string e0, .int .i64 0, .string e0] ∧ eb < X.heap.size) := by
            rw [← hX]
            refine hide ⟨(bdN HB.out.1 _).alloc (by show w.heap.size ≤ W0.heap.size; omega) _, AtC.alloc (show AtC (W0.drewN _) w.heap.size 33 #[.int .i64 0, .string e0, .string e0, .int .i64 0, .string e0] from HB.out.2.1) _, ?_, ?_⟩
            · rw [← heb]
              exact AtC.new _ 33 _
            · show eb < (World.alloc _ _).heap.size
              rw [← heb]
              simp
          obtain ⟨m0, m1, m2, m3, m4, mz⟩ := HX.out.2.2.1.five
          obtain ⟨l0, l1, l2, l3, l4, lz⟩ := HX.out.2.1.five
          obtain ⟨f0, f1, f2, f3, f4⟩ := HX.out.2.1.frz5
          have HR := hide (res5 HX.out.2.1 (.int .i64 2) (.string y1) (.string e0) (.int .i64 0) (.string e0))
          obtain ⟨r0, r1, r2, r3, r4, rz⟩ := HR.out.five
          clear hX
          go_wp2
          refine bodyPost_ret (v := .tuple #[.agg #[.int .i64 2, .string y1, .string e0, .int .i64 0, .string e0], .bool true]) (by simp [results, go_sem, r0, r1, r2, r3, r4]) rfl ⟨by rw [← HQ.out]; rfl, ?_⟩
          exact below_set (below_set (below_set (below_set (below_set HX.out.1 _ _ _ (Nat.le_refl _)) _ _ _ (Nat.le_refl _)) _ _ _ (Nat.le_refl _)) _ _ _ (Nat.le_refl _)) _ _ _ (Nat.le_refl _)
        · have HQ : Hid (evF (wk.drop 2) (2 + 1) (x0 :: r) = P) := hide (by rw [← HF.out]; exact (evF_len _ 2 (by have := HN.out; omega)).symm)
          clear HF
          subst h1
          have h3 : ((n : Int) + 1 == 2) = false := by simp; omega
          have h4 : ((n : Int) + 1 != 2) = true := by simp; omega
          go_wp2
          go_quiet (fail)
          go_wp2
          go_roundw
          case rel => exact ⟨2, _, by omega, rfl, HQ, rfl⟩
          case measure => simp [intOf]
      · have HQ : Hid (evF (wk.drop 2) (2 + 1) (x0 :: r) = P) := hide (by rw [← HF.out]; exact (evF_word _ _ h1).symm)
        have h5 : (x0.toList == ([100, 105, 114] : List UInt8)) = false := by have := ne_list h1; rw [ByteArray.toList_eq { data := #[100, 105, 114] }] at this; exact this
        clear HF h1
        go_wp2
        go_quiet (fail)
        go_wp2
        go_roundw
        case rel => exact ⟨2, _, by omega, rfl, HQ, rfl⟩
        case measure => simp [intOf]
    · replace HF : Hid (evF (({ data := #[119, 114, 105, 116, 101] }, 4) :: wk.drop 3) 3 (x0 :: r) = P) := HF
      have kw : W0.cell? ⟨w.heap.size + 1, 2, none⟩ = some (.string { data := #[119, 114, 105, 116, 101] }) := HB.out.2.2.1.cell 2
      have ks : W0.cell? ⟨w.heap.size + 1 + 1, 2, none⟩ = some (.int .i64 4) := HB.out.2.2.2.1.cell 2
      by_cases h1 : x0 = { data := #[119, 114, 105, 116, 101] }
      · by_cases h2 : n + 1 = 4
        · have HQ : Hid (evK 3 (x0 :: r) = P) := hide (by rw [← HF.out]; exact (evF_hit _ 4 h1 (by have := HN.out; omega)).symm)
          clear HF
          obtain rfl : n = 3 := by omega
          subst h1
          clear h2
          obtain ⟨y1, y2, y3, rfl⟩ : ∃ y1 y2 y3, r = [y1, y2, y3] := by
            have h := HN.out
            match r, h with
            | [y1, y2, y3], _ => exact ⟨y1, y2, y3, rfl⟩
          obtain ⟨g', off', e, k1⟩ := HC.out _ HB.out.1 1 (by simp)
          simp only [Option.some.injEq, Addr.mk.injEq, and_true] at e
          obtain ⟨rfl, rfl⟩ := e
          replace k1 : _ = some (Value.string y1) := k1
          obtain ⟨g', off', e, k2⟩ := HC.out _ HB.out.1 2 (by simp)
          simp only [Option.some.injEq, Addr.mk.injEq, and_true] at e
          obtain ⟨rfl, rfl⟩ := e
          replace k2 : _ = some (Value.string y2) := k2
          obtain ⟨g', off', e, k3⟩ := HC.out _ HB.out.1 3 (by simp)
          simp only [Option.some.injEq, Addr.mk.injEq, and_true] at e
          obtain ⟨rfl, rfl⟩ := e
          replace k3 : _ = some (Value.string y3) := k3
          go_wp2
          go_quiet (fail)
          go_wp2_with fail
          refine (specRD_any y2 _ _ (rdN_ok _)).mono ?_
          rintro e w1 ⟨rfl, B1⟩
          rw [nu_val]
          obtain ⟨nu, hnu⟩ : ∃ nu, nuN y2 = nu := ⟨_, rfl⟩
          obtain ⟨nb, hnb⟩ : ∃ nb, nuB y2 = nb := ⟨_, rfl⟩
          rw [hnu, hnb]
          have HNU := hide (And.intro hnu hnb)
          generalize hX0 : World.alloc _ _ = X0 at B1
          have HX0 : Hid (Below w.heap.size w X0 ∧ AtC X0 w.heap.size 33 #[.int .i64 0, .string e0, .string e0, .int .i64 0, .string e0] ∧ AtC X0 eb 33 #[.int .i64 3, .string e0, .string e0, .int .i64 0, .string e0] ∧ eb < X0.heap.size) := by
            rw [← hX0]
            refine hide ⟨(bdN HB.out.1 _).alloc (by show w.heap.size ≤ W0.heap.size; omega) _, AtC.alloc (show AtC (W0.drewN _) w.heap.size 33 #[.int .i64 0, .string e0, .string e0, .int .i64 0, .string e0] from HB.out.2.1) _, ?_, ?_⟩
            · rw [← heb]
              exact AtC.new _ 33 _
            · show eb < (World.alloc _ _).heap.size
              rw [← heb]
              simp
          have HX1 : Hid (Below w.heap.size w w1 ∧ AtC w1 w.heap.size 33 #[.int .i64 0, .string e0, .string e0, .int .i64 0, .string e0] ∧ AtC w1 eb 33 #[.int .i64 3, .string e0, .string e0, .int .i64 0, .string e0] ∧ eb < w1.heap.size) :=
            hide ⟨HX0.out.1.trans (B1.mono (by have := HX0.out.2.2.2; omega)), HX0.out.2.1.over B1, HX0.out.2.2.1.over B1, Nat.lt_of_lt_of_le HX0.out.2.2.2 B1.size⟩
          clear hX0
          clear B1 hnu hnb
          replace k1 : w1.cell? ⟨g, off + 1, none⟩ = some (Value.string y1) := by
            obtain ⟨g2, off2, e, k⟩ := HC.out _ HX1.out.1 1 (by simp)
            simp only [Option.some.injEq, Addr.mk.injEq, and_true] at e
            obtain ⟨rfl, rfl⟩ := e
            exact k
          replace k2 : w1.cell? ⟨g, off + 2, none⟩ = some (Value.string y2) := by
            obtain ⟨g2, off2, e, k⟩ := HC.out _ HX1.out.1 2 (by simp)
            simp only [Option.some.injEq, Addr.mk.injEq, and_true] at e
            obtain ⟨rfl, rfl⟩ := e
            exact k
          replace k3 : w1.cell? ⟨g, off + 3, none⟩ = some (Value.string y3) := by
            obtain ⟨g2, off2, e, k⟩ := HC.out _ HX1.out.1 3 (by simp)
            simp only [Option.some.injEq, Addr.mk.injEq, and_true] at e
            obtain ⟨rfl, rfl⟩ := e
            exact k
          obtain ⟨d0, d1, d2, d3, d4, dz⟩ := HX1.out.2.2.1.five
          obtain ⟨df0, df1, df2, df3, df4⟩ := HX1.out.2.2.1.frz5
          go_upto_region 19 with fail
          generalize hX : World.setCell _ _ _ = X
          have HX : Hid (Below w.heap.size w X ∧ AtC X w.heap.size 33 #[.int .i64 0, .string e0, .string e0, .int .i64 0, .string e0] ∧ AtC X eb 33 #[.int .i64 3, .string y1, .string e0, .int .i64 nu, .string y3] ∧ eb < X.heap.size) := by
            rw [← hX]
            refine hide ⟨(below_set (below_set (below_set HX1.out.1 _ _ _ (by omega)) _ _ _ (by omega)) _ _ _ (by omega)), (((HX1.out.2.1.other (by omega) _).other (by omega) _).other (by omega) _), (((HX1.out.2.2.1.set 3 (.int .i64 nu)).set 4 (.string y3)).set 1 (.string y1)), ?_⟩
            simpa using HX1.out.2.2.2
          obtain ⟨m0, m1, m2, m3, m4, mz⟩ := HX.out.2.2.1.five
          obtain ⟨l0, l1, l2, l3, l4, lz⟩ := HX.out.2.1.five
          obtain ⟨f0, f1, f2, f3, f4⟩ := HX.out.2.1.frz5
          have HR := hide (res5 HX.out.2.1 (.int .i64 3) (.string y1) (.string e0) (.int .i64 nu) (.string y3))
          obtain ⟨r0, r1, r2, r3, r4, rz⟩ := HR.out.five
          clear hX
          go_wp2
          refine bodyPost_ret (v := .tuple #[.agg #[.int .i64 3, .string y1, .string e0, .int .i64 nu, .string y3], .bool nb]) (by simp [results, go_sem, r0, r1, r2, r3, r4]) rfl ⟨by rw [← HQ.out]; (rw [← HNU.out.1, ← HNU.out.2]; rfl), ?_⟩
          exact below_set (below_set (below_set (below_set (below_set HX.out.1 _ _ _ (Nat.le_refl _)) _ _ _ (Nat.le_refl _)) _ _ _ (Nat.le_refl _)) _ _ _ (Nat.le_refl _)) _ _ _ (Nat.le_refl _)
        · have HQ : Hid (evF (wk.drop 3) (3 + 1) (x0 :: r) = P) := hide (by rw [← HF.out]; exact (evF_len _ 4 (by have := HN.out; omega)).symm)
          clear HF
          subst h1
          have h3 : ((n : Int) + 1 == 4) = false := by simp; omega
          have h4 : ((n : Int) + 1 != 4) = true := by simp; omega
          go_wp2
          go_quiet (fail)
          go_wp2
          go_roundw
          case rel => exact ⟨3, _, by omega, rfl, HQ, rfl⟩
          case measure => simp [intOf]
      · have HQ : Hid (evF (wk.drop 3) (3 + 1) (x0 :: r) = P) := hide (by rw [← HF.out]; exact (evF_word _ _ h1).symm)
        have h5 : (x0.toList == ([119, 114, 105, 116, 101] : List UInt8)) = false := by have := ne_list h1; rw [ByteArray.toList_eq { data := #[119, 114, 105, 116, 101] }] at this; exact this
        clear HF h1
        go_wp2
        go_quiet (fail)
        go_wp2
        go_roundw
        case rel => exact ⟨3, _, by omega, rfl, HQ, rfl⟩
        case measure => simp [intOf]
    · replace HF : Hid (evF (({ data := #[114, 101, 109, 111, 118, 101] }, 2) :: wk.drop 4) 4 (x0 :: r) = P) := HF
      have kw : W0.cell? ⟨w.heap.size + 1, 3, none⟩ = some (.string { data := #[114, 101, 109, 111, 118, 101] }) := HB.out.2.2.1.cell 3
      have ks : W0.cell? ⟨w.heap.size + 1 + 1, 3, none⟩ = some (.int .i64 2) := HB.out.2.2.2.1.cell 3
      by_cases h1 : x0 = { data := #[114, 101, 109, 111, 118, 101] }
      · by_cases h2 : n + 1 = 2
        · have HQ : Hid (evK 4 (x0 :: r) = P) := hide (by rw [← HF.out]; exact (evF_hit _ 2 h1 (by have := HN.out; omega)).symm)
          clear HF
          obtain rfl : n = 1 := by omega
          subst h1
          clear h2
          obtain ⟨y1, rfl⟩ : ∃ y1, r = [y1] := by
            have h := HN.out
            match r, h with
            | [y1], _ => exact ⟨y1, rfl⟩
          obtain ⟨g', off', e, k1⟩ := HC.out _ HB.out.1 1 (by simp)
          simp only [Option.some.injEq, Addr.mk.injEq, and_true] at e
          obtain ⟨rfl, rfl⟩ := e
          replace k1 : _ = some (Value.string y1) := k1
          go_wp2
          go_quiet (fail)
          go_upto_region 19 with fail
          generalize hX : World.alloc _ _ = X
          have HX : Hid (Below w.heap.size w X ∧ AtC X w.heap.size 33 #[.int .i64 0, .string e0, .string e0, .int .i64 0, .string e0] ∧ AtC X eb 33 #[.int .i64 4, .string y1, .string e0, .int .i64 0, .string e0] ∧ eb < X.heap.size) := by
            rw [← hX]
            refine hide ⟨(bdN HB.out.1 _).alloc (by show w.heap.size ≤ W0.heap.size; omega) _, AtC.alloc (show AtC (W0.drewN _) w.heap.size 33 #[.int .i64 0, .string e0, .string e0, .int .i64 0, .string e0] from HB.out.2.1) _, ?_, ?_⟩
            · rw [← heb]
              exact AtC.new _ 33 _
            · show eb < (World.alloc _ _).heap.size
              rw [← heb]
              simp
          obtain ⟨m0, m1, m2, m3, m4, mz⟩ := HX.out.2.2.1.five
          obtain ⟨l0, l1, l2, l3, l4, lz⟩ := HX.out.2.1.five
          obtain ⟨f0, f1, f2, f3, f4⟩ := HX.out.2.1.frz5
          have HR := hide (res5 HX.out.2.1 (.int .i64 4) (.string y1) (.string e0) (.int .i64 0) (.string e0))
          obtain ⟨r0, r1, r2, r3, r4, rz⟩ := HR.out.five
          clear hX
          go_wp2
          refine bodyPost_ret (v := .tuple #[.agg #[.int .i64 4, .string y1, .string e0, .int .i64 0, .string e0], .bool true]) (by simp [results, go_sem, r0, r1, r2, r3, r4]) rfl ⟨by rw [← HQ.out]; rfl, ?_⟩
          exact below_set (below_set (below_set (below_set (below_set HX.out.1 _ _ _ (Nat.le_refl _)) _ _ _ (Nat.le_refl _)) _ _ _ (Nat.le_refl _)) _ _ _ (Nat.le_refl _)) _ _ _ (Nat.le_refl _)
        · have HQ : Hid (evF (wk.drop 4) (4 + 1) (x0 :: r) = P) := hide (by rw [← HF.out]; exact (evF_len _ 2 (by have := HN.out; omega)).symm)
          clear HF
          subst h1
          have h3 : ((n : Int) + 1 == 2) = false := by simp; omega
          have h4 : ((n : Int) + 1 != 2) = true := by simp; omega
          go_wp2
          go_quiet (fail)
          go_wp2
          go_roundw
          case rel => exact ⟨4, _, by omega, rfl, HQ, rfl⟩
          case measure => simp [intOf]
      · have HQ : Hid (evF (wk.drop 4) (4 + 1) (x0 :: r) = P) := hide (by rw [← HF.out]; exact (evF_word _ _ h1).symm)
        have h5 : (x0.toList == ([114, 101, 109, 111, 118, 101] : List UInt8)) = false := by have := ne_list h1; rw [ByteArray.toList_eq { data := #[114, 101, 109, 111, 118, 101] }] at this; exact this
        clear HF h1
        go_wp2
        go_quiet (fail)
        go_wp2
        go_roundw
        case rel => exact ⟨4, _, by omega, rfl, HQ, rfl⟩
        case measure => simp [intOf]
    · replace HF : Hid (evF (({ data := #[109, 111, 118, 101] }, 3) :: wk.drop 5) 5 (x0 :: r) = P) := HF
      have kw : W0.cell? ⟨w.heap.size + 1, 4, none⟩ = some (.string { data := #[109, 111, 118, 101] }) := HB.out.2.2.1.cell 4
      have ks : W0.cell? ⟨w.heap.size + 1 + 1, 4, none⟩ = some (.int .i64 3) := HB.out.2.2.2.1.cell 4
      by_cases h1 : x0 = { data := #[109, 111, 118, 101] }
      · by_cases h2 : n + 1 = 3
        · have HQ : Hid (evK 5 (x0 :: r) = P) := hide (by rw [← HF.out]; exact (evF_hit _ 3 h1 (by have := HN.out; omega)).symm)
          clear HF
          obtain rfl : n = 2 := by omega
          subst h1
          clear h2
          obtain ⟨y1, y2, rfl⟩ : ∃ y1 y2, r = [y1, y2] := by
            have h := HN.out
            match r, h with
            | [y1, y2], _ => exact ⟨y1, y2, rfl⟩
          obtain ⟨g', off', e, k1⟩ := HC.out _ HB.out.1 1 (by simp)
          simp only [Option.some.injEq, Addr.mk.injEq, and_true] at e
          obtain ⟨rfl, rfl⟩ := e
          replace k1 : _ = some (Value.string y1) := k1
          obtain ⟨g', off', e, k2⟩ := HC.out _ HB.out.1 2 (by simp)
          simp only [Option.some.injEq, Addr.mk.injEq, and_true] at e
          obtain ⟨rfl, rfl⟩ := e
          replace k2 : _ = some (Value.string y2) := k2
          go_wp2
          go_quiet (fail)
          go_upto_region 19 with fail
          generalize hX : World.alloc _ _ = X
          have HX : Hid (Below w.heap.size w X ∧ AtC X w.heap.size 33 #[.int .i64 0, .string e0, .string e0, .int .i64 0, .string e0] ∧ AtC X eb 33 #[.int .i64 5, .string y1, .string y2, .int .i64 0, .string e0] ∧ eb < X.heap.size) := by
            rw [← hX]
            refine hide ⟨(bdN HB.out.1 _).alloc (by show w.heap.size ≤ W0.heap.size; omega) _, AtC.alloc (show AtC (W0.drewN _) w.heap.size 33 #[.int .i64 0, .string e0, .string e0, .int .i64 0, .string e0] from HB.out.2.1) _, ?_, ?_⟩
            · rw [← heb]
              exact AtC.new _ 33 _
            · show eb < (World.alloc _ _).heap.size
              rw [← heb]
              simp
          obtain ⟨m0, m1, m2, m3, m4, mz⟩ := HX.out.2.2.1.five
          obtain ⟨l0, l1, l2, l3, l4, lz⟩ := HX.out.2.1.five
          obtain ⟨f0, f1, f2, f3, f4⟩ := HX.out.2.1.frz5
          have HR := hide (res5 HX.out.2.1 (.int .i64 5) (.string y1) (.string y2) (.int .i64 0) (.string e0))
          obtain ⟨r0, r1, r2, r3, r4, rz⟩ := HR.out.five
          clear hX
          go_wp2
          refine bodyPost_ret (v := .tuple #[.agg #[.int .i64 5, .string y1, .string y2, .int .i64 0, .string e0], .bool true]) (by simp [results, go_sem, r0, r1, r2, r3, r4]) rfl ⟨by rw [← HQ.out]; rfl, ?_⟩
          exact below_set (below_set (below_set (below_set (below_set HX.out.1 _ _ _ (Nat.le_refl _)) _ _ _ (Nat.le_refl _)) _ _ _ (Nat.le_refl _)) _ _ _ (Nat.le_refl _)) _ _ _ (Nat.le_refl _)
        · have HQ : Hid (evF (wk.drop 5) (5 + 1) (x0 :: r) = P) := hide (by rw [← HF.out]; exact (evF_len _ 3 (by have := HN.out; omega)).symm)
          clear HF
          subst h1
          have h3 : ((n : Int) + 1 == 3) = false := by simp; omega
          have h4 : ((n : Int) + 1 != 3) = true := by simp; omega
          go_wp2
          go_quiet (fail)
          go_wp2
          go_roundw
          case rel => exact ⟨5, _, by omega, rfl, HQ, rfl⟩
          case measure => simp [intOf]
      · have HQ : Hid (evF (wk.drop 5) (5 + 1) (x0 :: r) = P) := hide (by rw [← HF.out]; exact (evF_word _ _ h1).symm)
        have h5 : (x0.toList == ([109, 111, 118, 101] : List UInt8)) = false := by have := ne_list h1; rw [ByteArray.toList_eq { data := #[109, 111, 118, 101] }] at this; exact this
        clear HF h1
        go_wp2
        go_quiet (fail)
        go_wp2
        go_roundw
        case rel => exact ⟨5, _, by omega, rfl, HQ, rfl⟩
        case measure => simp [intOf]
    · replace HF : Hid (evF (({ data := #[98, 97, 99, 107] }, 2) :: wk.drop 6) 6 (x0 :: r) = P) := HF
      have kw : W0.cell? ⟨w.heap.size + 1, 5, none⟩ = some (.string { data := #[98, 97, 99, 107] }) := HB.out.2.2.1.cell 5
      have ks : W0.cell? ⟨w.heap.size + 1 + 1, 5, none⟩ = some (.int .i64 2) := HB.out.2.2.2.1.cell 5
      by_cases h1 : x0 = { data := #[98, 97, 99, 107] }
      · by_cases h2 : n + 1 = 2
        · have HQ : Hid (evK 6 (x0 :: r) = P) := hide (by rw [← HF.out]; exact (evF_hit _ 2 h1 (by have := HN.out; omega)).symm)
          clear HF
          obtain rfl : n = 1 := by omega
          subst h1
          clear h2
          obtain ⟨y1, rfl⟩ : ∃ y1, r = [y1] := by
            have h := HN.out
            match r, h with
            | [y1], _ => exact ⟨y1, rfl⟩
          obtain ⟨g', off', e, k1⟩ := HC.out _ HB.out.1 1 (by simp)
          simp only [Option.some.injEq, Addr.mk.injEq, and_true] at e
          obtain ⟨rfl, rfl⟩ := e
          replace k1 : _ = some (Value.string y1) := k1
          go_wp2
          go_quiet (fail)
          go_wp2_with fail
          refine (specRD_any y1 _ _ (rdN_ok _)).mono ?_
          rintro e w1 ⟨rfl, B1⟩
          rw [nu_val]
          obtain ⟨nu, hnu⟩ : ∃ nu, nuN y1 = nu := ⟨_, rfl⟩
          obtain ⟨nb, hnb⟩ : ∃ nb, nuB y1 = nb := ⟨_, rfl⟩
          rw [hnu, hnb]
          have HNU := hide (And.intro hnu hnb)
          generalize hX0 : World.alloc _ _ = X0 at B1
          have HX0 : Hid (Below w.heap.size w X0 ∧ AtC X0 w.heap.size 33 #[.int .i64 0, .string e0, .string e0, .int .i64 0, .string e0] ∧ AtC X0 eb 33 #[.int .i64 6, .string e0, .string e0, .int .i64 0, .string e0] ∧ eb < X0.heap.size) := by
            rw [← hX0]
            refine hide ⟨(bdN HB.out.1 _).alloc (by show w.heap.size ≤ W0.heap.size; omega) _, AtC.alloc (show AtC (W0.drewN _) w.heap.size 33 #[.int .i64 0, .string e0, .string e0, .int .i64 0, .string e0] from HB.out.2.1) _, ?_, ?_⟩
            · rw [← heb]
              exact AtC.new _ 33 _
            · show eb < (World.alloc _ _).heap.size
              rw [← heb]
              simp
          have HX1 : Hid (Below w.heap.size w w1 ∧ AtC w1 w.heap.size 33 #[.int .i64 0, .string e0, .string e0, .int .i64 0, .string e0] ∧ AtC w1 eb 33 #[.int .i64 6, .string e0, .string e0, .int .i64 0, .string e0] ∧ eb < w1.heap.size) :=
            hide ⟨HX0.out.1.trans (B1.mono (by have := HX0.out.2.2.2; omega)), HX0.out.2.1.over B1, HX0.out.2.2.1.over B1, Nat.lt_of_lt_of_le HX0.out.2.2.2 B1.size⟩
          clear hX0
          clear B1 hnu hnb
          replace k1 : w1.cell? ⟨g, off + 1, none⟩ = some (Value.string y1) := by
            obtain ⟨g2, off2, e, k⟩ := HC.out _ HX1.out.1 1 (by simp)
            simp only [Option.some.injEq, Addr.mk.injEq, and_true] at e
            obtain ⟨rfl, rfl⟩ := e
            exact k
          obtain ⟨d0, d1, d2, d3, d4, dz⟩ := HX1.out.2.2.1.five
          obtain ⟨df0, df1, df2, df3, df4⟩ := HX1.out.2.2.1.frz5
          go_upto_region 19 with fail
          generalize hX : World.setCell _ _ _ = X
          have HX : Hid (Below w.heap.size w X ∧ AtC X w.heap.size 33 #[.int .i64 0, .string e0, .string e0, .int .i64 0, .string e0] ∧ AtC X eb 33 #[.int .i64 6, .string e0, .string e0, .int .i64 nu, .string e0] ∧ eb < X.heap.size) := by
            rw [← hX]
            refine hide ⟨(below_set HX1.out.1 _ _ _ (by omega)), (HX1.out.2.1.other (by omega) _), (HX1.out.2.2.1.set 3 (.int .i64 nu)), ?_⟩
            simpa using HX1.out.2.2.2
          obtain ⟨m0, m1, m2, m3, m4, mz⟩ := HX.out.2.2.1.five
          obtain ⟨l0, l1, l2, l3, l4, lz⟩ := HX.out.2.1.five
          obtain ⟨f0, f1, f2, f3, f4⟩ := HX.out.2.1.frz5
          have HR := hide (res5 HX.out.2.1 (.int .i64 6) (.string e0) (.string e0) (.int .i64 nu) (.string e0))
          obtain ⟨r0, r1, r2, r3, r4, rz⟩ := HR.out.five
          clear hX
          go_wp2
          refine bodyPost_ret (v := .tuple #[.agg #[.int .i64 6, .string e0, .string e0, .int .i64 nu, .string e0], .bool nb]) (by simp [results, go_sem, r0, r1, r2, r3, r4]) rfl ⟨by rw [← HQ.out]; (rw [← HNU.out.1, ← HNU.out.2]; rfl), ?_⟩
          exact below_set (below_set (below_set (below_set (below_set HX.out.1 _ _ _ (Nat.le_refl _)) _ _ _ (Nat.le_refl _)) _ _ _ (Nat.le_refl _)) _ _ _ (Nat.le_refl _)) _ _ _ (Nat.le_refl _)
        · have HQ : Hid (evF (wk.drop 6) (6 + 1) (x0 :: r) = P) := hide (by rw [← HF.out]; exact (evF_len _ 2 (by have := HN.out; omega)).symm)
          clear HF
          subst h1
          have h3 : ((n : Int) + 1 == 2) = false := by simp; omega
          have h4 : ((n : Int) + 1 != 2) = true := by simp; omega
          go_wp2
          go_quiet (fail)
          go_wp2
          go_roundw
          case rel => exact ⟨6, _, by omega, rfl, HQ, rfl⟩
          case measure => simp [intOf]
      · have HQ : Hid (evF (wk.drop 6) (6 + 1) (x0 :: r) = P) := hide (by rw [← HF.out]; exact (evF_word _ _ h1).symm)
        have h5 : (x0.toList == ([98, 97, 99, 107] : List UInt8)) = false := by have := ne_list h1; rw [ByteArray.toList_eq { data := #[98, 97, 99, 107] }] at this; exact this
        clear HF h1
        go_wp2
        go_quiet (fail)
        go_wp2
        go_roundw
        case rel => exact ⟨6, _, by omega, rfl, HQ, rfl⟩
        case measure => simp [intOf]
    · replace HF : Hid (evF (({ data := #[102, 108, 117, 115, 104] }, 1) :: wk.drop 7) 7 (x0 :: r) = P) := HF
      have kw : W0.cell? ⟨w.heap.size + 1, 6, none⟩ = some (.string { data := #[102, 108, 117, 115, 104] }) := HB.out.2.2.1.cell 6
      have ks : W0.cell? ⟨w.heap.size + 1 + 1, 6, none⟩ = some (.int .i64 1) := HB.out.2.2.2.1.cell 6
      by_cases h1 : x0 = { data := #[102, 108, 117, 115, 104] }
      · by_cases h2 : n + 1 = 1
        · have HQ : Hid (evK 7 (x0 :: r) = P) := hide (by rw [← HF.out]; exact (evF_hit _ 1 h1 (by have := HN.out; omega)).symm)
          clear HF
          obtain rfl : n = 0 := by omega
          subst h1
          clear h2
          obtain rfl : r = [] := List.length_eq_zero_iff.1 HN.out
          go_wp2
          go_quiet (fail)
          go_upto_region 19 with fail
          generalize hX : World.alloc _ _ = X
          have HX : Hid (Below w.heap.size w X ∧ AtC X w.heap.size 33 #[.int .i64 0, .string e0, .string e0, .int .i64 0, .string e0] ∧ AtC X eb 33 #[.int .i64 7, .string e0, .string e0, .int .i64 0, .string e0] ∧ eb < X.heap.size) := by
            rw [← hX]
            refine hide ⟨(bdN HB.out.1 _).alloc (by show w.heap.size ≤ W0.heap.size; omega) _, AtC.alloc (show AtC (W0.drewN _) w.heap.size 33 #[.int .i64 0, .string e0, .string e0, .int .i64 0, .string e0] from HB.out.2.1) _, ?_, ?_⟩
            · rw [← heb]
              exact AtC.new _ 33 _
            · show eb < (World.alloc _ _).heap.size
              rw [← heb]
              simp
          obtain ⟨m0, m1, m2, m3, m4, mz⟩ := HX.out.2.2.1.five
          obtain ⟨l0, l1, l2, l3, l4, lz⟩ := HX.out.2.1.five
          obtain ⟨f0, f1, f2, f3, f4⟩ := HX.out.2.1.frz5
          have HR := hide (res5 HX.out.2.1 (.int .i64 7) (.string e0) (.string e0) (.int .i64 0) (.string e0))
          obtain ⟨r0, r1, r2, r3, r4, rz⟩ := HR.out.five
          clear hX
          go_wp2
          refine bodyPost_ret (v := .tuple #[.agg #[.int .i64 7, .string e0, .string e0, .int .i64 0, .string e0], .bool true]) (by simp [results, go_sem, r0, r1, r2, r3, r4]) rfl ⟨by rw [← HQ.out]; rfl, ?_⟩
          exact below_set (below_set (below_set (below_set (below_set HX.out.1 _ _ _ (Nat.le_refl _)) _ _ _ (Nat.le_refl _)) _ _ _ (Nat.le_refl _)) _ _ _ (Nat.le_refl _)) _ _ _ (Nat.le_refl _)
        · have HQ : Hid (evF (wk.drop 7) (7 + 1) (x0 :: r) = P) := hide (by rw [← HF.out]; exact (evF_len _ 1 (by have := HN.out; omega)).symm)
          clear HF
          subst h1
          have h3 : ((n : Int) + 1 == 1) = false := by simp; omega
          have h4 : ((n : Int) + 1 != 1) = true := by simp; omega
          go_wp2
          go_quiet (fail)
          go_wp2
          go_roundw
          case rel => exact ⟨7, _, by omega, rfl, HQ, rfl⟩
          case measure => simp [intOf]
      · have HQ : Hid (evF (wk.drop 7) (7 + 1) (x0 :: r) = P) := hide (by rw [← HF.out]; exact (evF_word _ _ h1).symm)
        have h5 : (x0.toList == ([102, 108, 117, 115, 104] : List UInt8)) = false := by have := ne_list h1; rw [ByteArray.toList_eq { data := #[102, 108, 117, 115, 104] }] at this; exact this
        clear HF h1
        go_wp2
        go_quiet (fail)
        go_wp2
        go_roundw
        case rel => exact ⟨7, _, by omega, rfl, HQ, rfl⟩
        case measure => simp [intOf]
    · replace HF : Hid (evF (({ data := #[102, 97, 108, 108] }, 1) :: wk.drop 8) 8 (x0 :: r) = P) := HF
      have kw : W0.cell? ⟨w.heap.size + 1, 7, none⟩ = some (.string { data := #[102, 97, 108, 108] }) := HB.out.2.2.1.cell 7
      have ks : W0.cell? ⟨w.heap.size + 1 + 1, 7, none⟩ = some (.int .i64 1) := HB.out.2.2.2.1.cell 7
      by_cases h1 : x0 = { data := #[102, 97, 108, 108] }
      · by_cases h2 : n + 1 = 1
        · have HQ : Hid (evK 8 (x0 :: r) = P) := hide (by rw [← HF.out]; exact (evF_hit _ 1 h1 (by have := HN.out; omega)).symm)
          clear HF
          obtain rfl : n = 0 := by omega
          subst h1
          clear h2
          obtain rfl : r = [] := List.length_eq_zero_iff.1 HN.out
          go_wp2
          go_quiet (fail)
          go_upto_region 19 with fail
          generalize hX : World.alloc _ _ = X
          have HX : Hid (Below w.heap.size w X ∧ AtC X w.heap.size 33 #[.int .i64 0, .string e0, .string e0, .int .i64 0, .string e0] ∧ AtC X eb 33 #[.int .i64 8, .string e0, .string e0, .int .i64 0, .string e0] ∧ eb < X.heap.size) := by
            rw [← hX]
            refine hide ⟨(bdN HB.out.1 _).alloc (by show w.heap.size ≤ W0.heap.size; omega) _, AtC.alloc (show AtC (W0.drewN _) w.heap.size 33 #[.int .i64 0, .string e0, .string e0, .int .i64 0, .string e0] from HB.out.2.1) _, ?_, ?_⟩
            · rw [← heb]
              exact AtC.new _ 33 _
            · show eb < (World.alloc _ _).heap.size
              rw [← heb]
              simp
          obtain ⟨m0, m1, m2, m3, m4, mz⟩ := HX.out.2.2.1.five
          obtain ⟨l0, l1, l2, l3, l4, lz⟩ := HX.out.2.1.five
          obtain ⟨f0, f1, f2, f3, f4⟩ := HX.out.2.1.frz5
          have HR := hide (res5 HX.out.2.1 (.int .i64 8) (.string e0) (.string e0) (.int .i64 0) (.string e0))
          obtain ⟨r0, r1, r2, r3, r4, rz⟩ := HR.out.five
          clear hX
          go_wp2
          refine bodyPost_ret (v := .tuple #[.agg #[.int .i64 8, .string e0, .string e0, .int .i64 0, .string e0], .bool true]) (by simp [results, go_sem, r0, r1, r2, r3, r4]) rfl ⟨by rw [← HQ.out]; rfl, ?_⟩
          exact below_set (below_set (below_set (below_set (below_set HX.out.1 _ _ _ (Nat.le_refl _)) _ _ _ (Nat.le_refl _)) _ _ _ (Nat.le_refl _)) _ _ _ (Nat.le_refl _)) _ _ _ (Nat.le_refl _)
        · have HQ : Hid (evF (wk.drop 8) (8 + 1) (x0 :: r) = P) := hide (by rw [← HF.out]; exact (evF_len _ 1 (by have := HN.out; omega)).symm)
          clear HF
          subst h1
          have h3 : ((n : Int) + 1 == 1) = false := by simp; omega
          have h4 : ((n : Int) + 1 != 1) = true := by simp; omega
          go_wp2
          go_quiet (fail)
          go_wp2
          go_roundw
          case rel => exact ⟨8, _, by omega, rfl, HQ, rfl⟩
          case measure => simp [intOf]
      · have HQ : Hid (evF (wk.drop 8) (8 + 1) (x0 :: r) = P) := hide (by rw [← HF.out]; exact (evF_word _ _ h1).symm)
        have h5 : (x0.toList == ([102, 97, 108, 108] : List UInt8)) = false := by have := ne_list h1; rw [ByteArray.toList_eq { data := #[102, 97, 108, 108] }] at this; exact this
        clear HF h1
        go_wp2
        go_quiet (fail)
        go_wp2
        go_roundw
        case rel => exact ⟨8, _, by omega, rfl, HQ, rfl⟩
        case measure => simp [intOf]
    · have HQ : Hid (evF [] 9 (x0 :: r) = P) := HF
      have HQ2 : Hid (P = (evd, false)) := hide (by rw [← HQ.out]; rfl)
      clear HF HQ
      obtain ⟨l0, l1, l2, l3, l4, lz⟩ := HB.out.2.1.five
      obtain ⟨f0, f1, f2, f3, f4⟩ := HB.out.2.1.frz5
      have HR := hide (res5 (show AtC (W0.drewN q) w.heap.size 33 #[.int .i64 0, .string e0, .string e0, .int .i64 0, .string e0] from HB.out.2.1) (.int .i64 0) (.string e0) (.string e0) (.int .i64 0) (.string e0))
      obtain ⟨r0, r1, r2, r3, r4, rz⟩ := HR.out.five
      go_wp2
      refine bodyPost_ret (v := .tuple #[.agg #[.int .i64 0, .string e0, .string e0, .int .i64 0, .string e0], .bool false]) (by simp [results, go_sem, r0, r1, r2, r3, r4]) rfl ⟨by rw [HQ2.out], ?_⟩
      exact below_set (below_set (below_set (below_set (below_set (bdN HB.out.1 _) _ _ _ (Nat.le_refl _)) _ _ _ (Nat.le_refl _)) _ _ _ (Nat.le_refl _)) _ _ _ (Nat.le_refl _)) _ _ _ (Nat.le_refl _)
end Go.Proofs.YthfiaihbpnlbjaaDoor
