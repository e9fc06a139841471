/- Inodes and blocks that are compared: impl.sameBits, impl.sameInode, impl.sameBlock, spec.l03Same, spec.l04Same by their contracts. -/
import Derived.Test.YtajollmmpdkhbaaSe
namespace Go.Proofs.Ytajollmmpdkhbaa
open Go.RowKit Kit
set_option maxRecDepth 100000 in
set_option maxHeartbeats 1600000 in
theorem implSameI_any (x1 x2 y1 y2 : Int) (xs ys : List Int) (va vb : Value) (w : World) (ha : RInts w va xs) (hb : RInts w vb ys) (hl : xs.length ≤ 1048576) :
    Calls Try.prog 54 #[.agg #[.int .i64 x1, .int .i64 x2, va], .agg #[.int .i64 y1, .int .i64 y2, vb]] w fun e w' => e = .returned (.bool (decide ((x1, x2, xs) = ((y1, y2, ys) : Ino)))) ∧ Below w.heap.size w w' := by
  have HA := hide ha
  have HB := hide hb
  obtain ⟨a1, c1, rfl⟩ := ha.form
  obtain ⟨a2, c2, rfl⟩ := hb.form
  clear ha hb
  by_cases h1 : x1 = y1
  · by_cases h2 : x2 = y2
    · subst h1 h2
      have hr : decide ((x1, x2, xs) = ((x1, x2, ys) : Ino)) = decide (xs = ys) := by simp
      rw [hr]
      have C := hide (fun W h h' => equalI_any (.slice a1 xs.length c1) (.slice a2 ys.length c2) xs ys W h h' hl)
      generalize decide (xs = ys) = r at *
      clear hr hl
      go_enter Try.func54, Try.ntmps54
      go_wp2_with (go_at_call 86; refine (C.out _ ((HA.out.alloc _).alloc _) ((HB.out.alloc _).alloc _)).mono ?_; rintro e w1 ⟨rfl, B1⟩; have HB1 := hide ((((Below.refl _ w).alloc (Nat.le_refl _) _).alloc (by simp) _).trans (B1.mono (by simp; omega))); clear B1)
      go_ret
      exact ⟨rfl, HB1.out⟩
    · have b2 : (x2 == y2) = false := by simp [h2]
      have hr : decide ((x1, x2, xs) = ((y1, y2, ys) : Ino)) = false := by simp [h2]
      rw [hr]
      clear hr
      subst h1
      go_enter Try.func54, Try.ntmps54
      go_wp2
      go_ret
      exact ⟨rfl, by go_grown⟩
  · have b1 : (x1 == y1) = false := by simp [h1]
    have hr : decide ((x1, x2, xs) = ((y1, y2, ys) : Ino)) = false := by simp [h1]
    rw [hr]
    clear hr
    go_enter Try.func54, Try.ntmps54
    go_wp2
    go_ret
    exact ⟨rfl, by go_grown⟩
set_option maxRecDepth 100000 in
set_option maxHeartbeats 1600000 in
theorem implSameK_any (x1 y1 : Bool) (xs ys : List Sl) (x2 y2 : ByteArray) (va vb : Value) (w : World) (ha : RSl w va xs) (hb : RSl w vb ys) (hl : xs.length ≤ 1048576) :
    Calls Try.prog 56 #[.agg #[.bool x1, va, .string x2], .agg #[.bool y1, vb, .string y2]] w fun e w' => e = .returned (.bool (decide ((x1, xs, x2) = ((y1, ys, y2) : Blk)))) ∧ Below w.heap.size w w' := by
  have HA := hide ha
  have HB := hide hb
  obtain ⟨a1, c1, rfl⟩ := ha.form
  obtain ⟨a2, c2, rfl⟩ := hb.form
  clear ha hb
  have C := hide (fun W h h' => equalS_any (.slice a1 xs.length c1) (.slice a2 ys.length c2) xs ys W h h' hl)
  by_cases h1 : x1 = y1
  · subst h1
    by_cases h2 : xs = ys
    · have hr : decide ((x1, xs, x2) = ((x1, ys, y2) : Blk)) = (x2.toList == y2.toList) := by
        by_cases h3 : x2 = y2
        · rw [beq_true h3]; simp [h2, h3]
        · rw [beq_false h3]; simp [h3]
      rw [hr]
      have hd : decide (xs = ys) = true := decide_eq_true h2
      rw [hd] at C
      clear hr hl hd h2
      go_enter Try.func56, Try.ntmps56
      go_wp2_with (go_at_call 87; refine (C.out _ ((HA.out.alloc _).alloc _) ((HB.out.alloc _).alloc _)).mono ?_; rintro e w1 ⟨rfl, B1⟩; obtain ⟨-, -, r2, -⟩ := (((AtC.new w 65 #[.bool x1, .slice a1 xs.length c1, .string x2]).alloc (.cells #[.bool x1, .slice a2 ys.length c2, .string y2] 65)).over B1).three; obtain ⟨-, -, s2, -⟩ := ((AtC.new (w.alloc (.cells #[.bool x1, .slice a1 xs.length c1, .string x2] 65)) 65 #[.bool x1, .slice a2 ys.length c2, .string y2]).over B1).three; simp only [World.size_alloc] at s2; have HB1 := hide ((((Below.refl _ w).alloc (Nat.le_refl _) (.cells #[.bool x1, .slice a1 xs.length c1, .string x2] 65)).alloc (by simp) (.cells #[.bool x1, .slice a2 ys.length c2, .string y2] 65)).trans (B1.mono (by simp; omega))); clear B1)
      go_ret
      exact ⟨rfl, HB1.out⟩
    · have hr : decide ((x1, xs, x2) = ((x1, ys, y2) : Blk)) = false := by simp [h2]
      rw [hr]
      have hd : decide (xs = ys) = false := decide_eq_false h2
      rw [hd] at C
      clear hr hl hd h2
      go_enter Try.func56, Try.ntmps56
      go_wp2_with (go_at_call 87; refine (C.out _ ((HA.out.alloc _).alloc _) ((HB.out.alloc _).alloc _)).mono ?_; rintro e w1 ⟨rfl, B1⟩; have HB1 := hide ((((Below.refl _ w).alloc (Nat.le_refl _) (.cells #[.bool x1, .slice a1 xs.length c1, .string x2] 65)).alloc (by simp) (.cells #[.bool x1, .slice a2 ys.length c2, .string y2] 65)).trans (B1.mono (by simp; omega))); clear B1)
      go_ret
      exact ⟨rfl, HB1.out⟩
  · have b1 : (x1 == y1) = false := by simp [h1]
    have hr : decide ((x1, xs, x2) = ((y1, ys, y2) : Blk)) = false := by simp [h1]
    rw [hr]
    clear hr C
    go_enter Try.func56, Try.ntmps56
    go_wp2
    go_ret
    exact ⟨rfl, by go_grown⟩
set_option maxRecDepth 100000 in
set_option maxHeartbeats 1600000 in
theorem implSameB_any (u v u' v' : Value) (xs ys xs' ys' : List Bool) (w : World) (h1 : RFl w u xs) (h2 : RFl w v ys) (h3 : RFl w u' xs') (h4 : RFl w v' ys') (hx : xs.length ≤ 1048576) (hy : ys.length ≤ 1048576) :
    Calls Try.prog 52 #[.agg #[u, v], .agg #[u', v']] w fun e w' => e = .returned (.bool (decide (xs = xs') && decide (ys = ys'))) ∧ Below w.heap.size w w' := by
  have H1 := hide h1
  have H2 := hide h2
  have H3 := hide h3
  have H4 := hide h4
  obtain ⟨a1, c1, rfl⟩ := h1.form
  obtain ⟨a2, c2, rfl⟩ := h2.form
  obtain ⟨a3, c3, rfl⟩ := h3.form
  obtain ⟨a4, c4, rfl⟩ := h4.form
  clear h1 h2 h3 h4
  have C1 := hide (fun W h h' => equalB_any (.slice a1 xs.length c1) (.slice a3 xs'.length c3) xs xs' W h h' hx)
  have C2 := hide (fun W h h' => equalB_any (.slice a2 ys.length c2) (.slice a4 ys'.length c4) ys ys' W h h' hy)
  clear hx hy
  generalize decide (xs = xs') = r1 at *
  generalize decide (ys = ys') = r2 at *
  go_enter Try.func52, Try.ntmps52
  go_wp2_with fail
  refine (C1.out _ ((H1.out.alloc _).alloc _) ((H3.out.alloc _).alloc _)).mono ?_
  rintro e w1 ⟨rfl, B1⟩
  have BW : Below w.heap.size w w1 := (((Below.refl _ w).alloc (Nat.le_refl _) _).alloc (by simp) _).trans (B1.mono (by simp; omega))
  have r0 : w1.cell? ⟨w.heap.size, 1, none⟩ = some (.slice a2 ys.length c2) := (((AtC.new w 24 #[.slice a1 xs.length c1, .slice a2 ys.length c2]).alloc (.cells #[.slice a3 xs'.length c3, .slice a4 ys'.length c4] 24)).over B1).cell 1
  have s0 := ((AtC.new (w.alloc (.cells #[.slice a1 xs.length c1, .slice a2 ys.length c2] 24)) 24 #[.slice a3 xs'.length c3, .slice a4 ys'.length c4]).over B1).cell 1
  simp only [World.size_alloc] at s0
  have s1 : w1.cell? ⟨w.heap.size + 1, 1, none⟩ = some (.slice a4 ys'.length c4) := s0
  have HBW := hide BW
  clear B1 BW s0
  cases r1 with
  | false =>
    go_wp2
    go_ret
    exact ⟨rfl, HBW.out⟩
  | true =>
    go_wp2_with fail
    refine (C2.out _ (H2.out.below HBW.out (Nat.le_refl _)) (H4.out.below HBW.out (Nat.le_refl _))).mono ?_
    rintro e w2 ⟨rfl, B2⟩
    have HB2 := hide (HBW.out.trans (B2.mono HBW.out.size))
    clear B2
    go_wp2
    go_ret
    exact ⟨rfl, HB2.out⟩
set_option maxRecDepth 100000 in
set_option maxHeartbeats 1600000 in
theorem specSameI_any (x1 x2 y1 y2 : Int) (a b : List Int) (va vb : Value) (w : World) (ha : RInts w va a) (hb : RInts w vb b) (hl : a.length ≤ 1048576) :
    Calls Try.prog 50 #[.agg #[.int .i64 x1, .int .i64 x2, va], .agg #[.int .i64 y1, .int .i64 y2, vb]] w fun e w' => e = .returned (.bool (decide ((x1, x2, a) = ((y1, y2, b) : Ino)))) ∧ Below w.heap.size w w' := by
  obtain ⟨a1, c1, rfl, ha⟩ := ha
  obtain ⟨a2, c2, rfl, hb⟩ := hb
  have HA := hide ha
  have HB := hide hb
  clear ha hb
  by_cases h1 : x1 = y1
  · by_cases h2 : x2 = y2
    · subst h1 h2
      have hr : decide ((x1, x2, a) = ((x1, x2, b) : Ino)) = decide (a = b) := by simp
      rw [hr]
      clear hr
      by_cases hn : a.length = b.length
      · have HN := hide hn
        rw [← hn]
        clear hn
        go_enter Try.func50, Try.ntmps50
        go_wp2
        have B0 := hide (((Below.refl _ w).alloc (Nat.le_refl _) (.cells #[.int .i64 x1, .int .i64 x2, .slice a1 a.length c1] 49)).alloc (by simp) (.cells #[.int .i64 x1, .int .i64 x2, .slice a2 a.length c2] 49))
        have r0 : ((w.alloc (.cells #[.int .i64 x1, .int .i64 x2, .slice a1 a.length c1] 49)).alloc (.cells #[.int .i64 x1, .int .i64 x2, .slice a2 a.length c2] 49)).cell? ⟨w.heap.size, 2, none⟩ = some (.slice a1 a.length c1) := ((AtC.new w 49 _).alloc _).cell 2
        have s0 := (AtC.new (w.alloc (.cells #[.int .i64 x1, .int .i64 x2, .slice a1 a.length c1] 49)) 49 #[.int .i64 x1, .int .i64 x2, .slice a2 a.length c2]).cell 2
        simp only [World.size_alloc] at s0
        have s1 : ((w.alloc (.cells #[.int .i64 x1, .int .i64 x2, .slice a1 a.length c1] 49)).alloc (.cells #[.int .i64 x1, .int .i64 x2, .slice a2 a.length c2] 49)).cell? ⟨w.heap.size + 1, 2, none⟩ = some (.slice a2 a.length c2) := s0
        generalize (w.alloc (.cells #[.int .i64 x1, .int .i64 x2, .slice a1 a.length c1] 49)).alloc (.cells #[.int .i64 x1, .int .i64 x2, .slice a2 a.length c2] 49) = W0 at *
        clear s0
        go_loopw [5] (fun i wr => ∃ j : Nat, j ≤ a.length ∧ i = .int .i64 j ∧ Hid (∀ (k : Nat) (h1 : k < a.length) (h2 : k < b.length), k < j → a[k] = b[k]) ∧ ∃ q, wr = W0.drewN q) (fun i _ => a.length - (intOf i).toNat)
        case atStart => exact ⟨0, Nat.zero_le _, rfl, fun _ _ _ h => absurd h (Nat.not_lt_zero _), 0, rfl⟩
        case round =>
          obtain ⟨j, hj, rfl, HS, q, rfl⟩ := hrel
          by_cases hlt : j < a.length
          · obtain ⟨g1, o1, rfl, hg1, m1⟩ := HA.out j hlt
            obtain ⟨g2, o2, rfl, hg2, n1⟩ := HB.out j (by rw [← HN.out]; exact hlt)
            have m2 := (B0.out.cell (p := ⟨g1, o1 + j, none⟩) hg1).trans m1
            have n2 := (B0.out.cell (p := ⟨g2, o2 + j, none⟩) hg2).trans n1
            have j0 : (0 : Int) ≤ (j : Int) := by omega
            have j1 : (j : Int) < (a.length : Int) := by omega
            obtain ⟨x, hx⟩ : ∃ x, a[j] = x := ⟨_, rfl⟩
            obtain ⟨y, hy⟩ : ∃ y, b[j]'(by rw [← HN.out]; exact hlt) = y := ⟨_, rfl⟩
            rw [hx] at m2
            rw [hy] at n2
            have HX := hide hx
            have HY := hide hy
            clear hx hy m1 n1
            by_cases hq : x = y
            · subst hq
              go_wp2_with fail
              go_quiet (fail)
              go_wp2
              go_roundw
              case rel =>
                refine ⟨j + 1, by omega, by go_num, fun k h1 h2 hkj => ?_, _, rfl⟩
                by_cases hkk : k = j
                · subst hkk; rw [HX.out, HY.out]
                · exact HS.out k h1 h2 (by omega)
              case measure => simp [intOf]; omega
            · have hno : false = decide (a = b) := same_at (h1 := hlt) (h2 := by rw [← HN.out]; exact hlt) (by rw [HX.out, HY.out]; exact hq)
              have HNO := hide hno
              clear hno
              have b1 : (x == y) = false := by simp [hq]
              go_wp2_with fail
              go_quiet (fail)
              go_wp2
              go_ret
              exact ⟨ret_bool HNO.out, below_drewN (below_drewN B0.out _) _⟩
          · have hyes : true = decide (a = b) := same_all HN.out fun k h1 h2 => HS.out k h1 h2 (by omega)
            have HY := hide hyes
            clear hyes
            go_wp2
            go_ret
            exact ⟨ret_bool HY.out, below_drewN B0.out _⟩
      · have HN := hide (same_len hn)
        have hn2 : (((a.length : Nat) : Int) == ((b.length : Nat) : Int)) = false := by simp; omega
        go_enter Try.func50, Try.ntmps50
        go_wp2
        go_ret
        exact ⟨ret_bool HN.out, by go_grown⟩
    · have b2 : (x2 == y2) = false := by simp [h2]
      have hr : decide ((x1, x2, a) = ((y1, y2, b) : Ino)) = false := by simp [h2]
      rw [hr]
      clear hr
      subst h1
      go_enter Try.func50, Try.ntmps50
      go_wp2
      go_ret
      exact ⟨rfl, by go_grown⟩
  · have b1 : (x1 == y1) = false := by simp [h1]
    have hr : decide ((x1, x2, a) = ((y1, y2, b) : Ino)) = false := by simp [h1]
    rw [hr]
    clear hr
    go_enter Try.func50, Try.ntmps50
    go_wp2
    go_ret
    exact ⟨rfl, by go_grown⟩
end Go.Proofs.Ytajollmmpdkhbaa
