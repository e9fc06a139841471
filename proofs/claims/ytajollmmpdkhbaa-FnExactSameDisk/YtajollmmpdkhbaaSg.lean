/- Blocks that are compared by the specification: spec.l04Same by its contract. -/
import Derived.Test.YtajollmmpdkhbaaSf
namespace Go.Proofs.Ytajollmmpdkhbaa
open Go.RowKit Kit
set_option maxRecDepth 100000 in
set_option maxHeartbeats 1600000 in
theorem specSameK_any (x1 y1 : Bool) (a b : List Sl) (x2 y2 : ByteArray) (va vb : Value) (w : World) (ha : RSl w va a) (hb : RSl w vb b) (hl : a.length ≤ 1048576) :
    Calls Try.prog 51 #[.agg #[.bool x1, va, .string x2], .agg #[.bool y1, vb, .string y2]] w fun e w' => e = .returned (.bool (decide ((x1, a, x2) = ((y1, b, y2) : Blk)))) ∧ Below w.heap.size w w' := by
  obtain ⟨a1, c1, rfl, -, ha⟩ := ha
  obtain ⟨a2, c2, rfl, -, hb⟩ := hb
  have HA := hide ha
  have HB := hide hb
  clear ha hb
  by_cases h1 : x1 = y1
  · by_cases h2 : x2 = y2
    · subst h1 h2
      have hr : decide ((x1, a, x2) = ((x1, b, x2) : Blk)) = decide (a = b) := by simp
      rw [hr]
      clear hr
      have t1 := beq_true (a := x2) rfl
      by_cases hn : a.length = b.length
      · have HN := hide hn
        rw [← hn]
        clear hn
        go_enter Try.func51, Try.ntmps51
        go_wp2
        have B0 := hide (((Below.refl _ w).alloc (Nat.le_refl _) (.cells #[.bool x1, .slice a1 a.length c1, .string x2] 65)).alloc (by simp) (.cells #[.bool x1, .slice a2 a.length c2, .string x2] 65))
        have r0 : ((w.alloc (.cells #[.bool x1, .slice a1 a.length c1, .string x2] 65)).alloc (.cells #[.bool x1, .slice a2 a.length c2, .string x2] 65)).cell? ⟨w.heap.size, 1, none⟩ = some (.slice a1 a.length c1) := ((AtC.new w 65 _).alloc _).cell 1
        have s0 := (AtC.new (w.alloc (.cells #[.bool x1, .slice a1 a.length c1, .string x2] 65)) 65 #[.bool x1, .slice a2 a.length c2, .string x2]).cell 1
        simp only [World.size_alloc] at s0
        have s1 : ((w.alloc (.cells #[.bool x1, .slice a1 a.length c1, .string x2] 65)).alloc (.cells #[.bool x1, .slice a2 a.length c2, .string x2] 65)).cell? ⟨w.heap.size + 1, 1, none⟩ = some (.slice a2 a.length c2) := s0
        generalize (w.alloc (.cells #[.bool x1, .slice a1 a.length c1, .string x2] 65)).alloc (.cells #[.bool x1, .slice a2 a.length c2, .string x2] 65) = W0 at *
        clear s0 t1
        go_loopw [5] (fun i wr => ∃ j : Nat, j ≤ a.length ∧ i = .int .i64 j ∧ Hid (∀ (k : Nat) (h1 : k < a.length) (h2 : k < b.length), k < j → a[k] = b[k]) ∧ ∃ q, wr = W0.drewN q) (fun i _ => a.length - (intOf i).toNat)
        case atStart => exact ⟨0, Nat.zero_le _, rfl, fun _ _ _ h => absurd h (Nat.not_lt_zero _), 0, rfl⟩
        case round =>
          obtain ⟨j, hj, rfl, HS, q, rfl⟩ := hrel
          by_cases hlt : j < a.length
          · obtain ⟨g1, o1, rfl, hg1, m1, m2⟩ := HA.out j hlt
            obtain ⟨g2, o2, rfl, hg2, n1, n2⟩ := HB.out j (by rw [← HN.out]; exact hlt)
            replace m1 := (B0.out.cell (p := ⟨g1, o1 + j * 2, none⟩) hg1).trans m1
            replace m2 := (B0.out.cell (p := ⟨g1, o1 + j * 2 + 1, none⟩) hg1).trans m2
            replace n1 := (B0.out.cell (p := ⟨g2, o2 + j * 2, none⟩) hg2).trans n1
            replace n2 := (B0.out.cell (p := ⟨g2, o2 + j * 2 + 1, none⟩) hg2).trans n2
            have j0 : (0 : Int) ≤ (j : Int) := by omega
            have j1 : (j : Int) < (a.length : Int) := by omega
            obtain ⟨x, hx⟩ : ∃ x, a[j] = x := ⟨_, rfl⟩
            obtain ⟨y, hy⟩ : ∃ y, b[j]'(by rw [← HN.out]; exact hlt) = y := ⟨_, rfl⟩
            rw [hx] at m1 m2
            rw [hy] at n1 n2
            have HX := hide hx
            have HY := hide hy
            clear hx hy
            by_cases hq : x = y
            · subst hq
              obtain ⟨z1, z2⟩ := x
              simp only at m1 m2 n1 n2
              have d1 := beq_true (a := z1) rfl
              go_wp2_with fail
              go_quiet (fail)
              go_wp2
              go_roundw
              case rel =>
                refine ⟨j + 1, by omega, by go_num, fun k h1 h2 hkj => ?_, _, rfl⟩
                by_cases hkk : k = j
                · subst hkk; rw [HX.out, HY.out]
                · exact HS.out k h1 h2 (by omega)
              case measure => simp [intOf]; omega
            · have hno : false = decide (a = b) := same_at (h1 := hlt) (h2 := by rw [← HN.out]; exact hlt) (by rw [HX.out, HY.out]; exact hq)
              have HNO := hide hno
              clear hno
              obtain ⟨z1, z2⟩ := x
              obtain ⟨y1, y2⟩ := y
              simp only at m1 m2 n1 n2
              by_cases h1 : z1 = y1
              · have d1 := beq_true h1
                have d2 : (z2 == y2) = false := by
                  simp
                  exact fun e => hq (by rw [h1, e])
                go_wp2_with fail
                go_quiet (fail)
                go_wp2
                go_ret
                exact ⟨ret_bool HNO.out, below_drewN (below_drewN B0.out _) _⟩
              · have d1 := beq_false h1
                go_wp2_with fail
                go_quiet (fail)
                go_wp2
                go_ret
                exact ⟨ret_bool HNO.out, below_drewN (below_drewN B0.out _) _⟩
          · have hyes : true = decide (a = b) := same_all HN.out fun k h1 h2 => HS.out k h1 h2 (by omega)
            have HY := hide hyes
            clear hyes
            go_wp2
            go_ret
            exact ⟨ret_bool HY.out, below_drewN B0.out _⟩
      · have HN := hide (same_len hn)
        have hn2 : (((a.length : Nat) : Int) == ((b.length : Nat) : Int)) = false := by simp; omega
        go_enter Try.func51, Try.ntmps51
        go_wp2
        go_ret
        exact ⟨ret_bool HN.out, by go_grown⟩
    · have b2 := beq_false h2
      have hr : decide ((x1, a, x2) = ((y1, b, y2) : Blk)) = false := by simp [h2]
      rw [hr]
      clear hr
      subst h1
      go_enter Try.func51, Try.ntmps51
      go_wp2
      go_ret
      exact ⟨rfl, by go_grown⟩
  · have b1 : (x1 == y1) = false := by simp [h1]
    have hr : decide ((x1, a, x2) = ((y1, b, y2) : Blk)) = false := by simp [h1]
    rw [hr]
    clear hr
    go_enter Try.func51, Try.ntmps51
    go_wp2
    go_ret
    exact ⟨rfl, by go_grown⟩
end Go.Proofs.Ytajollmmpdkhbaa
