/- Lists that are compared: spec.l07SameBools, slices.Equal by their contracts. -/
import Derived.Test.YtajollmmpdkhbaaOkd
namespace Go.Proofs.Ytajollmmpdkhbaa.Kit
open Go.RowKit
theorem same_len {α : Type} [DecidableEq α] {a b : List α} (h : a.length ≠ b.length) : false = decide (a = b) := (decide_eq_false fun e => h (by rw [e])).symm
theorem same_at {α : Type} [DecidableEq α] {a b : List α} {j : Nat} {h1 : j < a.length} {h2 : j < b.length} (h : ¬ a[j] = b[j]) : false = decide (a = b) := (decide_eq_false fun e => h (by subst e; rfl)).symm
theorem same_all {α : Type} [DecidableEq α] {a b : List α} (hl : a.length = b.length) (h : ∀ (k : Nat) (h1 : k < a.length) (h2 : k < b.length), a[k] = b[k]) : true = decide (a = b) := (decide_eq_true (List.ext_getElem hl h)).symm
end Go.Proofs.Ytajollmmpdkhbaa.Kit
namespace Go.Proofs.Ytajollmmpdkhbaa
open Go.RowKit Kit
set_option maxRecDepth 100000 in
set_option maxHeartbeats 1600000 in
theorem specSameB_any (va vb : Value) (a b : List Bool) (w : World) (ha : RFl w va a) (hb : RFl w vb b) (hl : a.length ≤ 1048576) :
    Calls Try.prog 49 #[va, vb] w fun e w' => e = .returned (.bool (decide (a = b))) ∧ Below w.heap.size w w' := by
  obtain ⟨a1, c1, rfl, ha⟩ := ha
  obtain ⟨a2, c2, rfl, hb⟩ := hb
  have HA := hide ha
  have HB := hide hb
  clear ha hb
  by_cases hn : a.length = b.length
  · have hn2 : (((a.length : Nat) : Int) != ((b.length : Nat) : Int)) = false := by simp; omega
    go_enter Try.func49, Try.ntmps49
    go_wp2
    go_loopw [5] (fun i wr => ∃ j : Nat, j ≤ a.length ∧ i = .int .i64 j ∧ Hid (∀ (k : Nat) (h1 : k < a.length) (h2 : k < b.length), k < j → a[k] = b[k]) ∧ ∃ q, wr = w.drewN q) (fun i _ => a.length - (intOf i).toNat)
    case atStart => exact ⟨0, Nat.zero_le _, rfl, fun _ _ _ h => absurd h (Nat.not_lt_zero _), 0, rfl⟩
    case round =>
      obtain ⟨j, hj, rfl, HS, q, rfl⟩ := hrel
      by_cases hlt : j < a.length
      · obtain ⟨g1, o1, rfl, hg1, m1⟩ := HA.out j hlt
        obtain ⟨g2, o2, rfl, hg2, n1⟩ := HB.out j (by omega)
        have j0 : (0 : Int) ≤ (j : Int) := by omega
        have j1 : (j : Int) < (a.length : Int) := by omega
        have j2 : (j : Int) < (b.length : Int) := by omega
        obtain ⟨x, hx⟩ : ∃ x, a[j] = x := ⟨_, rfl⟩
        obtain ⟨y, hy⟩ : ∃ y, b[j]'(by omega) = y := ⟨_, rfl⟩
        rw [hx] at m1
        rw [hy] at n1
        have HX := hide hx
        have HY := hide hy
        clear hx hy
        by_cases hq : x = y
        · subst hq
          skip
          go_wp2_with fail
          go_quiet (fail)
          go_wp2
          go_roundw
          case rel =>
            refine ⟨j + 1, by omega, by go_num, fun k h1 h2 hkj => ?_, _, rfl⟩
            by_cases hkk : k = j
            · subst hkk; rw [HX.out, HY.out]
            · exact HS.out k h1 h2 (by omega)
          case measure => simp [intOf]; omega
        · have hno : false = decide (a = b) := same_at (h1 := hlt) (h2 := by omega) (by rw [HX.out, HY.out]; exact hq)
          have HNO := hide hno
          clear hno
          have b1 : (x == y) = false := by simp [hq]
          go_wp2_with fail
          go_quiet (fail)
          go_wp2
          go_ret
          exact ⟨ret_bool HNO.out, below_drewN (below_drewN (Below.refl _ _) _) _⟩
      · have hyes : true = decide (a = b) := same_all hn fun k h1 h2 => HS.out k h1 h2 (by omega)
        have HY := hide hyes
        clear hyes
        go_wp2
        go_ret
        exact ⟨ret_bool HY.out, below_drewN (Below.refl _ _) _⟩
  · have HN := hide (same_len hn)
    have hn2 : (((a.length : Nat) : Int) != ((b.length : Nat) : Int)) = true := by simp; omega
    go_enter Try.func49, Try.ntmps49
    go_wp2
    go_ret
    exact ⟨ret_bool HN.out, Below.refl _ _⟩
set_option maxRecDepth 100000 in
set_option maxHeartbeats 1600000 in
theorem equalB_any (va vb : Value) (a b : List Bool) (w : World) (ha : RFl w va a) (hb : RFl w vb b) (hl : a.length ≤ 1048576) :
    Calls Try.prog 85 #[va, vb] w fun e w' => e = .returned (.bool (decide (a = b))) ∧ Below w.heap.size w w' := by
  obtain ⟨a1, c1, rfl, ha⟩ := ha
  obtain ⟨a2, c2, rfl, hb⟩ := hb
  have HA := hide ha
  have HB := hide hb
  clear ha hb
  by_cases hn : a.length = b.length
  · have hn2 : (((a.length : Nat) : Int) != ((b.length : Nat) : Int)) = false := by simp; omega
    go_enter Try.func85, Try.ntmps85
    go_wp2
    go_loopw [13] (fun i wr => ∃ j : Nat, j ≤ a.length ∧ i = .int .i64 j ∧ Hid (∀ (k : Nat) (h1 : k < a.length) (h2 : k < b.length), k < j → a[k] = b[k]) ∧ ∃ q, wr = w.drewN q) (fun i _ => a.length - (intOf i).toNat)
    case atStart => exact ⟨0, Nat.zero_le _, rfl, fun _ _ _ h => absurd h (Nat.not_lt_zero _), 0, rfl⟩
    case round =>
      obtain ⟨j, hj, rfl, HS, q, rfl⟩ := hrel
      by_cases hlt : j < a.length
      · obtain ⟨g1, o1, rfl, hg1, m1⟩ := HA.out j hlt
        obtain ⟨g2, o2, rfl, hg2, n1⟩ := HB.out j (by omega)
        have j0 : (0 : Int) ≤ (j : Int) := by omega
        have j1 : (j : Int) < (a.length : Int) := by omega
        have j2 : (j : Int) < (b.length : Int) := by omega
        obtain ⟨x, hx⟩ : ∃ x, a[j] = x := ⟨_, rfl⟩
        obtain ⟨y, hy⟩ : ∃ y, b[j]'(by omega) = y := ⟨_, rfl⟩
        rw [hx] at m1
        rw [hy] at n1
        have HX := hide hx
        have HY := hide hy
        clear hx hy
        by_cases hq : x = y
        · subst hq
          skip
          go_wp2_with fail
          go_quiet (fail)
          go_wp2
          go_roundw
          case rel =>
            refine ⟨j + 1, by omega, by go_num, fun k h1 h2 hkj => ?_, _, rfl⟩
            by_cases hkk : k = j
            · subst hkk; rw [HX.out, HY.out]
            · exact HS.out k h1 h2 (by omega)
          case measure => simp [intOf]; omega
        · have hno : false = decide (a = b) := same_at (h1 := hlt) (h2 := by omega) (by rw [HX.out, HY.out]; exact hq)
          have HNO := hide hno
          clear hno
          have b1 : (x == y) = false := by simp [hq]
          go_wp2_with fail
          go_quiet (fail)
          go_wp2
          go_ret
          exact ⟨ret_bool HNO.out, below_drewN (below_drewN (Below.refl _ _) _) _⟩
      · have hyes : true = decide (a = b) := same_all hn fun k h1 h2 => HS.out k h1 h2 (by omega)
        have HY := hide hyes
        clear hyes
        go_wp2
        go_ret
        exact ⟨ret_bool HY.out, below_drewN (Below.refl _ _) _⟩
  · have HN := hide (same_len hn)
    have hn2 : (((a.length : Nat) : Int) != ((b.length : Nat) : Int)) = true := by simp; omega
    go_enter Try.func85, Try.ntmps85
    go_wp2
    go_ret
    exact ⟨ret_bool HN.out, Below.refl _ _⟩
set_option maxRecDepth 100000 in
set_option maxHeartbeats 1600000 in
theorem equalI_any (va vb : Value) (a b : List Int) (w : World) (ha : RInts w va a) (hb : RInts w vb b) (hl : a.length ≤ 1048576) :
    Calls Try.prog 86 #[va, vb] w fun e w' => e = .returned (.bool (decide (a = b))) ∧ Below w.heap.size w w' := by
  obtain ⟨a1, c1, rfl, ha⟩ := ha
  obtain ⟨a2, c2, rfl, hb⟩ := hb
  have HA := hide ha
  have HB := hide hb
  clear ha hb
  by_cases hn : a.length = b.length
  · have hn2 : (((a.length : Nat) : Int) != ((b.length : Nat) : Int)) = false := by simp; omega
    go_enter Try.func86, Try.ntmps86
    go_wp2
    go_loopw [13] (fun i wr => ∃ j : Nat, j ≤ a.length ∧ i = .int .i64 j ∧ Hid (∀ (k : Nat) (h1 : k < a.length) (h2 : k < b.length), k < j → a[k] = b[k]) ∧ ∃ q, wr = w.drewN q) (fun i _ => a.length - (intOf i).toNat)
    case atStart => exact ⟨0, Nat.zero_le _, rfl, fun _ _ _ h => absurd h (Nat.not_lt_zero _), 0, rfl⟩
    case round =>
      obtain ⟨j, hj, rfl, HS, q, rfl⟩ := hrel
      by_cases hlt : j < a.length
      · obtain ⟨g1, o1, rfl, hg1, m1⟩ := HA.out j hlt
        obtain ⟨g2, o2, rfl, hg2, n1⟩ := HB.out j (by omega)
        have j0 : (0 : Int) ≤ (j : Int) := by omega
        have j1 : (j : Int) < (a.length : Int) := by omega
        have j2 : (j : Int) < (b.length : Int) := by omega
        obtain ⟨x, hx⟩ : ∃ x, a[j] = x := ⟨_, rfl⟩
        obtain ⟨y, hy⟩ : ∃ y, b[j]'(by omega) = y := ⟨_, rfl⟩
        rw [hx] at m1
        rw [hy] at n1
        have HX := hide hx
        have HY := hide hy
        clear hx hy
        by_cases hq : x = y
        · subst hq
          skip
          go_wp2_with fail
          go_quiet (fail)
          go_wp2
          go_roundw
          case rel =>
            refine ⟨j + 1, by omega, by go_num, fun k h1 h2 hkj => ?_, _, rfl⟩
            by_cases hkk : k = j
            · subst hkk; rw [HX.out, HY.out]
            · exact HS.out k h1 h2 (by omega)
          case measure => simp [intOf]; omega
        · have hno : false = decide (a = b) := same_at (h1 := hlt) (h2 := by omega) (by rw [HX.out, HY.out]; exact hq)
          have HNO := hide hno
          clear hno
          have b1 : (x == y) = false := by simp [hq]
          go_wp2_with fail
          go_quiet (fail)
          go_wp2
          go_ret
          exact ⟨ret_bool HNO.out, below_drewN (below_drewN (Below.refl _ _) _) _⟩
      · have hyes : true = decide (a = b) := same_all hn fun k h1 h2 => HS.out k h1 h2 (by omega)
        have HY := hide hyes
        clear hyes
        go_wp2
        go_ret
        exact ⟨ret_bool HY.out, below_drewN (Below.refl _ _) _⟩
  · have HN := hide (same_len hn)
    have hn2 : (((a.length : Nat) : Int) != ((b.length : Nat) : Int)) = true := by simp; omega
    go_enter Try.func86, Try.ntmps86
    go_wp2
    go_ret
    exact ⟨ret_bool HN.out, Below.refl _ _⟩
set_option maxRecDepth 100000 in
set_option maxHeartbeats 1600000 in
theorem equalS_any (va vb : Value) (a b : List Sl) (w : World) (ha : RSl w va a) (hb : RSl w vb b) (hl : a.length ≤ 1048576) :
    Calls Try.prog 87 #[va, vb] w fun e w' => e = .returned (.bool (decide (a = b))) ∧ Below w.heap.size w w' := by
  obtain ⟨a1, c1, rfl, -, ha⟩ := ha
  obtain ⟨a2, c2, rfl, -, hb⟩ := hb
  have HA := hide ha
  have HB := hide hb
  clear ha hb
  by_cases hn : a.length = b.length
  · have hn2 : (((a.length : Nat) : Int) != ((b.length : Nat) : Int)) = false := by simp; omega
    go_enter Try.func87, Try.ntmps87
    go_wp2
    go_loopw [13] (fun i wr => ∃ j : Nat, j ≤ a.length ∧ i = .int .i64 j ∧ Hid (∀ (k : Nat) (h1 : k < a.length) (h2 : k < b.length), k < j → a[k] = b[k]) ∧ ∃ q, wr = w.drewN q) (fun i _ => a.length - (intOf i).toNat)
    case atStart => exact ⟨0, Nat.zero_le _, rfl, fun _ _ _ h => absurd h (Nat.not_lt_zero _), 0, rfl⟩
    case round =>
      obtain ⟨j, hj, rfl, HS, q, rfl⟩ := hrel
      by_cases hlt : j < a.length
      · obtain ⟨g1, o1, rfl, hg1, m1, m2⟩ := HA.out j hlt
        obtain ⟨g2, o2, rfl, hg2, n1, n2⟩ := HB.out j (by omega)
        have j0 : (0 : Int) ≤ (j : Int) := by omega
        have j1 : (j : Int) < (a.length : Int) := by omega
        have j2 : (j : Int) < (b.length : Int) := by omega
        obtain ⟨x, hx⟩ : ∃ x, a[j] = x := ⟨_, rfl⟩
        obtain ⟨y, hy⟩ : ∃ y, b[j]'(by omega) = y := ⟨_, rfl⟩
        rw [hx] at m1 m2
        rw [hy] at n1 n2
        have HX := hide hx
        have HY := hide hy
        clear hx hy
        by_cases hq : x = y
        · subst hq
          obtain ⟨x1, x2⟩ := x
          simp only at m1 m2 n1 n2
          have c1 := beq_true (a := x1) rfl
          go_wp2_with fail
          go_quiet (fail)
          go_wp2
          go_roundw
          case rel =>
            refine ⟨j + 1, by omega, by go_num, fun k h1 h2 hkj => ?_, _, rfl⟩
            by_cases hkk : k = j
            · subst hkk; rw [HX.out, HY.out]
            · exact HS.out k h1 h2 (by omega)
          case measure => simp [intOf]; omega
        · have hno : false = decide (a = b) := same_at (h1 := hlt) (h2 := by omega) (by rw [HX.out, HY.out]; exact hq)
          have HNO := hide hno
          clear hno
          obtain ⟨x1, x2⟩ := x
          obtain ⟨y1, y2⟩ := y
          simp only at m1 m2 n1 n2
          by_cases h1 : x1 = y1
          · have c1 := beq_true h1
            have c2 : (x2 == y2) = false := by
              simp
              exact fun e => hq (by rw [h1, e])
            go_wp2_with fail
            go_quiet (fail)
            go_wp2
            go_ret
            exact ⟨ret_bool HNO.out, below_drewN (below_drewN (Below.refl _ _) _) _⟩
          · have c1 := beq_false h1
            go_wp2_with fail
            go_quiet (fail)
            go_wp2
            go_ret
            exact ⟨ret_bool HNO.out, below_drewN (below_drewN (Below.refl _ _) _) _⟩
      · have hyes : true = decide (a = b) := same_all hn fun k h1 h2 => HS.out k h1 h2 (by omega)
        have HY := hide hyes
        clear hyes
        go_wp2
        go_ret
        exact ⟨ret_bool HY.out, below_drewN (Below.refl _ _) _⟩
  · have HN := hide (same_len hn)
    have hn2 : (((a.length : Nat) : Int) != ((b.length : Nat) : Int)) = true := by simp; omega
    go_enter Try.func87, Try.ntmps87
    go_wp2
    go_ret
    exact ⟨ret_bool HN.out, Below.refl _ _⟩
end Go.Proofs.Ytajollmmpdkhbaa
