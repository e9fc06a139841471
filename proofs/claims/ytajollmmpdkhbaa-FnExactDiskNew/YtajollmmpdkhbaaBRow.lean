
/- (impl.bitRow).with, (impl.bitRow).has and spec.l05Byte by their contracts. -/
import Derived.Test.YtajollmmpdkhbaaCom
import Derived.Test.YtajollmmpdkhbaaBBit
import Derived.Deep.OwnRows
namespace Go.Proofs.Ytajollmmpdkhbaa
open Go.RowKit Kit

set_option maxHeartbeats 800000 in
theorem with_any (r k : Nat) (w : World) (hk : k < 8) (hr : r < 2 ^ k) :
    Calls Try.prog 107 #[.int .u8 r, .int .i64 k] w fun e w' => e = .returned (.int .u8 (r + 2 ^ k : Nat)) ∧ w = w' := by
  have h8 : 2 ^ k ≤ 128 := by
    have := Nat.pow_le_pow_right (n := 2) (by omega) (show k ≤ 7 by omega)
    simpa using this
  have e : ((2 ^ k : Nat) : Int) = (2 ^ k : Int) := by simp
  have b1 := or_bits r k hk hr
  rw [e] at b1
  have w1 : IntKind.u8.wrap (2 ^ k : Int) = (2 ^ k : Int) := by
    rw [← e, IntKind.wrap_u8]
    generalize 2 ^ k = p at *
    omega
  clear e
  have B1 := hide b1
  clear b1
  go_enter Try.func107, Try.ntmps107
  go_wp2
  go_ret
  exact ⟨ret_of (show Value.int .u8 _ = Value.int .u8 _ by rw [B1.out]), rfl⟩

/-- What counts at place j. -/
def bitP (j : Nat) : Int := ((2 ^ j : Nat) : Int)
theorem bitP_zero : bitP 0 = 1 := rfl
theorem bitP_succ (j : Nat) : bitP (j + 1) = 2 * bitP j := by unfold bitP; rw [Nat.pow_succ]; omega
theorem bitP_le (j : Nat) (h : j ≤ 8) : 0 ≤ bitP j ∧ bitP j ≤ 256 := by
  have := Nat.pow_le_pow_right (n := 2) (by omega) h
  unfold bitP
  generalize 2 ^ j = p at *
  omega
/-- The number of the first j flags. -/
def preN (l : List Bool) (j : Nat) : Int := (byteN (l.take j) : Nat)
theorem preN_zero (l : List Bool) : preN l 0 = 0 := by simp [preN, byteN]
theorem preN_le (l : List Bool) (j : Nat) (h : l.length ≤ 8) : 0 ≤ preN l j ∧ preN l j ≤ 255 := by
  have := byteN_lt256 (l.take j) (by simp; omega)
  unfold preN
  omega
theorem preN_yes (l : List Bool) (j : Nat) (h : j < l.length) (ht : l[j] = true) : preN l (j + 1) = preN l j + bitP j := by
  unfold preN bitP
  rw [List.take_succ_eq_append_getElem h, byteN_snoc, ht, List.length_take, Nat.min_eq_left (by omega)]
  simp
theorem preN_no (l : List Bool) (j : Nat) (h : j < l.length) (ht : l[j] = false) : preN l (j + 1) = preN l j := by
  unfold preN
  rw [List.take_succ_eq_append_getElem h, byteN_snoc, ht]
  simp
theorem preN_all (l : List Bool) (h : l.length ≤ 8) : preN l l.length = ((bB l).toNat : Int) := by
  rw [bB_toNat l h, preN, List.take_length]

set_option maxRecDepth 100000 in
set_option maxHeartbeats 1600000 in
theorem l05Byte_any (v : Value) (l : List Bool) (w : World) (hv : RFl w v l) (hl : l.length ≤ 8) :
    Calls Try.prog 97 #[v] w fun e w' => e = .returned (.int .u8 (bB l).toNat) ∧ w = w' := by
  obtain ⟨a, c, rfl, ha⟩ := hv
  have HA := hide ha
  clear ha
  go_enter Try.func97, Try.ntmps97
  go_wp2
  go_loopw [3, 4, 5] (fun x y i wr => ∃ j : Nat, j ≤ l.length ∧ i = .int .i64 j ∧ x = .int .i64 (preN l j) ∧ y = .int .i64 (bitP j) ∧ w = wr) (fun _ _ i _ => l.length - (intOf i).toNat)
  case atStart => exact ⟨0, Nat.zero_le _, rfl, by rw [preN_zero], by rw [bitP_zero], rfl⟩
  case round =>
    obtain ⟨j, hj, rfl, rfl, rfl, rfl⟩ := hrel
    obtain ⟨p0, p1⟩ := preN_le l j hl
    obtain ⟨q0, q1⟩ := bitP_le j (by omega)
    by_cases hlt : j < l.length
    · obtain ⟨g, off, rfl, _, k1⟩ := HA.out j hlt
      obtain ⟨t, ht⟩ : ∃ t, l[j] = t := ⟨_, rfl⟩
      rw [ht] at k1
      have j0 : (0 : Int) ≤ (j : Int) := by omega
      have j1 : (j : Int) < (l.length : Int) := by omega
      have E1 := hide (bitP_succ j)
      cases t with
      | true =>
        have E2 := hide (preN_yes l j hlt ht)
        clear ht
        go_wp2
        go_roundw
        case rel => exact ⟨j + 1, by omega, by go_num, by rw [E2.out], by rw [E1.out], trivial⟩
        case measure => simp [intOf]; omega
      | false =>
        have E2 := hide (preN_no l j hlt ht)
        clear ht
        go_wp2
        go_roundw
        case rel => exact ⟨j + 1, by omega, by go_num, by rw [E2.out], by rw [E1.out], trivial⟩
        case measure => simp [intOf]; omega
    · have hjl : j = l.length := by omega
      have HJ := hide hjl
      clear hjl
      go_wp2
      go_ret
      exact ⟨ret_of (show Value.int .u8 _ = Value.int .u8 _ by rw [← preN_all l hl, ← HJ.out]), rfl⟩
end Go.Proofs.Ytajollmmpdkhbaa
