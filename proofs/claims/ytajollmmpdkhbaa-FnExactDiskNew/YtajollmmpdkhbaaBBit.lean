
/- Bits and bytes: plain mathematics, no Go function spoken of. -/
import Derived.Test.YtajollmmpdkhbaaCom
import Derived.Test.YtajollmmpdkhbaaBIn
namespace Go.Proofs.Ytajollmmpdkhbaa.Kit
open Go.RowKit
/-- The number of some flags, the first one counts 1. -/
def byteN : List Bool → Nat
  | [] => 0
  | b :: r => (if b then 1 else 0) + 2 * byteN r
theorem byteN_lt (l : List Bool) : byteN l < 2 ^ l.length := by
  induction l with
  | nil => simp [byteN]
  | cons b r ih =>
    simp only [byteN, List.length_cons, Nat.pow_succ]
    split <;> omega
theorem byteN_snoc (l : List Bool) (b : Bool) : byteN (l ++ [b]) = byteN l + (if b then 2 ^ l.length else 0) := by
  induction l with
  | nil => simp [byteN]
  | cons a r ih =>
    simp only [List.cons_append, byteN, ih, List.length_cons, Nat.pow_succ]
    split <;> split <;> omega
theorem byteN_lt256 (l : List Bool) (h : l.length ≤ 8) : byteN l < 256 := by
  have h1 := byteN_lt l
  have h2 : 2 ^ l.length ≤ 2 ^ 8 := Nat.pow_le_pow_right (by omega) h
  omega
/-- The bit i of a number. -/
def bitN (n i : Nat) : Bool := decide (n / 2 ^ i % 2 = 1)
/-- The lowest k bits of a number. -/
def bitsN (k n : Nat) : List Bool := (List.range k).map (bitN n)
theorem bitsN_length (k n : Nat) : (bitsN k n).length = k := by simp [bitsN]
theorem byteN_bitsN (k n : Nat) : byteN (bitsN k n) = n % 2 ^ k := by
  induction k with
  | zero => simp [bitsN, byteN, Nat.mod_one]
  | succ k ih =>
    have e : bitsN (k + 1) n = bitsN k n ++ [bitN n k] := by simp [bitsN, List.range_succ]
    rw [e, byteN_snoc, ih, bitsN_length, Nat.mod_pow_succ, bitN]
    have h2 : n / 2 ^ k % 2 = 0 ∨ n / 2 ^ k % 2 = 1 := by omega
    rcases h2 with h | h <;> simp [h]
theorem bitN_byteN (l : List Bool) (i : Nat) (h : i < l.length) : bitN (byteN l) i = l[i] := by
  induction l generalizing i with
  | nil => simp at h
  | cons b r ih =>
    cases i with
    | zero =>
      simp only [bitN, byteN, Nat.pow_zero, Nat.div_one, List.getElem_cons_zero]
      cases b <;> simp <;> omega
    | succ i =>
      have h' : i < r.length := by simpa using h
      have e : ((if b = true then 1 else 0) + 2 * byteN r) / 2 ^ (i + 1) = byteN r / 2 ^ i := by
        rw [Nat.pow_succ, Nat.mul_comm (2 ^ i) 2, ← Nat.div_div_eq_div_mul]
        congr 1
        split <;> omega
      have := ih i h'
      simp only [bitN, byteN, e, List.getElem_cons_succ] at this ⊢
      exact this
theorem bitsN_byteN (l : List Bool) : bitsN l.length (byteN l) = l := by
  refine List.ext_getElem (bitsN_length _ _) fun i h1 h2 => ?_
  simp only [bitsN, List.getElem_map, List.getElem_range]
  exact bitN_byteN l i h2
/-- The byte of some flags. -/
def bB (l : List Bool) : UInt8 := UInt8.ofNat (byteN l)
theorem bB_toNat (l : List Bool) (h : l.length ≤ 8) : (bB l).toNat = byteN l := by
  have := byteN_lt256 l h
  simp [bB, UInt8.toNat_ofNat']
  omega
theorem bB_bits (b : UInt8) : bB (bitsN 8 b.toNat) = b := by
  have := b.toNat_lt
  apply UInt8.toNat_inj.1
  rw [bB_toNat _ (by rw [bitsN_length]; omega), byteN_bitsN]
  omega
theorem bits_bB (l : List Bool) (h : l.length = 8) : bitsN 8 (bB l).toNat = l := by
  rw [bB_toNat l (by omega), ← h]
  exact bitsN_byteN l
/-- The flags of row i among the first k. -/
def rowK (l : List Bool) (k i : Nat) : List Bool := ((l.take k).drop (8 * i)).take 8
/-- The bytes of m rows, of the first k flags. -/
def rowsK (l : List Bool) (k m : Nat) : List UInt8 := (List.range m).map fun i => bB (rowK l k i)
theorem rowsK_length (l : List Bool) (k m : Nat) : (rowsK l k m).length = m := by simp [rowsK]
theorem rowsK_zero (l : List Bool) (m : Nat) : rowsK l 0 m = List.replicate m 0 := by
  refine List.ext_getElem (by simp [rowsK]) fun i h1 h2 => ?_
  simp [rowsK, rowK, bB, byteN]
theorem rowK_at (l : List Bool) (k : Nat) (h : k < l.length) : rowK l (k + 1) (k / 8) = rowK l k (k / 8) ++ [l[k]] ∧ (rowK l k (k / 8)).length = k % 8 := by
  have e1 : (rowK l k (k / 8)).length = k % 8 := by simp [rowK]; omega
  have e0 : ((l.take k).drop (8 * (k / 8))).length = k % 8 := by simp; omega
  have e2 : rowK l k (k / 8) = (l.take k).drop (8 * (k / 8)) := List.take_of_length_le (by omega)
  refine ⟨?_, e1⟩
  rw [e2]
  unfold rowK
  rw [List.take_succ_eq_append_getElem h, List.drop_append_of_le_length (by simp; omega)]
  exact List.take_of_length_le (by simp only [List.length_append, e0, List.length_singleton]; omega)
theorem rowK_other (l : List Bool) (k i : Nat) (h : k < l.length) (hi : i ≠ k / 8) : rowK l (k + 1) i = rowK l k i := by
  unfold rowK
  rw [List.take_succ_eq_append_getElem h]
  by_cases h1 : i < k / 8
  · rw [List.drop_append_of_le_length (by simp; omega), List.take_append_of_le_length (by simp; omega)]
  · rw [List.drop_of_length_le (by simp; omega), List.drop_of_length_le (by simp; omega)]
theorem rowsK_set (l : List Bool) (k m : Nat) (h : k < l.length) : (rowsK l k m).set (k / 8) (bB (rowK l (k + 1) (k / 8))) = rowsK l (k + 1) m := by
  refine List.ext_getElem (by simp [rowsK]) fun i h1 h2 => ?_
  rw [List.getElem_set]
  split
  · next e => subst e; simp [rowsK]
  · next e => simp only [rowsK, List.getElem_map, List.getElem_range]; rw [rowK_other l k i h (by omega)]
theorem rowsK_skip (l : List Bool) (k m : Nat) (h : k < l.length) (hf : l[k] = false) : rowsK l (k + 1) m = rowsK l k m := by
  refine List.ext_getElem (by simp [rowsK]) fun i h1 h2 => ?_
  simp only [rowsK, List.getElem_map, List.getElem_range]
  by_cases hi : i = k / 8
  · subst hi
    rw [(rowK_at l k h).1, hf]
    simp [bB, byteN_snoc]
  · rw [rowK_other l k i h hi]
/-- The byte of row k / 8 before flag k, and behind it where that is set. -/
theorem row_before (l : List Bool) (k m : Nat) (hm : k / 8 < m) : (bc (rowsK l k m))[k / 8]? = some (.int .u8 (byteN (rowK l k (k / 8)) : Nat)) := by
  have h8 : (rowK l k (k / 8)).length ≤ 8 := by simp [rowK]; omega
  simp [bc, rowsK, hm, bB_toNat _ h8]
theorem row_behind (l : List Bool) (k : Nat) (h : k < l.length) (ht : l[k] = true) : ((bB (rowK l (k + 1) (k / 8))).toNat : Int) = ((byteN (rowK l k (k / 8)) + 2 ^ (k % 8) : Nat) : Int) := by
  obtain ⟨e1, e2⟩ := rowK_at l k h
  rw [bB_toNat _ (by rw [e1]; simp [e2]; omega), e1, byteN_snoc, ht, e2]
  rfl
theorem row_lt (l : List Bool) (k : Nat) (h : k < l.length) : byteN (rowK l k (k / 8)) < 2 ^ (k % 8) := by
  have := byteN_lt (rowK l k (k / 8))
  rwa [(rowK_at l k h).2] at this
theorem rowsK_one (l : List Bool) (h : l.length = 8) : rowsK l 8 1 = [bB l] := by
  have : l.take 8 = l := List.take_of_length_le (by omega)
  simp [rowsK, rowK, this]
theorem rowsK_two (l : List Bool) (h : l.length = 16) : rowsK l 16 2 = [bB (l.take 8), bB (l.drop 8)] := by
  have e1 : l.take 16 = l := List.take_of_length_le (by omega)
  have e2 : (l.drop 8).take 8 = l.drop 8 := List.take_of_length_le (by simp; omega)
  have e3 : List.range 2 = [0, 1] := rfl
  simp [rowsK, rowK, e1, e2, e3]
/-- The flags of some bytes. -/
def flagsL (s : List UInt8) : List Bool := (List.range (8 * s.length)).map fun k => bitN (s.getD (k / 8) 0).toNat (k % 8)
theorem flagsL_length (s : List UInt8) : (flagsL s).length = 8 * s.length := by simp [flagsL]
theorem flagsL_at (s : List UInt8) (k : Nat) (h : k < (flagsL s).length) : (flagsL s)[k] = bitN (s.getD (k / 8) 0).toNat (k % 8) := by simp [flagsL]
theorem flagsL_one (a : UInt8) : flagsL [a] = bitsN 8 a.toNat := rfl
theorem flagsL_two (a b : UInt8) : flagsL [a, b] = bitsN 8 a.toNat ++ bitsN 8 b.toNat := by
  have e1 : List.range 16 = [0, 1, 2, 3, 4, 5, 6, 7, 8, 9, 10, 11, 12, 13, 14, 15] := rfl
  have e2 : List.range 8 = [0, 1, 2, 3, 4, 5, 6, 7] := rfl
  simp [flagsL, bitsN, e1, e2]
theorem or_bits (r k : Nat) (hk : k < 8) (hr : r < 2 ^ k) : bits .or .u8 (r : Int) ((2 ^ k : Nat) : Int) = ((r + 2 ^ k : Nat) : Int) := by
  have h8 : 2 ^ k ≤ 128 := by
    have := Nat.pow_le_pow_right (n := 2) (by omega) (show k ≤ 7 by omega)
    simpa using this
  show IntKind.u8.wrap ((BitVec.ofInt 8 (r : Int) ||| BitVec.ofInt 8 ((2 ^ k : Nat) : Int)).toNat : Nat) = _
  have e1 : (BitVec.ofInt 8 (r : Int)).toNat = r := by rw [BitVec.toNat_ofInt]; omega
  have e2 : (BitVec.ofInt 8 ((2 ^ k : Nat) : Int)).toNat = 2 ^ k := by rw [BitVec.toNat_ofInt]; omega
  have e3 : r ||| 2 ^ k = r + 2 ^ k := by
    have := Nat.two_pow_add_eq_or_of_lt hr 1
    rw [Nat.mul_one] at this
    rw [Nat.or_comm, ← this, Nat.add_comm]
  rw [BitVec.toNat_or, e1, e2, e3]
  clear e1 e2 e3
  generalize 2 ^ k = p at *
  rw [IntKind.wrap_u8]
  omega
theorem and1_u8 (n : Nat) (h : n < 256) : bits .and .u8 (n : Int) 1 = ((n % 2 : Nat) : Int) := by
  show IntKind.u8.wrap ((BitVec.ofInt 8 (n : Int) &&& BitVec.ofInt 8 1).toNat : Nat) = _
  have e1 : (BitVec.ofInt 8 (n : Int)).toNat = n := by rw [BitVec.toNat_ofInt]; omega
  have e2 : (BitVec.ofInt 8 1).toNat = 2 ^ 1 - 1 := by decide
  rw [BitVec.toNat_and, e1, e2, Nat.and_two_pow_sub_one_eq_mod, IntKind.wrap_u8]
  omega
theorem bitN_int (n k : Nat) : bitN n k = (((n / 2 ^ k % 2 : Nat) : Int) == 1) := by
  unfold bitN
  generalize n / 2 ^ k % 2 = p
  rw [Bool.eq_iff_iff]
  simp
  omega
end Go.Proofs.Ytajollmmpdkhbaa.Kit
