/- Texts of the proof, bundled: BBit, BRow, BFl, BEq, Dk, BNew, BTo, INew. -/
import Derived.Deep.OwnRows
import Derived.Handy
import Derived.Test.YtljooldjcefkoaaGreatU01
/- Bits and bytes: plain mathematics, no Go function spoken of. -/
namespace Go.Proofs.YtljooldjcefkoaaGreat.Kit
open Go.RowKit
/-- The number of some flags, the first one counts 1. -/
def byteN : List Bool → Nat
  | [] => 0
  | b :: r => (if b then 1 else 0) + 2 * byteN r
theorem byteN_lt (l : List Bool) : byteN l < 2 ^ l.length := by
  induction l with
  | nil => simp [byteN]
  | cons b r ih =>
    simp only [byteN, List.length_cons, Nat.pow_succ]
    split <;> omega
theorem byteN_snoc (l : List Bool) (b : Bool) : byteN (l ++ [b]) = byteN l + (if b then 2 ^ l.length else 0) := by
  induction l with
  | nil => simp [byteN]
  | cons a r ih =>
    simp only [List.cons_append, byteN, ih, List.length_cons, Nat.pow_succ]
    split <;> split <;> omega
theorem byteN_lt256 (l : List Bool) (h : l.length ≤ 8) : byteN l < 256 := by
  have h1 := byteN_lt l
  have h2 : 2 ^ l.length ≤ 2 ^ 8 := Nat.pow_le_pow_right (by omega) h
  omega
/-- The bit i of a number. -/
def bitN (n i : Nat) : Bool := decide (n / 2 ^ i % 2 = 1)
/-- The lowest k bits of a number. -/
def bitsN (k n : Nat) : List Bool := (List.range k).map (bitN n)
theorem bitsN_length (k n : Nat) : (bitsN k n).length = k := by simp [bitsN]
theorem byteN_bitsN (k n : Nat) : byteN (bitsN k n) = n % 2 ^ k := by
  induction k with
  | zero => simp [bitsN, byteN, Nat.mod_one]
  | succ k ih =>
    have e : bitsN (k + 1) n = bitsN k n ++ [bitN n k] := by simp [bitsN, List.range_succ]
    rw [e, byteN_snoc, ih, bitsN_length, Nat.mod_pow_succ, bitN]
    have h2 : n / 2 ^ k % 2 = 0 ∨ n / 2 ^ k % 2 = 1 := by omega
    rcases h2 with h | h <;> simp [h]
theorem bitN_byteN (l : List Bool) (i : Nat) (h : i < l.length) : bitN (byteN l) i = l[i] := by
  induction l generalizing i with
  | nil => simp at h
  | cons b r ih =>
    cases i with
    | zero =>
      simp only [bitN, byteN, Nat.pow_zero, Nat.div_one, List.getElem_cons_zero]
      cases b <;> simp <;> omega
    | succ i =>
      have h' : i < r.length := by simpa using h
      have e : ((if b = true then 1 else 0) + 2 * byteN r) / 2 ^ (i + 1) = byteN r / 2 ^ i := by
        rw [Nat.pow_succ, Nat.mul_comm (2 ^ i) 2, ← Nat.div_div_eq_div_mul]
        congr 1
        split <;> omega
      have := ih i h'
      simp only [bitN, byteN, e, List.getElem_cons_succ] at this ⊢
      exact this
theorem bitsN_byteN (l : List Bool) : bitsN l.length (byteN l) = l := by
  refine List.ext_getElem (bitsN_length _ _) fun i h1 h2 => ?_
  simp only [bitsN, List.getElem_map, List.getElem_range]
  exact bitN_byteN l i h2
/-- The byte of some flags. -/
def bB (l : List Bool) : UInt8 := UInt8.ofNat (byteN l)
theorem bB_toNat (l : List Bool) (h : l.length ≤ 8) : (bB l).toNat = byteN l := by
  have := byteN_lt256 l h
  simp [bB, UInt8.toNat_ofNat']
  omega
theorem bB_bits (b : UInt8) : bB (bitsN 8 b.toNat) = b := by
  have := b.toNat_lt
  apply UInt8.toNat_inj.1
  rw [bB_toNat _ (by rw [bitsN_length]; omega), byteN_bitsN]
  omega
theorem bits_bB (l : List Bool) (h : l.length = 8) : bitsN 8 (bB l).toNat = l := by
  rw [bB_toNat l (by omega), ← h]
  exact bitsN_byteN l
/-- The flags of row i among the first k. -/
def rowK (l : List Bool) (k i : Nat) : List Bool := ((l.take k).drop (8 * i)).take 8
/-- The bytes of m rows, of the first k flags. -/
def rowsK (l : List Bool) (k m : Nat) : List UInt8 := (List.range m).map fun i => bB (rowK l k i)
theorem rowsK_length (l : List Bool) (k m : Nat) : (rowsK l k m).length = m := by simp [rowsK]
theorem rowsK_zero (l : List Bool) (m : Nat) : rowsK l 0 m = List.replicate m 0 := by
  refine List.ext_getElem (by simp [rowsK]) fun i h1 h2 => ?_
  simp [rowsK, rowK, bB, byteN]
theorem rowK_at (l : List Bool) (k : Nat) (h : k < l.length) : rowK l (k + 1) (k / 8) = rowK l k (k / 8) ++ [l[k]] ∧ (rowK l k (k / 8)).length = k % 8 := by
  have e1 : (rowK l k (k / 8)).length = k % 8 := by simp [rowK]; omega
  have e0 : ((l.take k).drop (8 * (k / 8))).length = k % 8 := by simp; omega
  have e2 : rowK l k (k / 8) = (l.take k).drop (8 * (k / 8)) := List.take_of_length_le (by omega)
  refine ⟨?_, e1⟩
  rw [e2]
  unfold rowK
  rw [List.take_succ_eq_append_getElem h, List.drop_append_of_le_length (by simp; omega)]
  exact List.take_of_length_le (by simp only [List.length_append, e0, List.length_singleton]; omega)
theorem rowK_other (l : List Bool) (k i : Nat) (h : k < l.length) (hi : i ≠ k / 8) : rowK l (k + 1) i = rowK l k i := by
  unfold rowK
  rw [List.take_succ_eq_append_getElem h]
  by_cases h1 : i < k / 8
  · rw [List.drop_append_of_le_length (by simp; omega), List.take_append_of_le_length (by simp; omega)]
  · rw [List.drop_of_length_le (by simp; omega), List.drop_of_length_le (by simp; omega)]
theorem rowsK_set (l : List Bool) (k m : Nat) (h : k < l.length) : (rowsK l k m).set (k / 8) (bB (rowK l (k + 1) (k / 8))) = rowsK l (k + 1) m := by
  refine List.ext_getElem (by simp [rowsK]) fun i h1 h2 => ?_
  rw [List.getElem_set]
  split
  · next e => subst e; simp [rowsK]
  · next e => simp only [rowsK, List.getElem_map, List.getElem_range]; rw [rowK_other l k i h (by omega)]
theorem rowsK_skip (l : List Bool) (k m : Nat) (h : k < l.length) (hf : l[k] = false) : rowsK l (k + 1) m = rowsK l k m := by
  refine List.ext_getElem (by simp [rowsK]) fun i h1 h2 => ?_
  simp only [rowsK, List.getElem_map, List.getElem_range]
  by_cases hi : i = k / 8
  · subst hi
    rw [(rowK_at l k h).1, hf]
    simp [bB, byteN_snoc]
  · rw [rowK_other l k i h hi]
/-- The byte of row k / 8 before flag k, and behind it where that is set. -/
theorem row_before (l : List Bool) (k m : Nat) (hm : k / 8 < m) : (bc (rowsK l k m))[k / 8]? = some (.int .u8 (byteN (rowK l k (k / 8)) : Nat)) := by
  have h8 : (rowK l k (k / 8)).length ≤ 8 := by simp [rowK]; omega
  simp [bc, rowsK, hm, bB_toNat _ h8]
theorem row_behind (l : List Bool) (k : Nat) (h : k < l.length) (ht : l[k] = true) : ((bB (rowK l (k + 1) (k / 8))).toNat : Int) = ((byteN (rowK l k (k / 8)) + 2 ^ (k % 8) : Nat) : Int) := by
  obtain ⟨e1, e2⟩ := rowK_at l k h
  rw [bB_toNat _ (by rw [e1]; simp [e2]; omega), e1, byteN_snoc, ht, e2]
  rfl
theorem row_lt (l : List Bool) (k : Nat) (h : k < l.length) : byteN (rowK l k (k / 8)) < 2 ^ (k % 8) := by
  have := byteN_lt (rowK l k (k / 8))
  rwa [(rowK_at l k h).2] at this
theorem rowsK_one (l : List Bool) (h : l.length = 8) : rowsK l 8 1 = [bB l] := by
  have : l.take 8 = l := List.take_of_length_le (by omega)
  simp [rowsK, rowK, this]
theorem rowsK_two (l : List Bool) (h : l.length = 16) : rowsK l 16 2 = [bB (l.take 8), bB (l.drop 8)] := by
  have e1 : l.take 16 = l := List.take_of_length_le (by omega)
  have e2 : (l.drop 8).take 8 = l.drop 8 := List.take_of_length_le (by simp; omega)
  have e3 : List.range 2 = [0, 1] := rfl
  simp [rowsK, rowK, e1, e2, e3]
/-- The flags of some bytes. -/
def flagsL (s : List UInt8) : List Bool := (List.range (8 * s.length)).map fun k => bitN (s.getD (k / 8) 0).toNat (k % 8)
theorem flagsL_length (s : List UInt8) : (flagsL s).length = 8 * s.length := by simp [flagsL]
theorem flagsL_at (s : List UInt8) (k : Nat) (h : k < (flagsL s).length) : (flagsL s)[k] = bitN (s.getD (k / 8) 0).toNat (k % 8) := by simp [flagsL]
theorem flagsL_one (a : UInt8) : flagsL [a] = bitsN 8 a.toNat := rfl
theorem flagsL_two (a b : UInt8) : flagsL [a, b] = bitsN 8 a.toNat ++ bitsN 8 b.toNat := by
  have e1 : List.range 16 = [0, 1, 2, 3, 4, 5, 6, 7, 8, 9, 10, 11, 12, 13, 14, 15] := rfl
  have e2 : List.range 8 = [0, 1, 2, 3, 4, 5, 6, 7] := rfl
  simp [flagsL, bitsN, e1, e2]
theorem or_bits (r k : Nat) (hk : k < 8) (hr : r < 2 ^ k) : bits .or .u8 (r : Int) ((2 ^ k : Nat) : Int) = ((r + 2 ^ k : Nat) : Int) := by
  have h8 : 2 ^ k ≤ 128 := by
    have := Nat.pow_le_pow_right (n := 2) (by omega) (show k ≤ 7 by omega)
    simpa using this
  show IntKind.u8.wrap ((BitVec.ofInt 8 (r : Int) ||| BitVec.ofInt 8 ((2 ^ k : Nat) : Int)).toNat : Nat) = _
  have e1 : (BitVec.ofInt 8 (r : Int)).toNat = r := by rw [BitVec.toNat_ofInt]; omega
  have e2 : (BitVec.ofInt 8 ((2 ^ k : Nat) : Int)).toNat = 2 ^ k := by rw [BitVec.toNat_ofInt]; omega
  have e3 : r ||| 2 ^ k = r + 2 ^ k := by
    have := Nat.two_pow_add_eq_or_of_lt hr 1
    rw [Nat.mul_one] at this
    rw [Nat.or_comm, ← this, Nat.add_comm]
  rw [BitVec.toNat_or, e1, e2, e3]
  clear e1 e2 e3
  generalize 2 ^ k = p at *
  rw [IntKind.wrap_u8]
  omega
theorem and1_u8 (n : Nat) (h : n < 256) : bits .and .u8 (n : Int) 1 = ((n % 2 : Nat) : Int) := by
  show IntKind.u8.wrap ((BitVec.ofInt 8 (n : Int) &&& BitVec.ofInt 8 1).toNat : Nat) = _
  have e1 : (BitVec.ofInt 8 (n : Int)).toNat = n := by rw [BitVec.toNat_ofInt]; omega
  have e2 : (BitVec.ofInt 8 1).toNat = 2 ^ 1 - 1 := by decide
  rw [BitVec.toNat_and, e1, e2, Nat.and_two_pow_sub_one_eq_mod, IntKind.wrap_u8]
  omega
theorem bitN_int (n k : Nat) : bitN n k = (((n / 2 ^ k % 2 : Nat) : Int) == 1) := by
  unfold bitN
  generalize n / 2 ^ k % 2 = p
  rw [Bool.eq_iff_iff]
  simp
  omega
end Go.Proofs.YtljooldjcefkoaaGreat.Kit
/- (impl.bitRow).with, (impl.bitRow).has and spec.l05Byte by their contracts. -/
namespace Go.Proofs.YtljooldjcefkoaaGreat
open Go.RowKit Kit

/-- What counts at place j. -/
def bitP (j : Nat) : Int := ((2 ^ j : Nat) : Int)
theorem bitP_zero : bitP 0 = 1 := rfl
theorem bitP_succ (j : Nat) : bitP (j + 1) = 2 * bitP j := by unfold bitP; rw [Nat.pow_succ]; omega
theorem bitP_le (j : Nat) (h : j ≤ 8) : 0 ≤ bitP j ∧ bitP j ≤ 256 := by
  have := Nat.pow_le_pow_right (n := 2) (by omega) h
  unfold bitP
  generalize 2 ^ j = p at *
  omega
/-- The number of the first j flags. -/
def preN (l : List Bool) (j : Nat) : Int := (byteN (l.take j) : Nat)
theorem preN_zero (l : List Bool) : preN l 0 = 0 := by simp [preN, byteN]
theorem preN_le (l : List Bool) (j : Nat) (h : l.length ≤ 8) : 0 ≤ preN l j ∧ preN l j ≤ 255 := by
  have := byteN_lt256 (l.take j) (by simp; omega)
  unfold preN
  omega
theorem preN_yes (l : List Bool) (j : Nat) (h : j < l.length) (ht : l[j] = true) : preN l (j + 1) = preN l j + bitP j := by
  unfold preN bitP
  rw [List.take_succ_eq_append_getElem h, byteN_snoc, ht, List.length_take, Nat.min_eq_left (by omega)]
  simp
theorem preN_no (l : List Bool) (j : Nat) (h : j < l.length) (ht : l[j] = false) : preN l (j + 1) = preN l j := by
  unfold preN
  rw [List.take_succ_eq_append_getElem h, byteN_snoc, ht]
  simp
theorem preN_all (l : List Bool) (h : l.length ≤ 8) : preN l l.length = ((bB l).toNat : Int) := by
  rw [bB_toNat l h, preN, List.take_length]

end Go.Proofs.YtljooldjcefkoaaGreat
/- impl.rowsOf, impl.flagsOf and laws.toBoolS by their contracts. -/
namespace Go.Proofs.YtljooldjcefkoaaGreat.Kit
open Go.RowKit
/-- The first j flags are copiedB, the others are false yet. -/
def copiedB (j : Nat) (xs : List Bool) : List Bool := xs.take j ++ List.replicate (xs.length - j) false
theorem copied_lengthB (j : Nat) (xs : List Bool) (h : j ≤ xs.length) : (copiedB j xs).length = xs.length := by simp [copiedB]; omega
theorem copied_zeroB (xs : List Bool) : copiedB 0 xs = List.replicate xs.length false := by simp [copiedB]
theorem copied_allB (xs : List Bool) : copiedB xs.length xs = xs := by simp [copiedB]
theorem copied_cellB (j : Nat) (xs : List Bool) (h : j < xs.length) : (fc (copiedB j xs))[j]? = some (.bool false) := by
  unfold fc copiedB
  have e : (List.map (fun z => Value.bool z) (xs.take j)).length = j := by simp; omega
  rw [List.map_append, List.getElem?_append_right (by omega), e, Nat.sub_self, List.map_replicate, List.getElem?_replicate, if_pos (by omega)]
theorem copied_setB (j : Nat) (xs : List Bool) (h : j < xs.length) : (fc (copiedB j xs)).set j (.bool xs[j]) = fc (copiedB (j + 1) xs) := by
  have e : (copiedB j xs).set j xs[j] = copiedB (j + 1) xs := by
    unfold copiedB
    rw [List.set_append_right _ _ (by simp; omega), List.take_succ_eq_append_getElem h, List.length_take, Nat.min_eq_left (by omega), Nat.sub_self, show xs.length - j = (xs.length - (j + 1)) + 1 by omega, List.replicate_succ, List.set_cons_zero, List.append_assoc]
    rfl
  rw [← e]
  simp [fc, List.map_set]
theorem made_flags (w : World) (xs : List Bool) (h : xs.length ≤ 8388608) (e : TypeId) : ROwns (w.alloc (.cells (madeCells #[.bool false] xs.length) e)) w.heap.size e (.slice (some ⟨w.heap.size, 0, none⟩) xs.length xs.length) (fc (copiedB 0 xs)) := by
  have e1 : (madeCells #[.bool false] xs.length).toList = fc (copiedB 0 xs) := by rw [toList_madeCells_one, copied_zeroB]; simp [fc]
  have e2 : (madeCells #[.bool false] xs.length).size = xs.length := by rw [← Array.length_toList, e1, fc_length, copied_lengthB 0 xs (Nat.zero_le _)]
  have := ROwns.lit w w.heap.size e (madeCells #[.bool false] xs.length) (Nat.le_refl _) (by rw [e2]; unfold maxLen; omega)
  rwa [e1, e2] at this
/-- One more flag copiedB. -/
theorem copied_next {wr : World} {base g n : Nat} {e : TypeId} {j : Nat} {xs : List Bool} (hn : xs.length = n) (hj : j < n) (h : ROwns wr base e (.slice (some ⟨g, 0, none⟩) n n) (fc (copiedB j xs))) :
    ROwns (wr.setCell ⟨g, j, none⟩ (.bool (xs[j]'(by omega)))) base e (.slice (some ⟨g, 0, none⟩) n n) (fc (copiedB (j + 1) xs)) ∧ wr.cell? ⟨g, j, none⟩ = some (.bool false) ∧ wr.frozen? ⟨g, j, none⟩ = false ∧ g < wr.heap.size := by
  have hml : (fc (copiedB j xs)).length = n := by rw [fc_length, copied_lengthB j xs (by omega), hn]
  obtain ⟨g2, c2, e1, q2, q3, -, q5, -⟩ := h.at j (by omega)
  rw [copied_cellB j xs (by omega)] at q2
  simp only [Value.slice.injEq, Option.some.injEq, Addr.mk.injEq] at e1
  obtain ⟨⟨rfl, -, -⟩, -, rfl⟩ := e1
  have O1 : ROwns wr base e (.slice (some ⟨g, 0, none⟩) (fc (copiedB j xs)).length n) (fc (copiedB j xs)) := by rw [hml]; exact h
  have O2 := O1.stored j (.bool (xs[j]'(by omega)))
  rw [copied_setB j xs (by omega), hml] at O2
  exact ⟨O2.1, q2, q3, q5⟩
end Go.Proofs.YtljooldjcefkoaaGreat.Kit
namespace Go.Proofs.YtljooldjcefkoaaGreat
open Go.RowKit Kit
theorem Tryz.u22 : Tryz.prog.underlying 22 = some (.slice 4) := by kernel_rfl
theorem Tryz.i4 : (Tryz.prog.info? 4).map (fun i => (i.zero, i.size, i.bytes)) = some (some (.bool false), 1, 1) := by kernel_rfl
theorem make_fl (n : Nat) (h : n ≤ 8388608) (w : World) : (Instr.makeSlice 22 (.int .i64 (n : Int)) (.int .i64 (n : Int))).run Tryz.prog w = .ok (.slice (some ⟨w.heap.size, 0, none⟩) n n) (w.alloc (.cells (madeCells #[.bool false] n) 4)) :=
  run_make_row' 22 4 (.bool false) 1 Tryz.u22 Tryz.i4 rfl .i64 .i64 n (by omega) (by omega) w
theorem make_by (n : Nat) (h : n ≤ 8388608) (w : World) : (Instr.makeSlice 148 (.int .i64 (n : Int)) (.int .i64 (n : Int))).run Tryz.prog w = .ok (.slice (some ⟨w.heap.size, 0, none⟩) n n) (w.alloc (.cells (madeCells #[.int .u8 0] n) 5)) :=
  run_make_row' 148 5 (.int .u8 0) 1 Tryz.u148 Tryz.i5 rfl .i64 .i64 n (by omega) (by omega) w

set_option maxRecDepth 100000 in
set_option maxHeartbeats 1600000 in
theorem toB_anyB (v : Value) (xs : List Bool) (w : World) (hv : RFl w v xs) (hl : xs.length ≤ 1048576) :
    Calls Tryz.prog 53 #[v] w fun e w' => ∃ u, e = .returned u ∧ ROwns w' w.heap.size 4 u (fc xs) ∧ Below w.heap.size w w' := by
  obtain ⟨a, c, rfl, hc⟩ := hv
  have HC := hide hc
  clear hc
  have mk := make_fl xs.length (by omega)
  go_enter Tryz.func53, Tryz.ntmps53
  go_wp2
  go_loopw [4] (fun i wr => ∃ j : Nat, j ≤ xs.length ∧ i = .int .i64 j ∧ ROwns wr w.heap.size 4 (.slice (some ⟨w.heap.size, 0, none⟩) xs.length xs.length) (fc (copiedB j xs)) ∧ Below w.heap.size w wr) (fun i _ => xs.length - (intOf i).toNat)
  case atStart => exact ⟨0, Nat.zero_le _, rfl, made_flags w xs (by omega) 4, (Below.refl _ w).alloc (Nat.le_refl _) _⟩
  case round =>
    obtain ⟨j, hj, rfl, hown, hb⟩ := hrel
    by_cases hlt : j < xs.length
    · obtain ⟨g, off, rfl, hg, k1⟩ := HC.out j hlt
      have q1 : wr.cell? ⟨g, off + j, none⟩ = some (.bool xs[j]) := (hb.cell (p := ⟨g, off + j, none⟩) hg).trans k1
      obtain ⟨O2, q2, q3, q4⟩ := copied_next rfl hlt hown
      have HO := hide (And.intro O2 (hb.setCell (p := ⟨w.heap.size, j, none⟩) (Nat.le_refl _) (.bool xs[j])))
      obtain ⟨t, ht⟩ : ∃ t, xs[j] = t := ⟨_, rfl⟩
      rw [ht] at q1 HO
      have hne : ¬ g = w.heap.size := by omega
      have j0 : (0 : Int) ≤ (j : Int) := by omega
      have j1 : (j : Int) < (xs.length : Int) := by omega
      clear hown hb O2 ht k1 mk
      go_wp2
      go_roundw
      case rel => exact ⟨j + 1, by omega, by go_num, HO.out.1, HO.out.2⟩
      case measure => simp [intOf]; omega
    · have hjl : j = xs.length := by omega
      have HR := hide (And.intro hown hb)
      have HJ := hide hjl
      clear hown hb hjl mk
      go_wp2
      go_ret
      exact ⟨_, rfl, by have := HR.out.1; rwa [HJ.out, copied_allB] at this, HR.out.2⟩

end Go.Proofs.YtljooldjcefkoaaGreat
/- Where bits lie, and laws.eqBits, laws.markBits, laws.heldBits by their contracts. -/
namespace Go.Proofs.YtljooldjcefkoaaGreat.Kit
open Go.RowKit
/-- A variable of two cells lies in block b. -/
def AtP (T : TypeId) (w : World) (b : Nat) (u v : Value) : Prop := w.heap[b]? = some (.cells #[u, v] T (0, 0))
theorem AtP.lt {T : TypeId} {w : World} {b : Nat} {u v : Value} (h : AtP T w b u v) : b < w.heap.size := (Array.getElem?_eq_some_iff.1 h).1
theorem AtP.new (T : TypeId) (w : World) (u v : Value) : AtP T (w.alloc (.cells #[u, v] T)) w.heap.size u v := heap_new w _
theorem AtP.alloc {T : TypeId} {w : World} {b : Nat} {u v : Value} (h : AtP T w b u v) (o : Obj) : AtP T (w.alloc o) b u v := (Below.heap_alloc _ _ _ h.lt).trans h
theorem AtP.below {T : TypeId} {w w' : World} {b B : Nat} {u v : Value} (h : AtP T w b u v) (hb : Below B w w') (hB : b < B) : AtP T w' b u v := (hb.block b hB).trans h
theorem AtP.grown {T : TypeId} {w w' : World} {b : Nat} {u v : Value} {row : Option Nat} (h : AtP T w b u v) (hg : w.grownBy w' row) (hr : row ≠ some b) : AtP T w' b u v := (hg.block b h.lt (fun e => hr e.symm)).trans h
theorem AtP.cells {T : TypeId} {w : World} {b : Nat} {u v : Value} (h : AtP T w b u v) : w.cell? ⟨b, 0, none⟩ = some u ∧ w.cell? ⟨b, 1, none⟩ = some v := by
  have h' : w.heap[b]? = some (.cells #[u, v] T (0, 0)) := h
  exact ⟨by simp [World.cell?, h'], by simp [World.cell?, h']⟩
theorem AtP.frozen {T : TypeId} {w : World} {b : Nat} {u v : Value} (h : AtP T w b u v) : w.frozen? ⟨b, 0, none⟩ = false ∧ w.frozen? ⟨b, 1, none⟩ = false := by
  have h' : w.heap[b]? = some (.cells #[u, v] T (0, 0)) := h
  exact ⟨by simp [World.frozen?, h'], by simp [World.frozen?, h']⟩
theorem AtP.set_other {T : TypeId} {w : World} {b : Nat} {u v : Value} (h : AtP T w b u v) {B j : Nat} (hne : b ≠ B) (x : Value) : AtP T (w.setCell ⟨B, j, none⟩ x) b u v := (heap_setCell_other w ⟨B, j, none⟩ b x hne).trans h
theorem AtP.set0 {T : TypeId} {w : World} {b : Nat} {u v : Value} (h : AtP T w b u v) (x : Value) : AtP T (w.setCell ⟨b, 0, none⟩ x) b x v := heap_setCell_same w b 0 _ T x h
theorem AtP.set1 {T : TypeId} {w : World} {b : Nat} {u v : Value} (h : AtP T w b u v) (x : Value) : AtP T (w.setCell ⟨b, 1, none⟩ x) b u x := heap_setCell_same w b 1 _ T x h
theorem AtP.drew {T : TypeId} {w : World} {b : Nat} {u v : Value} (h : AtP T w b u v) : AtP T w.drew b u v := h
/-- Two slices own the flags xs and ys, each in a block of its own. -/
structure Two (w : World) (base : Nat) (u v : Value) (xs ys : List Bool) : Prop where
  a : ROwns w base 4 u (fc xs)
  b : ROwns w base 4 v (fc ys)
  ne : ∀ k, u.ownBlock = some k → v.ownBlock ≠ some k
namespace Two
variable {w w' : World} {base : Nat} {u v : Value} {xs ys : List Bool}
theorem alloc (h : Two w base u v xs ys) (o : Obj) : Two (w.alloc o) base u v xs ys := ⟨h.a.alloc o, h.b.alloc o, h.ne⟩
theorem drew (h : Two w base u v xs ys) : Two w.drew base u v xs ys := ⟨h.a.drew, h.b.drew, h.ne⟩
theorem below {B : Nat} (h : Two w base u v xs ys) (hb : Below B w w') (hB : w.heap.size ≤ B) : Two w' base u v xs ys := ⟨h.a.below hb hB, h.b.below hb hB, h.ne⟩
theorem base_le {base' : Nat} (h : Two w base u v xs ys) (hb : base' ≤ base) : Two w base' u v xs ys := ⟨h.a.base_le hb, h.b.base_le hb, h.ne⟩
theorem set_other (h : Two w base u v xs ys) {b j : Nat} (hp : b < base) (x : Value) : Two (w.setCell ⟨b, j, none⟩ x) base u v xs ys := ⟨h.a.setCell_other hp x, h.b.setCell_other hp x, h.ne⟩
theorem form (h : Two w base u v xs ys) : ∃ a1 c1 a2 c2, u = .slice a1 xs.length c1 ∧ v = .slice a2 ys.length c2 := by
  obtain ⟨a1, c1, e1⟩ := h.a.rfl.form
  obtain ⟨a2, c2, e2⟩ := h.b.rfl.form
  exact ⟨a1, c1, a2, c2, e1, e2⟩
theorem nil (w : World) (base : Nat) : Two w base (.slice none 0 0) (.slice none 0 0) [] [] := ⟨ROwns.nil _ _ _, ROwns.nil _ _ _, fun k h => by cases h⟩
end Two
/-- Of what was there two blocks alone may have turned. -/
structure G2 (w w' : World) (r1 r2 : Option Nat) : Prop where
  os : w'.os = w.os
  tape : w'.tape = w.tape
  output : w'.output = w.output
  size : w.heap.size ≤ w'.heap.size
  block : ∀ k, k < w.heap.size → r1 ≠ some k → r2 ≠ some k → w'.heap[k]? = w.heap[k]?
theorem AtP.g2 {T : TypeId} {w w' : World} {b : Nat} {u v : Value} {r1 r2 : Option Nat} (h : AtP T w b u v) (hg : G2 w w' r1 r2) (h1 : r1 ≠ some b) (h2 : r2 ≠ some b) : AtP T w' b u v := (hg.block b h.lt h1 h2).trans h
theorem Two.g2 {w w' : World} {base : Nat} {u v : Value} {xs ys : List Bool} {r1 r2 : Option Nat} (h : Two w base u v xs ys) (hg : G2 w w' r1 r2) (h1 : ∀ k, (u.ownBlock = some k ∨ v.ownBlock = some k) → r1 ≠ some k ∧ r2 ≠ some k) : Two w' base u v xs ys :=
  ⟨h.a.of_heap fun k hk => hg.block k (h.a.lt k hk).2 (h1 k (.inl hk)).1 (h1 k (.inl hk)).2, h.b.of_heap fun k hk => hg.block k (h.b.lt k hk).2 (h1 k (.inr hk)).1 (h1 k (.inr hk)).2, h.ne⟩
end Go.Proofs.YtljooldjcefkoaaGreat.Kit
namespace Go.Proofs.YtljooldjcefkoaaGreat
open Go.RowKit Kit

set_option maxHeartbeats 800000 in
theorem eqN_sameB (ua ub va vb : Value) (xs ys : List Bool) (w : World) (h1 : RFl w ua xs) (h2 : RFl w ub ys) (h3 : RFl w va xs) (h4 : RFl w vb ys) (hx : xs.length ≤ 1000000000) (hy : ys.length ≤ 1000000000) :
    Calls Tryz.prog 31 #[.agg #[ua, ub], .agg #[va, vb]] w fun e w' => e = .returned (.bool true) ∧ Below w.heap.size w w' := by
  obtain ⟨a1, c1, rfl⟩ := h1.form
  obtain ⟨a2, c2, rfl⟩ := h2.form
  obtain ⟨a3, c3, rfl⟩ := h3.form
  obtain ⟨a4, c4, rfl⟩ := h4.form
  have H1 := hide h1
  have H2 := hide h2
  have H3 := hide h3
  have H4 := hide h4
  clear h1 h2 h3 h4
  go_enter Tryz.func31, Tryz.ntmps31
  go_wp2_with fail
  refine (eqB_sameB _ _ xs _ ((H1.out.alloc _).alloc _) ((H3.out.alloc _).alloc _) hx).mono ?_
  rintro e w1 ⟨rfl, B1⟩
  have X1 : AtP 31 w1 w.heap.size (.slice a1 xs.length c1) (.slice a2 ys.length c2) := ((AtP.new 31 w _ _).alloc _).below B1 (by simp; omega)
  have X2 : AtP 31 w1 (w.heap.size + 1) (.slice a3 xs.length c3) (.slice a4 ys.length c4) := by
    have := (AtP.new 31 (w.alloc (.cells #[.slice a1 xs.length c1, .slice a2 ys.length c2] 31)) (.slice a3 xs.length c3) (.slice a4 ys.length c4)).below B1 (by simp)
    rwa [World.size_alloc] at this
  have b1 : Below w.heap.size w w1 := ((((Below.refl _ w).alloc (Nat.le_refl _) _).alloc (by simp) _).trans (B1.mono (by simp; omega)))
  have n2 : RFl w1 (.slice a2 ys.length c2) ys := ((H2.out.alloc _).alloc _).below B1 (Nat.le_refl _)
  have n4 : RFl w1 (.slice a4 ys.length c4) ys := ((H4.out.alloc _).alloc _).below B1 (Nat.le_refl _)
  obtain ⟨p0, p1⟩ := X1.cells
  obtain ⟨q0, q1⟩ := X2.cells
  have m1 := X1.lt
  have m2 := X2.lt
  have HB := hide b1
  have HN := hide (And.intro n2 n4)
  clear B1 X1 X2 b1 n2 n4 H1 H2 H3 H4
  go_wp2_with fail
  refine (eqB_sameB _ _ ys w1 HN.out.1 HN.out.2 hy).mono ?_
  rintro e w2 ⟨rfl, B2⟩
  have HB2 := hide (HB.out.trans (B2.mono HB.out.size))
  clear B2 HB HN
  go_wp2
  go_ret
  exact ⟨rfl, HB2.out⟩

end Go.Proofs.YtljooldjcefkoaaGreat
/- Rows of structs of three cells, one of which is a slice with a block of its own: how they lie, how they are read. No Go function is spoken of. -/
namespace Go.Proofs.YtljooldjcefkoaaGreat.Kit
open Go.RowKit
/-- Three cells. -/
abbrev V3 := Value × Value × Value
/-- Structs of three cells each, as cells. -/
def f3 : List V3 → List Value
  | [] => []
  | t :: r => t.1 :: t.2.1 :: t.2.2 :: f3 r
theorem f3_length (ts : List V3) : (f3 ts).length = ts.length * 3 := by
  induction ts with
  | nil => rfl
  | cons s r ih => simp [f3, ih]; omega
theorem f3_append (a b : List V3) : f3 (a ++ b) = f3 a ++ f3 b := by
  induction a with
  | nil => rfl
  | cons s r ih => simp [f3, ih]
theorem f3_at (ts : List V3) (j : Nat) (h : j < ts.length) : (f3 ts)[j * 3]? = some ts[j].1 ∧ (f3 ts)[j * 3 + 1]? = some ts[j].2.1 ∧ (f3 ts)[j * 3 + 2]? = some ts[j].2.2 := by
  induction ts generalizing j with
  | nil => simp at h
  | cons s r ih =>
    cases j with
    | zero => exact ⟨rfl, rfl, rfl⟩
    | succ j =>
      rw [show (j + 1) * 3 = j * 3 + 1 + 1 + 1 by omega, show j * 3 + 1 + 1 + 1 + 1 = j * 3 + 1 + 1 + 1 + 1 from rfl, show j * 3 + 1 + 1 + 1 + 2 = j * 3 + 2 + 1 + 1 + 1 by omega]
      simp only [f3, List.getElem?_cons_succ, List.getElem_cons_succ]
      exact ih j (by simpa using h)
theorem f3_set0 (ts : List V3) (j : Nat) (x : Value) (h : j < ts.length) : (f3 ts).set (j * 3) x = f3 (ts.set j (x, ts[j].2.1, ts[j].2.2)) := by
  induction ts generalizing j with
  | nil => simp at h
  | cons s r ih =>
    cases j with
    | zero => rfl
    | succ j =>
      rw [show (j + 1) * 3 = j * 3 + 1 + 1 + 1 by omega]
      simp only [f3, List.set_cons_succ, List.getElem_cons_succ]
      rw [ih j (by simpa using h)]
theorem f3_set1 (ts : List V3) (j : Nat) (x : Value) (h : j < ts.length) : (f3 ts).set (j * 3 + 1) x = f3 (ts.set j (ts[j].1, x, ts[j].2.2)) := by
  induction ts generalizing j with
  | nil => simp at h
  | cons s r ih =>
    cases j with
    | zero => rfl
    | succ j =>
      rw [show (j + 1) * 3 + 1 = j * 3 + 1 + 1 + 1 + 1 by omega]
      simp only [f3, List.set_cons_succ, List.getElem_cons_succ]
      rw [ih j (by simpa using h)]
theorem f3_set2 (ts : List V3) (j : Nat) (x : Value) (h : j < ts.length) : (f3 ts).set (j * 3 + 2) x = f3 (ts.set j (ts[j].1, ts[j].2.1, x)) := by
  induction ts generalizing j with
  | nil => simp at h
  | cons s r ih =>
    cases j with
    | zero => rfl
    | succ j =>
      rw [show (j + 1) * 3 + 2 = j * 3 + 2 + 1 + 1 + 1 by omega]
      simp only [f3, List.set_cons_succ, List.getElem_cons_succ]
      rw [ih j (by simpa using h)]
theorem f3_set (ts : List V3) (j : Nat) (x y z : Value) (h : j < ts.length) : (((f3 ts).set (j * 3) x).set (j * 3 + 1) y).set (j * 3 + 2) z = f3 (ts.set j (x, y, z)) := by
  rw [f3_set0 ts j x h, f3_set1 _ j y (by simpa using h), f3_set2 _ j z (by simpa using h)]
  simp
/-- The slice value v owns the structs ts (element type e). -/
def TOwns (w : World) (e : TypeId) (v : Value) (ts : List V3) : Prop := w.ownsRow 0 e 3 v ts.length (f3 ts)
theorem TOwns.lt {w : World} {e : TypeId} {v : Value} {l : List V3} (h : TOwns w e v l) : ∀ k, v.ownBlock = some k → k < w.heap.size := fun k hk => (World.ownsRow.lt h k hk).2
theorem TOwns.of_heap {w w' : World} {e : TypeId} {v : Value} {l : List V3} (h : TOwns w e v l) (hh : ∀ k, v.ownBlock = some k → w'.heap[k]? = w.heap[k]?) : TOwns w' e v l := by
  refine ⟨h.1, ?_⟩
  rcases h.2 with h1 | ⟨g, cap, cur, h1, h2, h3, h4⟩
  · exact .inl h1
  · exact .inr ⟨g, cap, cur, h1, h2, by rw [hh g (by rw [h1]; rfl), h3], h4⟩
theorem TOwns.nil (w : World) (e : TypeId) : TOwns w e (.slice none 0 0) [] := World.ownsRow_nil _ _ _ _
theorem TOwns.lit (w : World) (e : TypeId) (cs : Array Value) (ts : List V3) (hc : cs.toList = f3 ts) (hm : ts.length ≤ maxLen) : TOwns (w.alloc (.cells cs e)) e (.slice (some ⟨w.heap.size, 0, none⟩) ts.length ts.length) ts := by
  have h1 : cs.size = ts.length * 3 := by rw [← Array.length_toList, hc, f3_length]
  have := World.ownsRow_lit (base := 0) (e := e) (size := 3) w cs ts.length (Nat.zero_le _) hm h1
  unfold TOwns
  rwa [hc] at this
theorem TOwns.form {w : World} {e : TypeId} {v : Value} {l : List V3} (h : TOwns w e v l) : ∃ a cap, v = .slice a l.length cap ∧ l.length ≤ cap ∧ (a = none → l = []) := by
  rcases h.2 with ⟨rfl, h0⟩ | ⟨g, cap, cur, rfl, _, _, hc, _⟩
  · exact ⟨none, 0, by rw [h0], by omega, fun _ => List.length_eq_zero_iff.1 h0⟩
  · exact ⟨_, _, rfl, hc, fun h => by cases h⟩
theorem TOwns.at {w : World} {e : TypeId} {v : Value} {l : List V3} (h : TOwns w e v l) (k : Nat) (hk : k < l.length) :
    ∃ g cap, v = .slice (some ⟨g, 0, none⟩) l.length cap ∧ w.cell? ⟨g, k * 3, none⟩ = some l[k].1 ∧ w.cell? ⟨g, k * 3 + 1, none⟩ = some l[k].2.1 ∧ w.cell? ⟨g, k * 3 + 2, none⟩ = some l[k].2.2 ∧ (∀ j, w.frozen? ⟨g, j, none⟩ = false) ∧ g < w.heap.size ∧ l.length ≤ cap := by
  have hlt := h.lt
  rcases h.2 with ⟨h1, h0⟩ | ⟨g, cap, cur, rfl, h2, h3, h4, h5, h6, h7⟩
  · omega
  · have h' : w.ownsRow 0 e 3 (.slice (some ⟨g, 0, none⟩) l.length cap) l.length (f3 l) := h
    exact ⟨g, cap, rfl, (h'.cellAt _ (by omega)).trans (f3_at l k hk).1, (h'.cellAt _ (by omega)).trans (f3_at l k hk).2.1, (h'.cellAt _ (by omega)).trans (f3_at l k hk).2.2, h'.frozenAt, hlt g rfl, h4⟩
theorem TOwns.set0 {w : World} {g cap : Nat} {e : TypeId} {l : List V3} (h : TOwns w e (.slice (some ⟨g, 0, none⟩) l.length cap) l) (k : Nat) (hk : k < l.length) (x : Value) :
    TOwns (w.setCell ⟨g, k * 3, none⟩ x) e (.slice (some ⟨g, 0, none⟩) l.length cap) (l.set k (x, l[k].2.1, l[k].2.2)) := by
  unfold TOwns
  rw [List.length_set, ← f3_set0 l k x hk]
  exact (World.ownsRow.stored h (k * 3) x).1
theorem TOwns.set1 {w : World} {g cap : Nat} {e : TypeId} {l : List V3} (h : TOwns w e (.slice (some ⟨g, 0, none⟩) l.length cap) l) (k : Nat) (hk : k < l.length) (x : Value) :
    TOwns (w.setCell ⟨g, k * 3 + 1, none⟩ x) e (.slice (some ⟨g, 0, none⟩) l.length cap) (l.set k (l[k].1, x, l[k].2.2)) := by
  unfold TOwns
  rw [List.length_set, ← f3_set1 l k x hk]
  exact (World.ownsRow.stored h (k * 3 + 1) x).1
theorem TOwns.set2 {w : World} {g cap : Nat} {e : TypeId} {l : List V3} (h : TOwns w e (.slice (some ⟨g, 0, none⟩) l.length cap) l) (k : Nat) (hk : k < l.length) (x : Value) :
    TOwns (w.setCell ⟨g, k * 3 + 2, none⟩ x) e (.slice (some ⟨g, 0, none⟩) l.length cap) (l.set k (l[k].1, l[k].2.1, x)) := by
  unfold TOwns
  rw [List.length_set, ← f3_set2 l k x hk]
  exact (World.ownsRow.stored h (k * 3 + 2) x).1
theorem TOwns.set {w : World} {g cap : Nat} {e : TypeId} {l : List V3} (h : TOwns w e (.slice (some ⟨g, 0, none⟩) l.length cap) l) (k : Nat) (hk : k < l.length) (x y z : Value) :
    TOwns (((w.setCell ⟨g, k * 3, none⟩ x).setCell ⟨g, k * 3 + 1, none⟩ y).setCell ⟨g, k * 3 + 2, none⟩ z) e (.slice (some ⟨g, 0, none⟩) l.length cap) (l.set k (x, y, z)) := by
  have h1 := h.set0 k hk x
  have h2 : TOwns (w.setCell ⟨g, k * 3, none⟩ x) e (.slice (some ⟨g, 0, none⟩) (l.set k (x, l[k].2.1, l[k].2.2)).length cap) (l.set k (x, l[k].2.1, l[k].2.2)) := by rw [List.length_set]; exact h1
  have h3 := h2.set1 k (by simpa using hk) y
  simp only [List.length_set, List.getElem_set_self, List.set_set] at h3
  have h4 : TOwns ((w.setCell ⟨g, k * 3, none⟩ x).setCell ⟨g, k * 3 + 1, none⟩ y) e (.slice (some ⟨g, 0, none⟩) (l.set k (x, y, l[k].2.2)).length cap) (l.set k (x, y, l[k].2.2)) := by rw [List.length_set]; exact h3
  have h5 := h4.set2 k (by simpa using hk) z
  simp only [List.length_set, List.getElem_set_self, List.set_set] at h5
  exact h5
/-- Only blocks of S have changed, and new ones have come. -/
structure Chg (S : Nat → Prop) (w w' : World) : Prop where
  os : w'.os = w.os
  tape : w'.tape = w.tape
  output : w'.output = w.output
  size : w.heap.size ≤ w'.heap.size
  block : ∀ k, k < w.heap.size → ¬ S k → w'.heap[k]? = w.heap[k]?
theorem Chg.refl (S : Nat → Prop) (w : World) : Chg S w w := ⟨rfl, rfl, rfl, Nat.le_refl _, fun _ _ _ => rfl⟩
theorem Chg.trans {S : Nat → Prop} {a b c : World} (h : Chg S a b) (k : Chg S b c) : Chg S a c :=
  ⟨k.os.trans h.os, k.tape.trans h.tape, k.output.trans h.output, Nat.le_trans h.size k.size, fun i hi hr => (k.block i (by have := h.size; omega) hr).trans (h.block i hi hr)⟩
theorem Chg.mono {S S' : Nat → Prop} {a b : World} (h : Chg S a b) (hs : ∀ k, S k → S' k) : Chg S' a b := ⟨h.os, h.tape, h.output, h.size, fun k hk hn => h.block k hk fun e => hn (hs k e)⟩
theorem Chg.of_below {S : Nat → Prop} {a b : World} (h : Below a.heap.size a b) : Chg S a b := ⟨h.os, h.tape, h.output, h.size, fun k hk _ => h.block k hk⟩
theorem Chg.of_grown {S : Nat → Prop} {a b : World} {row : Option Nat} (h : a.grownBy b row) (hr : ∀ k, row = some k → S k) : Chg S a b := ⟨h.os, h.tape, h.output, h.size, fun k hk hn => h.block k hk fun e => hn (hr k e.symm)⟩
theorem Chg.of_g2 {S : Nat → Prop} {a b : World} {r1 r2 : Option Nat} (h : G2 a b r1 r2) (h1 : ∀ k, r1 = some k → S k) (h2 : ∀ k, r2 = some k → S k) : Chg S a b := ⟨h.os, h.tape, h.output, h.size, fun k hk hn => h.block k hk (fun e => hn (h1 k e)) (fun e => hn (h2 k e))⟩
theorem Chg.below {S : Nat → Prop} {a b : World} {B : Nat} (h : Chg S a b) (hB : B ≤ a.heap.size) (hs : ∀ k, S k → B ≤ k) : Below B a b :=
  ⟨h.os, h.tape, h.output, h.size, fun k hk => h.block k (by omega) fun e => by have := hs k e; omega⟩
theorem Chg.setCell {S : Nat → Prop} {a b : World} (h : Chg S a b) {g j : Nat} (hg : S g) (x : Value) : Chg S a (b.setCell ⟨g, j, none⟩ x) :=
  h.trans ⟨rfl, rfl, rfl, by simp, fun k _ hn => heap_setCell_other b ⟨g, j, none⟩ k x (fun e => hn (by simp at e; subst e; exact hg))⟩
/-- A kind of structs of three cells: which of the cells is the slice, how it is owned, how it is read. -/
structure Kd (α : Type) where
  T : TypeId
  p : V3 → Value
  O : World → V3 → α → Prop
  R : World → V3 → α → Prop
  heap : ∀ {w w' : World} {t : V3} {x : α}, O w t x → (∀ k, (p t).ownBlock = some k → w'.heap[k]? = w.heap[k]?) → O w' t x
  lt : ∀ {w : World} {t : V3} {x : α}, O w t x → ∀ k, (p t).ownBlock = some k → k < w.heap.size
  rd : ∀ {w : World} {t : V3} {x : α}, O w t x → R w t x
  bel : ∀ {w w' : World} {t : V3} {x : α} {B : Nat}, R w t x → Below B w w' → w.heap.size ≤ B → R w' t x
/-- The slice value v owns the structs ts, which tell xs; all blocks of it are of S. -/
structure GO {α : Type} (K : Kd α) (w : World) (S : Nat → Prop) (v : Value) (ts : List V3) (xs : List α) : Prop where
  len : ts.length = xs.length
  row : TOwns w K.T v ts
  inn : ∀ (j : Nat) (h : j < ts.length) (h' : j < xs.length), K.O w ts[j] xs[j]
  sep : ∀ (i j : Nat) (hi : i < ts.length) (hj : j < ts.length), i ≠ j → ∀ k, (K.p ts[i]).ownBlock = some k → (K.p ts[j]).ownBlock ≠ some k
  out : ∀ (j : Nat) (h : j < ts.length) (k : Nat), (K.p ts[j]).ownBlock = some k → v.ownBlock ≠ some k
  so : ∀ k, v.ownBlock = some k → S k
  si : ∀ (j : Nat) (h : j < ts.length) (k : Nat), (K.p ts[j]).ownBlock = some k → S k
namespace GO
variable {α : Type} {K : Kd α} {w w' : World} {S S' : Nat → Prop} {v : Value} {ts : List V3} {xs : List α}
theorem of_heap (h : GO K w S v ts xs) (hh : ∀ k, S k → k < w.heap.size → w'.heap[k]? = w.heap[k]?) : GO K w' S v ts xs :=
  ⟨h.len, h.row.of_heap fun k hk => hh k (h.so k hk) (h.row.lt k hk), fun j hj hj' => K.heap (h.inn j hj hj') fun k hk => hh k (h.si j hj k hk) (K.lt (h.inn j hj hj') k hk), h.sep, h.out, h.so, h.si⟩
theorem below {B : Nat} (h : GO K w S v ts xs) (hb : Below B w w') (hB : w.heap.size ≤ B) : GO K w' S v ts xs := h.of_heap fun k _ hk => hb.block k (by omega)
theorem chg (h : GO K w S v ts xs) (hc : Chg S' w w') (hd : ∀ k, S k → ¬ S' k) : GO K w' S v ts xs := h.of_heap fun k hs hk => hc.block k hk (hd k hs)
theorem alloc (h : GO K w S v ts xs) (o : Obj) : GO K (w.alloc o) S v ts xs := h.below ((Below.refl _ w).alloc (Nat.le_refl _) o) (Nat.le_refl _)
theorem drew (h : GO K w S v ts xs) : GO K w.drew S v ts xs := h.below (Below.refl w.heap.size w).drew (Nat.le_refl _)
theorem mono (h : GO K w S v ts xs) (hs : ∀ k, S k → S' k) : GO K w S' v ts xs := ⟨h.len, h.row, h.inn, h.sep, h.out, fun k e => hs k (h.so k e), fun j hj k e => hs k (h.si j hj k e)⟩
theorem form (h : GO K w S v ts xs) : ∃ a cap, v = .slice a xs.length cap := by
  obtain ⟨a, c, e, _⟩ := h.row.form
  exact ⟨a, c, by rw [e, h.len]⟩
/-- One of them is turned to another; its slice is the old one, or a new one. -/
theorem turn (h : GO K w S v ts xs) (j : Nat) (hj : j < ts.length) (t' : V3) (x' : α) (hr : TOwns w' K.T v (ts.set j t')) (hO : K.O w' t' x')
    (hf : ∀ k, k < w.heap.size → v.ownBlock ≠ some k → (K.p ts[j]).ownBlock ≠ some k → w'.heap[k]? = w.heap[k]?)
    (hn : ∀ k, (K.p t').ownBlock = some k → (K.p ts[j]).ownBlock = some k ∨ w.heap.size ≤ k) (hs : ∀ k, S k → S' k) (hs2 : ∀ k, (K.p t').ownBlock = some k → S' k) : GO K w' S' v (ts.set j t') (xs.set j x') := by
  have hl := h.len
  have hv := h.row.lt
  refine ⟨by simp [hl], hr, fun i hi hi' => ?_, fun i i2 hi hi2 hne k e1 e2 => ?_, fun i hi k e1 e2 => ?_, fun k e => hs k (h.so k e), fun i hi k e => ?_⟩
  · simp only [List.length_set] at hi hi'
    by_cases e : j = i
    · subst e
      simp only [List.getElem_set_self]
      exact hO
    · simp only [List.getElem_set_ne e]
      exact K.heap (h.inn i hi hi') fun k hk => hf k (K.lt (h.inn i hi hi') k hk) (fun e' => h.out i hi k hk e') (fun e' => h.sep i j hi hj (fun q => e q.symm) k hk e')
  · simp only [List.length_set] at hi hi2
    by_cases ei : j = i
    · subst ei
      simp only [List.getElem_set_self] at e1
      rw [List.getElem_set_ne hne] at e2
      rcases hn k e1 with q | q
      · exact h.sep j i2 hi hi2 hne k q e2
      · have := K.lt (h.inn i2 hi2 (by omega)) k e2; omega
    · rw [List.getElem_set_ne ei] at e1
      by_cases e2' : j = i2
      · subst e2'
        simp only [List.getElem_set_self] at e2
        rcases hn k e2 with q | q
        · exact h.sep i j hi hj hne k e1 q
        · have := K.lt (h.inn i hi (by omega)) k e1; omega
      · rw [List.getElem_set_ne e2'] at e2
        exact h.sep i i2 hi hi2 hne k e1 e2
  · simp only [List.length_set] at hi
    by_cases ei : j = i
    · subst ei
      simp only [List.getElem_set_self] at e1
      rcases hn k e1 with q | q
      · exact h.out j hi k q e2
      · have := hv k e2; omega
    · rw [List.getElem_set_ne ei] at e1
      exact h.out i hi k e1 e2
  · simp only [List.length_set] at hi
    by_cases ei : j = i
    · subst ei
      simp only [List.getElem_set_self] at e
      exact hs2 k e
    · rw [List.getElem_set_ne ei] at e
      exact hs k (h.si i hi k e)
end GO
/-- The slice value v reads as the structs xs. -/
def R3 {α : Type} (K : Kd α) (w : World) (v : Value) (xs : List α) : Prop := ∃ a cap, v = .slice a xs.length cap ∧ xs.length ≤ cap ∧ ∀ (j : Nat) (h : j < xs.length), ∃ g off t, a = some ⟨g, off, none⟩ ∧ g < w.heap.size ∧ w.cell? ⟨g, off + j * 3, none⟩ = some t.1 ∧ w.cell? ⟨g, off + j * 3 + 1, none⟩ = some t.2.1 ∧ w.cell? ⟨g, off + j * 3 + 2, none⟩ = some t.2.2 ∧ K.R w t xs[j]
theorem R3.below {α : Type} {K : Kd α} {w w' : World} {B : Nat} {v : Value} {xs : List α} (h : R3 K w v xs) (hb : Below B w w') (hB : w.heap.size ≤ B) : R3 K w' v xs := by
  obtain ⟨a, cap, rfl, hcap, h⟩ := h
  refine ⟨a, cap, rfl, hcap, fun j hj => ?_⟩
  obtain ⟨g, off, t, e, hg, c0, c1, c2, r⟩ := h j hj
  have hg' := Nat.lt_of_lt_of_le hg hB
  exact ⟨g, off, t, e, Nat.lt_of_lt_of_le hg hb.size, (hb.cell (p := ⟨g, off + j * 3, none⟩) hg').trans c0, (hb.cell (p := ⟨g, off + j * 3 + 1, none⟩) hg').trans c1, (hb.cell (p := ⟨g, off + j * 3 + 2, none⟩) hg').trans c2, K.bel r hb hB⟩
theorem R3.alloc {α : Type} {K : Kd α} {w : World} {v : Value} {xs : List α} (h : R3 K w v xs) (o : Obj) : R3 K (w.alloc o) v xs := h.below ((Below.refl _ w).alloc (Nat.le_refl _) o) (Nat.le_refl _)
theorem R3.drew {α : Type} {K : Kd α} {w : World} {v : Value} {xs : List α} (h : R3 K w v xs) : R3 K w.drew v xs := h.below (Below.refl w.heap.size w).drew (Nat.le_refl _)
theorem R3.form {α : Type} {K : Kd α} {w : World} {v : Value} {xs : List α} (h : R3 K w v xs) : ∃ a c, v = .slice a xs.length c := by
  obtain ⟨a, c, h, _⟩ := h
  exact ⟨a, c, h⟩
theorem R3.form2 {α : Type} {K : Kd α} {w : World} {v : Value} {xs : List α} (h : R3 K w v xs) : ∃ a c, v = .slice a xs.length c ∧ xs.length ≤ c := by
  obtain ⟨a, c, h, h2, _⟩ := h
  exact ⟨a, c, h, h2⟩
theorem GO.r3 {α : Type} {K : Kd α} {w : World} {S : Nat → Prop} {v : Value} {ts : List V3} {xs : List α} (h : GO K w S v ts xs) : R3 K w v xs := by
  obtain ⟨a, cap, e, hc, hnil⟩ := h.row.form
  have hl := h.len
  refine ⟨a, cap, by rw [e, hl], by omega, fun j hj => ?_⟩
  obtain ⟨g, c, e1, c0, c1, c2, _, hg, _⟩ := h.row.at j (by omega)
  rw [e] at e1
  simp only [Value.slice.injEq] at e1
  obtain ⟨rfl, -, -⟩ := e1
  exact ⟨g, 0, ts[j]'(by omega), rfl, hg, by rw [Nat.zero_add]; exact c0, by rw [Nat.zero_add]; exact c1, by rw [Nat.zero_add]; exact c2, K.rd (h.inn j (by omega) hj)⟩
/-- An inode: its kind, its links, its pointers. -/
abbrev Ino := Int × Int × List Int
/-- A block: whether it has names, its slots, its text. -/
abbrev Blk := Bool × List Sl × ByteArray
/-- How inodes lie. -/
def KI : Kd Ino where
  T := 44
  p := fun t => t.2.2
  O := fun w t x => t.1 = .int .i64 x.1 ∧ t.2.1 = .int .i64 x.2.1 ∧ ROwns w 0 3 t.2.2 (ic x.2.2)
  R := fun w t x => t.1 = .int .i64 x.1 ∧ t.2.1 = .int .i64 x.2.1 ∧ RInts w t.2.2 x.2.2
  heap := fun h hh => ⟨h.1, h.2.1, h.2.2.of_heap hh⟩
  lt := fun h k hk => (h.2.2.lt k hk).2
  rd := fun h => ⟨h.1, h.2.1, h.2.2.rints⟩
  bel := fun h hb hB => ⟨h.1, h.2.1, h.2.2.below hb hB⟩
/-- How blocks lie. -/
def KB : Kd Blk where
  T := 73
  p := fun t => t.2.1
  O := fun w t x => t.1 = .bool x.1 ∧ SOwns w 0 77 t.2.1 x.2.1 ∧ t.2.2 = .string x.2.2
  R := fun w t x => t.1 = .bool x.1 ∧ RSl w t.2.1 x.2.1 ∧ t.2.2 = .string x.2.2
  heap := fun h hh => ⟨h.1, h.2.1.of_heap hh, h.2.2⟩
  lt := fun h k hk => (h.2.1.lt k hk).2
  rd := fun h => ⟨h.1, h.2.1.rsl, h.2.2⟩
  bel := fun h hb hB => ⟨h.1, h.2.1.below hb hB, h.2.2⟩
end Go.Proofs.YtljooldjcefkoaaGreat.Kit
/- spec.BitsNew, impl.BitsNew, spec.BitsOk and impl.BitsOk by their contracts. -/
namespace Go.Proofs.YtljooldjcefkoaaGreat
open Go.RowKit Kit
theorem made_eq (z : Value) (n : Nat) (l : List Value) (h : List.replicate n z = l) : madeCells #[z] n = l.toArray := Array.toList_inj.1 (by rw [toList_madeCells_one, h])
/-- Sixteen cells that are false. -/
def fl16 : Array Value := (fc (List.replicate 16 false)).toArray
theorem make16 (w : World) : (Instr.makeSlice 22 (.int .i64 16) (.int .i64 16)).run Tryz.prog w = .ok (.slice (some ⟨w.heap.size, 0, none⟩) 16 16) (w.alloc (.cells fl16 4)) := by
  have := make_fl 16 (by decide) w
  rw [made_eq _ 16 (fc (List.replicate 16 false)) (by simp [fc])] at this
  exact this
theorem make8 (w : World) : (Instr.makeSlice 22 (.int .i64 8) (.int .i64 8)).run Tryz.prog w = .ok (.slice (some ⟨w.heap.size, 0, none⟩) 8 8) (w.alloc (.cells #[.bool false, .bool false, .bool false, .bool false, .bool false, .bool false, .bool false, .bool false] 4)) := by
  have := make_fl 8 (by decide) w
  rw [made_eq _ 8 [.bool false, .bool false, .bool false, .bool false, .bool false, .bool false, .bool false, .bool false] rfl] at this
  exact this
/-- The flags of new bits. -/
def newX : List Bool := List.replicate 16 false
def newY : List Bool := true :: List.replicate 7 false
theorem two_new (W : World) (base gx gy : Nat) (h1 : W.heap[gx]? = some (.cells fl16 4 (0, 0))) (h2 : W.heap[gy]? = some (.cells #[.bool true, .bool false, .bool false, .bool false, .bool false, .bool false, .bool false, .bool false] 4 (0, 0))) (hx : base ≤ gx) (hy : base ≤ gy) (hne : gx ≠ gy) :
    Two W base (.slice (some ⟨gx, 0, none⟩) 16 16) (.slice (some ⟨gy, 0, none⟩) 8 8) newX newY := by
  refine ⟨⟨by simp [fc, newX], .inr ⟨gx, 16, _, by simp [fc, newX], hx, h1, ?_, ?_, ?_, ?_⟩⟩, ⟨by simp [fc, newY], .inr ⟨gy, 8, _, by simp [fc, newY], hy, h2, ?_, ?_, ?_, ?_⟩⟩, fun k e1 e2 => ?_⟩
  · simp [fc, newX]
  · unfold maxLen; decide
  · simp [fl16, fc]
  · simp [fl16, fc, newX]
  · simp [fc, newY]
  · unfold maxLen; decide
  · simp
  · simp [fc, newY]
  · simp only [Value.ownBlock, Option.some.injEq] at e1 e2
    omega

theorem heap4 (w : World) (a b c d : Obj) : ((((w.alloc a).alloc b).alloc c).alloc d).drew.heap[w.heap.size + 1]? = some b ∧ ((((w.alloc a).alloc b).alloc c).alloc d).drew.heap[w.heap.size + 1 + 1]? = some c ∧ ((((w.alloc a).alloc b).alloc c).alloc d).drew.heap[w.heap.size + 1 + 1 + 1]? = some d := by
  have e1 := heap_new (w.alloc a) b
  have e2 := heap_new ((w.alloc a).alloc b) c
  have e3 := heap_new (((w.alloc a).alloc b).alloc c) d
  rw [World.size_alloc] at e1
  rw [World.size_alloc, World.size_alloc] at e2
  rw [World.size_alloc, World.size_alloc, World.size_alloc] at e3
  exact ⟨((Below.heap_alloc _ _ _ (by simp)).trans ((Below.heap_alloc _ _ _ (by simp)).trans e1)), (Below.heap_alloc _ _ _ (by simp)).trans e2, e3⟩

/-- Bits of n blocks and m inodes are right. -/
def okB (n m : Nat) : Bool := decide (n = 16) && decide (m = 8)
theorem okB_true {n m : Nat} (h : okB n m = true) : n = 16 ∧ m = 8 := by simpa [okB] using h

set_option maxHeartbeats 800000 in
theorem specOk_anyB (a1 a2 : Option Addr) (n m c1 c2 : Nat) (w : World) :
    Calls Tryz.prog 47 #[.agg #[.slice a1 n c1, .slice a2 m c2]] w fun e w' => e = .returned (.bool (okB n m)) ∧ Below w.heap.size w w' := by
  by_cases h1 : n = 16
  · by_cases h2 : m = 8
    · subst h1 h2
      go_enter Tryz.func47, Tryz.ntmps47
      go_wp2
      go_ret
      exact ⟨rfl, by go_grown⟩
    · subst h1
      have q : ((m : Int) == 8) = false := by simp; omega
      rw [show okB 16 m = false by simp [okB, h2]]
      go_enter Tryz.func47, Tryz.ntmps47
      go_wp2
      go_ret
      exact ⟨rfl, by go_grown⟩
  · have q : ((n : Int) == 16) = false := by simp; omega
    rw [show okB n m = false by simp [okB, h1]]
    go_enter Tryz.func47, Tryz.ntmps47
    go_wp2
    go_ret
    exact ⟨rfl, by go_grown⟩
set_option maxHeartbeats 800000 in
theorem implOk_anyB (a1 a2 : Option Addr) (n m c1 c2 : Nat) (w : World) :
    Calls Tryz.prog 56 #[.agg #[.slice a1 n c1, .slice a2 m c2]] w fun e w' => e = .returned (.bool (okB n m)) ∧ Below w.heap.size w w' := by
  by_cases h1 : n = 16
  · by_cases h2 : m = 8
    · subst h1 h2
      go_enter Tryz.func56, Tryz.ntmps56
      go_wp2
      go_ret
      exact ⟨rfl, by go_grown⟩
    · subst h1
      have q : ((m : Int) == 8) = false := by simp; omega
      rw [show okB 16 m = false by simp [okB, h2]]
      go_enter Tryz.func56, Tryz.ntmps56
      go_wp2
      go_ret
      exact ⟨rfl, by go_grown⟩
  · have q : ((n : Int) == 16) = false := by simp; omega
    rw [show okB n m = false by simp [okB, h1]]
    go_enter Tryz.func56, Tryz.ntmps56
    go_wp2
    go_ret
    exact ⟨rfl, by go_grown⟩
end Go.Proofs.YtljooldjcefkoaaGreat
/- laws.szBits and laws.toBits by their contracts. -/
namespace Go.Proofs.YtljooldjcefkoaaGreat
open Go.RowKit Kit

set_option maxHeartbeats 800000 in
theorem szN_inB (a1 a2 : Option Addr) (n m c1 c2 : Nat) (w : World) (h : n + m ≤ 1048576) :
    Calls Tryz.prog 12 #[.agg #[.slice a1 n c1, .slice a2 m c2], .int .i64 1048576] w fun e w' => e = .returned (.int .i64 (1048576 - (n : Int) - (m : Int))) ∧ Below w.heap.size w w' := by
  go_enter Tryz.func12, Tryz.ntmps12
  go_wp2
  go_ret
  exact ⟨rfl, by go_grown⟩
set_option maxHeartbeats 800000 in
theorem szN_outB (a1 a2 : Option Addr) (n m c1 c2 : Nat) (w : World) (h : ¬ n + m ≤ 1048576) (h1 : n ≤ maxLen) (h2 : m ≤ maxLen) :
    Calls Tryz.prog 12 #[.agg #[.slice a1 n c1, .slice a2 m c2], .int .i64 1048576] w fun e w' => e = .returned (.int .i64 (-1)) ∧ Below w.heap.size w w' := by
  have h3 : n ≤ 9223372036854775807 := h1
  have h4 : m ≤ 9223372036854775807 := h2
  clear h1 h2
  by_cases hn : n ≤ 1048576
  · go_enter Tryz.func12, Tryz.ntmps12
    go_wp2
    go_ret
    exact ⟨rfl, by go_grown⟩
  · go_enter Tryz.func12, Tryz.ntmps12
    go_wp2
    go_ret
    exact ⟨rfl, by go_grown⟩

set_option maxHeartbeats 1600000 in
theorem toN_anyB (u v : Value) (xs ys : List Bool) (w : World) (hu : RFl w u xs) (hv : RFl w v ys) (hx : xs.length ≤ 1048576) (hy : ys.length ≤ 1048576) :
    Calls Tryz.prog 21 #[.agg #[u, v]] w fun e w' => ∃ u' v', e = .returned (.agg #[u', v']) ∧ Two w' w.heap.size u' v' xs ys ∧ Below w.heap.size w w' := by
  have HU := hide hu
  have HV := hide hv
  obtain ⟨a, c, rfl, -⟩ := hu
  obtain ⟨a2, c2, rfl, -⟩ := hv
  go_enter Tryz.func21, Tryz.ntmps21
  go_wp2_with fail
  refine (toB_anyB _ xs _ (((HU.out.alloc _).alloc _).alloc _) hx).mono ?_
  rintro e w1 ⟨u1, rfl, O1, B1⟩
  obtain ⟨s1, t1, rfl⟩ := O1.rfl.form
  have K0 : AtP 24 w1 w.heap.size (.slice a xs.length c) (.slice a2 ys.length c2) := (((AtP.new 24 w _ _).alloc _).alloc _).below B1 (by simp; omega)
  have K1 : AtP 31 w1 (w.heap.size + 1) (.slice none 0 0) (.slice none 0 0) := by
    have := ((AtP.new 31 (w.alloc (Obj.cells #[.slice a xs.length c, .slice a2 ys.length c2] 24)) (.slice none 0 0) (.slice none 0 0)).alloc (Obj.cells #[.slice none 0 0, .slice none 0 0] 31)).below B1 (by simp)
    rwa [World.size_alloc] at this
  have K2 : AtP 31 w1 (w.heap.size + 1 + 1) (.slice none 0 0) (.slice none 0 0) := by
    have := (AtP.new 31 ((w.alloc (Obj.cells #[.slice a xs.length c, .slice a2 ys.length c2] 24)).alloc (Obj.cells #[.slice none 0 0, .slice none 0 0] 31)) (.slice none 0 0) (.slice none 0 0)).below B1 (by simp)
    rwa [World.size_alloc, World.size_alloc] at this
  have B2 : Below w.heap.size w w1 := ((((Below.refl _ w).alloc (Nat.le_refl _) _).alloc (by simp) _).alloc (by simp; omega) _).trans (B1.mono (by simp; omega))
  have V1 : RFl w1 (.slice a2 ys.length c2) ys := (((HV.out.alloc _).alloc _).alloc _).below B1 (Nat.le_refl _)
  have O2 : ROwns w1 (w.heap.size + 1 + 1 + 1) 4 (.slice s1 xs.length t1) (fc xs) := O1.base_le (by simp)
  obtain ⟨p0, p1⟩ := K2.cells
  obtain ⟨f0, f1⟩ := K2.frozen
  have m1 := K2.lt
  -- behind the store
  have K0' := K0.set_other (B := w.heap.size + 1 + 1) (j := 0) (by omega) (.slice s1 xs.length t1)
  have K1' := K1.set_other (B := w.heap.size + 1 + 1) (j := 0) (by omega) (.slice s1 xs.length t1)
  have K2' := K2.set0 (.slice s1 xs.length t1)
  have O2' := O2.setCell_other (b := w.heap.size + 1 + 1) (j := 0) (by omega) (.slice s1 xs.length t1)
  have B2' := B2.setCell (p := ⟨w.heap.size + 1 + 1, 0, none⟩) (by show w.heap.size ≤ w.heap.size + 1 + 1; omega) (.slice s1 xs.length t1)
  have V1' : RFl (w1.setCell ⟨w.heap.size + 1 + 1, 0, none⟩ (.slice s1 xs.length t1)) (.slice a2 ys.length c2) ys := HV.out.below B2' (Nat.le_refl _)
  obtain ⟨w2, hw2⟩ : ∃ w2, w1.setCell ⟨w.heap.size + 1 + 1, 0, none⟩ (.slice s1 xs.length t1) = w2 := ⟨_, rfl⟩
  rw [hw2] at K0' K1' K2' O2' B2' V1'
  obtain ⟨d0, d1⟩ := K0'.cells
  have m2 := K0'.lt
  have H2 := hide (And.intro K1' (And.intro K2' (And.intro O2' (And.intro B2' V1'))))
  clear K0 K1 K2 K0' K1' K2' O1 O2 O2' B1 B2 B2' V1 V1' HU HV
  go_wp2_with fail
  clear hw2 p0 p1 f0 f1 m1
  refine (toB_anyB _ ys w2 H2.out.2.2.2.2 hy).mono ?_
  rintro e w3 ⟨u2, rfl, O3, B3⟩
  obtain ⟨s2, t2, rfl⟩ := O3.rfl.form
  have K1 := H2.out.1.below B3 H2.out.1.lt
  have K2 := H2.out.2.1.below B3 H2.out.2.1.lt
  have P1 := H2.out.2.2.1.below B3 (Nat.le_refl _)
  have b3 := H2.out.2.2.2.1.trans (B3.mono H2.out.2.2.2.1.size)
  have hs2 : w.heap.size + 1 + 1 < w2.heap.size := H2.out.2.1.lt
  have T3 : Two w3 (w.heap.size + 1 + 1 + 1) (.slice s1 xs.length t1) (.slice s2 ys.length t2) xs ys := ⟨P1, O3.base_le (by omega), fun k e1 e2 => by have h1 := (H2.out.2.2.1.lt k e1).2; have h2 := (O3.lt k e2).1; omega⟩
  obtain ⟨p0, p1⟩ := K2.cells
  obtain ⟨f0, f1⟩ := K2.frozen
  obtain ⟨q0, q1⟩ := K1.cells
  obtain ⟨g0, g1⟩ := K1.frozen
  have m1 := K2.lt
  have m3 := K1.lt
  have H3 := hide (And.intro T3 b3)
  clear K1 K2 P1 O3 B3 b3 T3 H2 d0 d1 m2
  go_wp2
  refine bodyPost_ret (v := .agg #[.slice s1 xs.length t1, .slice s2 ys.length t2]) (by simp [results, go_sem, q0, q1]) rfl ⟨_, _, rfl, ?_, ?_⟩
  · exact (((H3.out.1.set_other (by omega) _).set_other (by omega) _).set_other (by omega) _).base_le (by omega)
  · exact (((H3.out.2.setCell (by simp; omega) _).setCell (by simp) _).setCell (by simp) _)
end Go.Proofs.YtljooldjcefkoaaGreat
/- impl.InodeNew by its contract. -/
namespace Go.Proofs.YtljooldjcefkoaaGreat
open Go.RowKit Kit
/-- What is known of the block of a result that was laid ahead of a call. -/
theorem res_cells {w1 : World} {b : Nat} (K : w1.heap[b]? = some (.cells #[.int .i64 0, .int .i64 0, .slice none 0 0] 44 (0, 0))) :
    w1.cell? ⟨b, 0, none⟩ = some (.int .i64 0) ∧ w1.cell? ⟨b, 1, none⟩ = some (.int .i64 0) ∧ w1.cell? ⟨b, 2, none⟩ = some (.slice none 0 0) ∧ w1.frozen? ⟨b, 0, none⟩ = false ∧ w1.frozen? ⟨b, 1, none⟩ = false ∧ w1.frozen? ⟨b, 2, none⟩ = false ∧ b < w1.heap.size := by
  refine ⟨by simp [World.cell?, K], by simp [World.cell?, K], by simp [World.cell?, K], by simp [World.frozen?, K], by simp [World.frozen?, K], by simp [World.frozen?, K], (Array.getElem?_eq_some_iff.1 K).1⟩
theorem new_of_links {k l : Int} {e : Ending} {v : Value} (h : newLinks k = l) (he : e = .returned (.agg #[.int .i64 k, .int .i64 l, v])) : e = .returned (.agg #[.int .i64 k, .int .i64 (newLinks k), v]) := by rw [h, he]

end Go.Proofs.YtljooldjcefkoaaGreat
