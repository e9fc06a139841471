/- Check sums as plain functions of numbers and bytes, no Go function spoken of: eight halvings a byte, four at a time by a row of sixteen; the step is additive and loses nothing, so one byte that is turned turns the sum. -/
import Derived.WalkKit
namespace Go.Proofs.YtbgnpbapalngjaaDoor.Kit
open Go.RowKit
/-- One halving. -/
def stepN (s : Nat) : Nat := if s % 2 = 1 then s / 2 ^^^ 3558460437 else s / 2
def stepsN : Nat → Nat → Nat
  | 0, s => s
  | n + 1, s => stepsN n (stepN s)
/-- A byte taken in. -/
def byteN (s b : Nat) : Nat := stepsN 8 (s ^^^ b)
/-- Bytes taken in, in order. -/
def sumN (s : Nat) (l : List UInt8) : Nat := l.foldl (fun s b => byteN s b.toNat) s
/-- The row of sixteen. -/
def rowN : Nat → Nat
  | 0 => 0 | 1 => 1166650509 | 2 => 2333301018 | 3 => 3466261911 | 4 => 3189058079 | 5 => 4221339282 | 6 => 889615109 | 7 => 1888477064
  | 8 => 3558460437 | 9 => 2442158232 | 10 => 1594529039 | 11 => 444807554 | 12 => 1779230218 | 13 => 797264519 | 14 => 3776954128 | _ => 2761298845
/-- Four halvings at once. -/
def fourN (s : Nat) : Nat := s / 16 ^^^ rowN (s % 16)

theorem stepN_xor (a b : Nat) : stepN (a ^^^ b) = stepN a ^^^ stepN b := by
  unfold stepN
  have h1 : (a ^^^ b) / 2 = a / 2 ^^^ b / 2 := Nat.xor_div_two
  have h2 : (a ^^^ b) % 2 = 1 ↔ ¬ (a % 2 = 1 ↔ b % 2 = 1) := Nat.xor_mod_two_eq_one
  rw [h1]
  by_cases ha : a % 2 = 1 <;> by_cases hb : b % 2 = 1 <;> simp only [h2, ha, hb, if_true, if_false, iff_true, iff_false, not_true, not_false_iff]
  · rw [Nat.xor_assoc, ← Nat.xor_assoc 3558460437, Nat.xor_comm 3558460437 (b / 2), Nat.xor_assoc (b / 2), Nat.xor_self, Nat.xor_zero]
  · rw [Nat.xor_assoc, Nat.xor_assoc, Nat.xor_comm (b / 2)]
  · rw [Nat.xor_assoc]
theorem stepsN_xor (n a b : Nat) : stepsN n (a ^^^ b) = stepsN n a ^^^ stepsN n b := by
  induction n generalizing a b with
  | zero => rfl
  | succ n ih => simp only [stepsN, stepN_xor, ih]
theorem stepN_lt {s : Nat} (h : s < 4294967296) : stepN s < 4294967296 := by
  unfold stepN
  split
  · exact Nat.xor_lt_two_pow (n := 32) (by omega) (by omega)
  · omega
theorem stepsN_lt (n : Nat) {s : Nat} (h : s < 4294967296) : stepsN n s < 4294967296 := by
  induction n generalizing s with
  | zero => exact h
  | succ n ih => exact ih (stepN_lt h)
theorem xor_lt32 {a b : Nat} (ha : a < 4294967296) (hb : b < 4294967296) : a ^^^ b < 4294967296 := Nat.xor_lt_two_pow (n := 32) ha hb
theorem byteN_lt {s b : Nat} (h : s < 4294967296) (hb : b < 256) : byteN s b < 4294967296 := stepsN_lt 8 (xor_lt32 h (by omega))
theorem u8_lt (b : UInt8) : b.toNat < 256 := b.toNat_lt
theorem sumN_lt {s : Nat} (l : List UInt8) (h : s < 4294967296) : sumN s l < 4294967296 := by
  induction l generalizing s with
  | nil => exact h
  | cons b r ih => exact ih (byteN_lt h (u8_lt b))
theorem sumN_snoc (s : Nat) (l : List UInt8) (b : UInt8) : sumN s (l ++ [b]) = byteN (sumN s l) b.toNat := by simp [sumN]
theorem sumN_append (s : Nat) (l r : List UInt8) : sumN s (l ++ r) = sumN (sumN s l) r := by simp [sumN]
theorem split16 (s : Nat) : s = 16 * (s / 16) ^^^ s % 16 := by
  have h1 : (16 * (s / 16) ^^^ s % 16) / 2 ^ 4 = 16 * (s / 16) / 2 ^ 4 ^^^ s % 16 / 2 ^ 4 := Nat.xor_div_two_pow
  have h2 : (16 * (s / 16) ^^^ s % 16) % 2 ^ 4 = (16 * (s / 16)) % 2 ^ 4 ^^^ s % 16 % 2 ^ 4 := Nat.xor_mod_two_pow
  have h3 : 16 * (s / 16) / 2 ^ 4 = s / 16 := by omega
  have h4 : s % 16 / 2 ^ 4 = 0 := by omega
  have h5 : (16 * (s / 16)) % 2 ^ 4 = 0 := by omega
  have h6 : s % 16 % 2 ^ 4 = s % 16 := by omega
  rw [h3, h4, Nat.xor_zero] at h1
  rw [h5, h6, Nat.zero_xor] at h2
  omega
theorem stepN_two (x : Nat) : stepN (2 * x) = x := by
  unfold stepN
  rw [if_neg (by omega)]
  omega
theorem steps4_16 (q : Nat) : stepsN 4 (16 * q) = q := by
  have e : 16 * q = 2 * (2 * (2 * (2 * q))) := by omega
  rw [e]
  simp only [stepsN, stepN_two]
theorem steps4_low (r : Nat) (h : r < 16) : stepsN 4 r = rowN r := by
  exact (by decide : ∀ r, r < 16 → stepsN 4 r = rowN r) r h
theorem steps4 (s : Nat) : stepsN 4 s = fourN s := by
  conv => lhs; rw [split16 s]
  rw [stepsN_xor, steps4_16, steps4_low _ (by omega), fourN]
theorem steps8 (s : Nat) : stepsN 8 s = fourN (fourN s) := by
  rw [← steps4, ← steps4]
  rfl
theorem rowN_lt (r : Nat) (h : r < 16) : rowN r < 4294967296 := by rw [← steps4_low r h]; exact stepsN_lt 4 (by omega)
theorem fourN_lt {s : Nat} (h : s < 4294967296) : fourN s < 4294967296 := by rw [← steps4]; exact stepsN_lt 4 h
theorem byteN_four (s b : Nat) : byteN s b = fourN (fourN (s ^^^ b)) := steps8 _

theorem xor_zero_eq {a b : Nat} (h : a ^^^ b = 0) : a = b := by
  have := congrArg (· ^^^ b) h
  simpa [Nat.xor_assoc] using this
theorem stepN_zero {d : Nat} (h : d < 4294967296) (e : stepN d = 0) : d = 0 := by
  unfold stepN at e
  split at e
  · have := xor_zero_eq e
    omega
  · omega
theorem stepsN_zero (n : Nat) {d : Nat} (h : d < 4294967296) (e : stepsN n d = 0) : d = 0 := by
  induction n generalizing d with
  | zero => exact e
  | succ n ih => exact stepN_zero h (ih (stepN_lt h) e)
theorem stepsN_inj (n : Nat) {a b : Nat} (ha : a < 4294967296) (hb : b < 4294967296) (e : stepsN n a = stepsN n b) : a = b := by
  have h0 : stepsN n (a ^^^ b) = 0 := by rw [stepsN_xor, e, Nat.xor_self]
  exact xor_zero_eq (stepsN_zero n (xor_lt32 ha hb) h0)
theorem xor_right {a b c : Nat} (h : a ^^^ b = a ^^^ c) : b = c := by
  have := congrArg (a ^^^ ·) h
  simpa [← Nat.xor_assoc] using this
theorem xor_left {a b c : Nat} (h : a ^^^ c = b ^^^ c) : a = b := by
  rw [Nat.xor_comm a, Nat.xor_comm b] at h
  exact xor_right h
theorem byteN_byte {s b c : Nat} (h : s < 4294967296) (hb : b < 256) (hc : c < 256) (e : byteN s b = byteN s c) : b = c :=
  xor_right (stepsN_inj 8 (xor_lt32 h (by omega)) (xor_lt32 h (by omega)) e)
theorem byteN_sum {s t b : Nat} (h : s < 4294967296) (ht : t < 4294967296) (hb : b < 256) (e : byteN s b = byteN t b) : s = t :=
  xor_left (stepsN_inj 8 (xor_lt32 h (by omega)) (xor_lt32 ht (by omega)) e)
theorem sumN_sum {s t : Nat} (l : List UInt8) (h : s < 4294967296) (ht : t < 4294967296) (e : sumN s l = sumN t l) : s = t := by
  induction l generalizing s t with
  | nil => exact e
  | cons b r ih => exact byteN_sum h ht (u8_lt b) (ih (byteN_lt h (u8_lt b)) (byteN_lt ht (u8_lt b)) e)
/-- One byte that is turned turns the sum. -/
theorem sumN_turned {s : Nat} (p q : List UInt8) (b c : UInt8) (h : s < 4294967296) (e : sumN s (p ++ b :: q) = sumN s (p ++ c :: q)) : b = c := by
  rw [sumN_append, sumN_append] at e
  have h1 := sumN_lt p h
  have h2 := sumN_sum q (byteN_lt h1 (u8_lt b)) (byteN_lt h1 (u8_lt c)) e
  exact UInt8.toNat_inj.1 (byteN_byte h1 (u8_lt b) (u8_lt c) h2)

/-- A number in four bytes, the highest first. -/
def be4 (x : Nat) : List UInt8 := [UInt8.ofNat (x / 16777216), UInt8.ofNat (x / 65536), UInt8.ofNat (x / 256), UInt8.ofNat x]
theorem be4_length (x : Nat) : (be4 x).length = 4 := rfl
theorem be4_inj {x y : Nat} (hx : x < 4294967296) (hy : y < 4294967296) (e : be4 x = be4 y) : x = y := by
  simp only [be4, List.cons.injEq, and_true] at e
  obtain ⟨e1, e2, e3, e4⟩ := e
  have f1 := congrArg UInt8.toNat e1
  have f2 := congrArg UInt8.toNat e2
  have f3 := congrArg UInt8.toNat e3
  have f4 := congrArg UInt8.toNat e4
  simp only [UInt8.toNat_ofNat'] at f1 f2 f3 f4
  omega
/-- The sum of a text. -/
def sumT (l : List UInt8) : Nat := sumN 4294967295 l
theorem sumT_lt (l : List UInt8) : sumT l < 4294967296 := sumN_lt l (by decide)
/-- A text sealed. -/
def sealL (l : List UInt8) : List UInt8 := l ++ be4 (sumT l)
theorem sealL_length (l : List UInt8) : (sealL l).length = l.length + 4 := by simp [sealL, be4_length]
theorem sealL_take (l : List UInt8) : (sealL l).take l.length = l := by simp [sealL]
/-- What is sealed, with one byte turned, is sealed no more. -/
theorem sealL_turned (l m : List UInt8) (i : Nat) (hi : i < (sealL l).length) (c : UInt8) (hc : c ≠ (sealL l)[i]) (hm : m = (sealL l).set i c) : sealL (m.take l.length) ≠ m := by
  intro e
  have hl := sealL_length l
  rw [List.getElem_of_eq (show sealL l = l ++ be4 (sumT l) from rfl)] at hc
  by_cases h : i < l.length
  · have ht : m.take l.length = l.set i c := by
      rw [hm, sealL, List.set_append_left _ _ h, List.take_left' (by simp)]
    rw [ht] at e
    rw [hm, sealL, sealL, List.set_append_left _ _ h] at e
    have e2 := be4_inj (sumT_lt _) (sumT_lt _) (List.append_cancel_left e)
    have hs : l.set i c = l.take i ++ c :: l.drop (i + 1) := List.set_eq_take_append_cons_drop.trans (by rw [if_pos h])
    have hl2 : l = l.take i ++ l[i] :: l.drop (i + 1) := by
      rw [← List.drop_eq_getElem_cons h, List.take_append_drop]
    have e3 : sumN 4294967295 (l.take i ++ c :: l.drop (i + 1)) = sumN 4294967295 (l.take i ++ l[i] :: l.drop (i + 1)) := by
      rw [← hs, ← hl2]; exact e2
    have e4 := sumN_turned _ _ _ _ (by decide) e3
    rw [List.getElem_append_left h] at hc
    exact hc e4
  · have ht : m.take l.length = l := by
      rw [hm, sealL, List.set_append_right _ _ (by omega), List.take_left' rfl]
    rw [ht] at e
    have e2 : (sealL l)[i]? = m[i]? := by rw [e]
    rw [hm, List.getElem?_set_self hi, List.getElem?_eq_getElem hi] at e2
    simp only [Option.some.injEq] at e2
    exact hc e2.symm
end Go.Proofs.YtbgnpbapalngjaaDoor.Kit
