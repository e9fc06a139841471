/- Plain facts on figures read back into bytes; no Go function is spoken of. -/
import Derived.Test.YtipippblnbihcalKit
namespace Go.Proofs.Ytipippblnbihcal.Kit
open Go.RowKit

/-- The value of a figure. -/
def fv (c : Nat) : Option Nat := if 48 ≤ c ∧ c ≤ 57 then some (c - 48) else if 97 ≤ c ∧ c ≤ 102 then some (c - 87) else none
theorem fv_lt {c h : Nat} (hf : fv c = some h) : h < 16 := by
  unfold fv at hf
  split at hf
  · simp at hf; omega
  · split at hf
    · simp at hf; omega
    · cases hf
/-- Two figures' byte. -/
def joinB (h l : Nat) : UInt8 := UInt8.ofNat (16 * h + l)
/-- Figures back into bytes, a first figure waiting or not. -/
def uhF : Option Nat → List UInt8 → Option (List UInt8)
  | none, [] => some []
  | some _, [] => none
  | none, c :: r => match fv c.toNat with
    | none => none
    | some h => uhF (some h) r
  | some h, c :: r => match fv c.toNat with
    | none => none
    | some l => (uhF none r).map (joinB h l :: ·)
def uh (s : ByteArray) : Option (List UInt8) := uhF none s.data.toList
/-- k bytes were read, they gave pre, p waits. -/
def UAt (s : ByteArray) (k : Nat) (p : Option Nat) (pre : List UInt8) : Prop := uh s = (uhF p (s.data.toList.drop k)).map (pre ++ ·)
theorem UAt.start (s : ByteArray) : UAt s 0 none [] := by
  simp [UAt, uh]
theorem drop_cons (s : ByteArray) (k : Nat) (h : k < s.size) : s.data.toList.drop k = s[k] :: s.data.toList.drop (k + 1) := by
  rw [List.drop_eq_getElem_cons (by simpa using h)]
  rfl
theorem drop_end (s : ByteArray) (k : Nat) (h : s.size ≤ k) : s.data.toList.drop k = [] := List.drop_of_length_le (by simpa using h)
theorem UAt.bad {s : ByteArray} {k : Nat} {p : Option Nat} {pre : List UInt8} (h : UAt s k p pre) (hk : k < s.size) (hf : fv (s[k]).toNat = none) : uh s = none := by
  unfold UAt at h
  rw [h, drop_cons s k hk]
  cases p <;> simp [uhF, hf]
theorem UAt.first {s : ByteArray} {k x : Nat} {pre : List UInt8} (h : UAt s k none pre) (hk : k < s.size) (hf : fv (s[k]).toNat = some x) : UAt s (k + 1) (some x) pre := by
  unfold UAt at *
  rw [h, drop_cons s k hk]
  simp [uhF, hf]
theorem UAt.second {s : ByteArray} {k x y : Nat} {pre : List UInt8} (h : UAt s k (some x) pre) (hk : k < s.size) (hf : fv (s[k]).toNat = some y) : UAt s (k + 1) none (pre ++ [joinB x y]) := by
  unfold UAt at *
  rw [h, drop_cons s k hk]
  simp [uhF, hf, Option.map_map, Function.comp_def]
theorem UAt.done {s : ByteArray} {k : Nat} {pre : List UInt8} (h : UAt s k none pre) (hk : s.size ≤ k) : uh s = some pre := by
  unfold UAt at h
  rw [h, drop_end s k hk]
  simp [uhF]
/-- What is answered. -/
def uhVal (s : ByteArray) : Value := match uh s with
  | none => .tuple #[.string ⟨#[]⟩, .bool false]
  | some l => .tuple #[.string ⟨l.toArray⟩, .bool true]
theorem uhVal_none {s : ByteArray} (h : uh s = none) : uhVal s = .tuple #[.string ⟨#[]⟩, .bool false] := by simp [uhVal, h]
theorem uhVal_some {s : ByteArray} {l : List UInt8} (h : uh s = some l) : uhVal s = .tuple #[.string ⟨l.toArray⟩, .bool true] := by simp [uhVal, h]
theorem uhVal_form (s : ByteArray) : ∃ (a : ByteArray) (b : Bool), uhVal s = .tuple #[.string a, .bool b] := by
  unfold uhVal
  split
  · exact ⟨_, false, rfl⟩
  · exact ⟨_, true, rfl⟩
/-- A figure's value as an int, -1 for none. -/
def fvI (c : Nat) : Int := match fv c with
  | none => -1
  | some v => v
theorem fvI_none {c : Nat} (h : fv c = none) : fvI c = -1 := by simp [fvI, h]
theorem fvI_some {c v : Nat} (h : fv c = some v) : fvI c = v := by simp [fvI, h]
theorem fv_cases (c : Nat) : (48 ≤ c ∧ c ≤ 57 ∧ fv c = some (c - 48)) ∨ (97 ≤ c ∧ c ≤ 102 ∧ fv c = some (c - 87)) ∨ (¬ (48 ≤ c ∧ c ≤ 57) ∧ ¬ (97 ≤ c ∧ c ≤ 102) ∧ fv c = none) := by
  unfold fv
  by_cases h1 : 48 ≤ c ∧ c ≤ 57
  · simp [h1]
  · by_cases h2 : 97 ≤ c ∧ c ≤ 102
    · simp [h1, h2]
    · simp only [h1, h2, if_false]
      simp
theorem or_join : ∀ h < 16, ∀ l < 16, (h * 16) ||| l = h * 16 + l := by decide
end Go.Proofs.Ytipippblnbihcal.Kit
