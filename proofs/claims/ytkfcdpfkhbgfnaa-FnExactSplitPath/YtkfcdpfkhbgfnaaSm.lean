/- Paths cut at their marks, as plain functions of bytes; no Go function is spoken of. -/
import Derived.Test.YtkfcdpfkhbgfnaaNm
import Derived.Lib.OthersKept
import Derived.Deep.AppendLies
namespace Go.Proofs.Ytkfcdpfkhbgfnaa.Kit
open Go.RowKit
/-- The names that are still to come: one began at b, the bytes up to i are looked at. -/
def more (s : ByteArray) : Nat → Nat → Nat → List ByteArray
  | 0, b, _ => [s.extract b s.size]
  | f + 1, b, i => if h : i < s.size then (if (s[i]).toNat = 47 then s.extract b i :: more s f (i + 1) (i + 1) else more s f b (i + 1)) else [s.extract b s.size]
def rest (s : ByteArray) (b i : Nat) : List ByteArray := more s (s.size - i) b i
theorem rest_end (s : ByteArray) (b i : Nat) (h : s.size ≤ i) : rest s b i = [s.extract b s.size] := by
  unfold rest; rw [Nat.sub_eq_zero_of_le h]; rfl
theorem rest_cut (s : ByteArray) (b i : Nat) (h : i < s.size) (hc : (s[i]).toNat = 47) : rest s b i = s.extract b i :: rest s (i + 1) (i + 1) := by
  unfold rest
  rw [show s.size - i = (s.size - (i + 1)) + 1 by omega]
  simp [more, h, hc]
theorem rest_skip (s : ByteArray) (b i : Nat) (h : i < s.size) (hc : (s[i]).toNat ≠ 47) : rest s b i = rest s b (i + 1) := by
  unfold rest
  rw [show s.size - i = (s.size - (i + 1)) + 1 by omega]
  simp [more, h, hc]
theorem rest_skips (s : ByteArray) (b : Nat) : ∀ (k i : Nat), (∀ j, i ≤ j → j < i + k → ∃ h : j < s.size, (s[j]).toNat ≠ 47) → rest s b i = rest s b (i + k)
  | 0, _, _ => rfl
  | k + 1, i, h => by
    obtain ⟨h1, h2⟩ := h i (Nat.le_refl _) (by omega)
    rw [rest_skip s b i h1 h2, rest_skips s b k (i + 1) (fun j a c => h j (by omega) (by omega))]
    congr 1; omega
theorem rest_ne (s : ByteArray) (b i : Nat) : 1 ≤ (rest s b i).length := by
  unfold rest
  generalize s.size - i = f
  induction f generalizing b i with
  | zero => simp [more]
  | succ f ih =>
    unfold more
    split
    · split
      · simp
      · exact ih _ _
    · simp
theorem more_tail (p : ByteArray) (f b i : Nat) (hbi : b ≤ i) (hp : 1 ≤ p.size) (hi : i + f ≤ p.size - 1) :
    more p f (b + 1) (i + 1) = more (p.extract 1 p.size) f b i := by
  have hz : (p.extract 1 p.size).size = p.size - 1 := by rw [ByteArray.size_extract]; omega
  have hx : ∀ b n, n ≤ p.size - 1 → (p.extract 1 p.size).extract b n = p.extract (b + 1) (n + 1) := fun b n hn => by
    rw [ByteArray.extract_extract]; congr 1 <;> omega
  induction f generalizing b i with
  | zero => simp only [more]; rw [hx b _ (by omega), hz]; congr 2; omega
  | succ f ih =>
    have h1 : i + 1 < p.size := by omega
    have h2 : i < (p.extract 1 p.size).size := by omega
    have e : (p.extract 1 p.size)[i] = p[i + 1] := by
      rw [ByteArray.getElem_extract]; congr 1; omega
    simp only [more, h1, h2, dif_pos, e]
    rw [ih (i + 1) (i + 1) (Nat.le_refl _) (by omega), ih b (i + 1) (by omega) (by omega), hx b i (by omega)]
theorem rest_tail (p : ByteArray) (hp : 1 ≤ p.size) : rest p 1 1 = rest (p.extract 1 p.size) 0 0 := by
  unfold rest
  rw [more_tail p (p.size - 1) 0 0 (Nat.le_refl _) hp (by omega)]
  congr 1
  rw [ByteArray.size_extract]; omega
/-- All are names, and there are not too many. -/
def good (l : List ByteArray) : Prop := (∀ s ∈ l, nameOk s = true) ∧ l.length ≤ 4
/-- It begins with the mark. -/
def begins (p : ByteArray) : Prop := ∃ h : 0 < p.size, (p[0]).toNat = 47
/-- The answer of SplitPath. -/
def Ans (p : ByteArray) (l : List ByteArray) (ok : Bool) : Prop := (¬ begins p ∧ l = [] ∧ ok = false) ∨ (begins p ∧ p.size = 1 ∧ l = [] ∧ ok = true) ∨ (begins p ∧ 1 < p.size ∧ good (rest p 1 1) ∧ l = rest p 1 1 ∧ ok = true) ∨ (begins p ∧ 1 < p.size ∧ ¬ good (rest p 1 1) ∧ l = [] ∧ ok = false)
theorem ans_ex (p : ByteArray) : ∃ l ok, Ans p l ok ∧ l.length ≤ 4 := by
  by_cases h : begins p
  · obtain ⟨h0, _⟩ := id h
    by_cases h1 : p.size = 1
    · exact ⟨[], true, .inr (.inl ⟨h, h1, rfl, rfl⟩), by simp⟩
    · by_cases h2 : good (rest p 1 1)
      · exact ⟨_, true, .inr (.inr (.inl ⟨h, by omega, h2, rfl, rfl⟩)), h2.2⟩
      · exact ⟨[], false, .inr (.inr (.inr ⟨h, by omega, h2, rfl, rfl⟩)), by simp⟩
  · exact ⟨[], false, .inl ⟨h, rfl, rfl⟩, by simp⟩
theorem Ans.none {p : ByteArray} {l : List ByteArray} {ok : Bool} (h : Ans p l ok) (hb : ¬ begins p) : l = [] ∧ ok = false := by
  rcases h with h | h | h | h
  · exact h.2
  all_goals exact absurd h.1 hb
theorem Ans.root {p : ByteArray} {l : List ByteArray} {ok : Bool} (h : Ans p l ok) (hb : begins p) (h1 : p.size = 1) : l = [] ∧ ok = true := by
  rcases h with h | h | h | h
  · exact absurd hb h.1
  · exact h.2.2
  · omega
  · omega
theorem Ans.bad {p : ByteArray} {l : List ByteArray} {ok : Bool} (h : Ans p l ok) (hb : begins p) (h1 : 1 < p.size) (hg : ¬ good (rest p 1 1)) : l = [] ∧ ok = false := by
  rcases h with h | h | h | h
  · exact absurd hb h.1
  · omega
  · exact absurd h.2.2.1 hg
  · exact h.2.2.2
theorem Ans.good {p : ByteArray} {l : List ByteArray} {ok : Bool} (h : Ans p l ok) (hb : begins p) (h1 : 1 < p.size) (hg : good (rest p 1 1)) : l = rest p 1 1 ∧ ok = true := by
  rcases h with h | h | h | h
  · exact absurd hb h.1
  · omega
  · exact h.2.2.2
  · exact absurd hg h.2.2.1
theorem not_good_mem {l a b : List ByteArray} {x : ByteArray} (h : l = a ++ x :: b) (hx : nameOk x = false) : ¬ good l := fun hg => by
  have := hg.1 x (by rw [h]; simp)
  rw [hx] at this
  exact absurd this (by decide)
theorem not_good_len {l : List ByteArray} (h : 4 < l.length) : ¬ good l := fun hg => by have := hg.2; omega
theorem begins_of {p : ByteArray} (h : 0 < p.size) {c : Nat} (hc : (p[0]).toNat = c) (h47 : c = 47) : begins p := ⟨h, by rw [hc, h47]⟩
theorem not_begins {p : ByteArray} (h : 0 < p.size) {c : Nat} (hc : (p[0]).toNat = c) (h47 : c ≠ 47) : ¬ begins p := fun ⟨_, e⟩ => h47 (by rw [← hc]; exact e)
theorem not_begins_zero {p : ByteArray} (h : p.size = 0) : ¬ begins p := fun ⟨e, _⟩ => by omega
/-- A text of one byte. -/
theorem one_iff (p : ByteArray) (h : 0 < p.size) (hc : (p[0]).toNat = 47) : (p.toList == ([47] : List UInt8)) = decide (p.size = 1) := by
  have hl : p.toList = p.data.toList := ByteArray.toList_eq ..
  have hz : p.data.toList.length = p.size := rfl
  by_cases h1 : p.size = 1
  · have : p.toList = [47] := by
      rw [hl]
      cases he : p.data.toList with
      | nil => rw [he] at hz; simp at hz; omega
      | cons a r =>
        rw [he] at hz
        cases r with
        | nil =>
          have : p[0] = a := by
            show p.data[0] = a
            have e2 : p.data.toList[0]? = some a := by rw [he]; rfl
            rw [Array.getElem?_toList] at e2
            exact Option.some.inj ((Array.getElem?_eq_getElem (by exact h)).symm.trans e2)
          rw [this] at hc
          have : a = 47 := UInt8.toNat_inj.1 (by rw [hc]; rfl)
          rw [this]
        | cons b r => simp at hz; omega
    rw [this]; simp [h1]
  · rw [decide_eq_false h1]
    apply beq_eq_false_iff_ne.mpr
    intro e
    rw [hl] at e
    rw [e] at hz
    simp at hz
    omega
/-- What one step of a range over a text goes over: the mark itself, or no mark. -/
theorem step_at (s : ByteArray) (pos : Nat) (h : pos < s.size) :
    ((Utf8.decode s pos).1 = 47 ∧ (Utf8.decode s pos).2 = 1 ∧ (s[pos]).toNat = 47) ∨ ((Utf8.decode s pos).1 ≠ 47 ∧ 1 ≤ (Utf8.decode s pos).2 ∧ ∀ j, pos ≤ j → j < pos + (Utf8.decode s pos).2 → ∃ hj : j < s.size, (s[j]).toNat ≠ 47) := by
  by_cases ha : (s[pos]'h).toNat < 128
  · rw [decode_ascii s pos h ha]
    by_cases h47 : (s[pos]'h).toNat = 47
    · exact .inl ⟨h47, rfl, h47⟩
    · refine .inr ⟨h47, Nat.le_refl _, fun j h1 h2 => ?_⟩
      have : j = pos := by simp at h2; omega
      subst this
      exact ⟨h, h47⟩
  · have hh := decode_high s pos h (by omega)
    refine .inr ⟨by omega, hh.2, fun j h1 h2 => ?_⟩
    have hg : ∀ k (hk : pos + k < s.size), (s.get! (pos + k)).toNat = (s[pos + k]).toNat := fun k hk => by
      simp [ByteArray.get!, getElem!_pos, hk]
      rfl
    have key : ∀ k, k < (Utf8.decode s pos).2 → k = 0 ∨ (∃ hk : pos + k < s.size, (s[pos + k]).toNat / 64 = 2) := by
      intro k hk
      unfold Utf8.decode at hk
      simp only at hk
      by_cases hk0 : k = 0
      · exact .inl hk0
      · right
        repeat' split at hk
        all_goals (try (simp only at hk; omega))
        all_goals
          rename_i q _
          simp only [Bool.and_eq_true, decide_eq_true_eq, beq_iff_eq] at q
          simp only at hk
        · obtain ⟨_, q1, q2⟩ := q
          obtain rfl : k = 1 := by omega
          exact ⟨q1, by rw [← hg _ q1]; exact q2⟩
        · obtain ⟨⟨_, q1, q2⟩, q3, q4⟩ := q
          rcases (show k = 1 ∨ k = 2 by omega) with rfl | rfl
          · exact ⟨q1, by rw [← hg _ q1]; exact q2⟩
          · exact ⟨q3, by rw [← hg _ q3]; exact q4⟩
        · obtain ⟨⟨⟨_, q1, q2⟩, q3, q4⟩, q5, q6⟩ := q
          rcases (show k = 1 ∨ k = 2 ∨ k = 3 by omega) with rfl | rfl | rfl
          · exact ⟨q1, by rw [← hg _ q1]; exact q2⟩
          · exact ⟨q3, by rw [← hg _ q3]; exact q4⟩
          · exact ⟨q5, by rw [← hg _ q5]; exact q6⟩
    obtain ⟨k, rfl⟩ : ∃ k, j = pos + k := ⟨j - pos, by omega⟩
    rcases key k (by omega) with rfl | ⟨hk, e⟩
    · exact ⟨h, by simp only [Nat.add_zero]; omega⟩
    · exact ⟨hk, by omega⟩
end Go.Proofs.Ytkfcdpfkhbgfnaa.Kit
