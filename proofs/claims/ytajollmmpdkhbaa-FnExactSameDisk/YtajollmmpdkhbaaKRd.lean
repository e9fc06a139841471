
/- Plain facts on reading a number in base 128: what is read, and that just the shortest form is its own bytes; no Go function is spoken of. -/
import Derived.Test.YtajollmmpdkhbaaCom
import Derived.Test.YtajollmmpdkhbaaKit
namespace Go.Proofs.Ytajollmmpdkhbaa.Kit
open Go.RowKit

/-- The number that bytes tell, the lowest first. -/
def val : List UInt8 → Nat
  | [] => 0
  | c :: r => c.toNat % 128 + 128 * val r

theorem val_snoc (l : List UInt8) (c : UInt8) : val (l ++ [c]) = val l + c.toNat % 128 * 128 ^ l.length := by
  induction l with
  | nil => simp [val]
  | cons a r ih =>
    simp only [List.cons_append, val, ih, List.length_cons]
    rw [Nat.pow_succ, Nat.mul_add, Nat.add_assoc, ← Nat.mul_assoc, ← Nat.mul_assoc, Nat.mul_comm (c.toNat % 128 * 128 ^ r.length) 128, Nat.mul_assoc]

theorem val_lt (l : List UInt8) : val l < 128 ^ l.length := by
  induction l with
  | nil => simp [val]
  | cons a r ih =>
    simp only [val, List.length_cons]
    rw [Nat.pow_succ]
    have : a.toNat % 128 < 128 := Nat.mod_lt _ (by decide)
    omega

/-- Reading: with fuel, the rest, how many were read, what they tell. -/
def rdF : Nat → List UInt8 → Nat → Nat → Option (Nat × Nat)
  | 0, _, _, _ => none
  | _ + 1, [], _, _ => none
  | f + 1, c :: r, k, n => if 128 ≤ c.toNat then rdF f r (k + 1) (n + c.toNat % 128 * 128 ^ k)
      else if 1000000000 < n + c.toNat % 128 * 128 ^ k ∨ (c.toNat = 0 ∧ 0 < k) then none else some (n + c.toNat % 128 * 128 ^ k, k + 1)

/-- What is read of a text from a place on. -/
def rd (s : ByteArray) (p : Nat) : Option (Nat × Nat) := rdF 5 (s.data.toList.drop p) 0 0

theorem vbF_ne (f n : Nat) : vbF f n ≠ [] := by
  cases f with
  | zero => simp [vbF]
  | succ f => unfold vbF; split <;> simp

theorem vbF_last (f : Nat) : ∀ n, 0 < n → n < 128 ^ (f + 1) → ∀ l c, vbF f n = l ++ [c] → c.toNat ≠ 0 := by
  induction f with
  | zero =>
    intro n h0 h1 l c h
    simp only [vbF] at h
    have : c = loB n := by
      cases l with
      | nil => simpa using h.symm
      | cons a t => simp at h
    subst this
    have h2 : n < 128 := by simpa using h1
    simp [loB, UInt8.toNat_ofNat']; omega
  | succ f ih =>
    intro n h0 h1 l c h
    by_cases hb : 127 < n
    · rw [vbF_big f n hb] at h
      cases l with
      | nil => simp at h; exact absurd h.2 (vbF_ne _ _)
      | cons a t =>
        simp at h
        refine ih (n / 128) (by omega) ?_ t c h.2
        rw [Nat.pow_succ] at h1
        omega
    · rw [vbF_small _ n (by omega)] at h
      have : c = loB n := by
        cases l with
        | nil => simpa using h.symm
        | cons a t => simp at h
      subst this
      simp [loB, UInt8.toNat_ofNat']; omega

theorem vbF_val (pre : List UInt8) : ∀ (f : Nat) (c : UInt8), pre.length ≤ f → (∀ b ∈ pre, 128 ≤ b.toNat) → c.toNat < 128 → (c.toNat ≠ 0 ∨ pre = []) →
    vbF f (val (pre ++ [c])) = pre ++ [c] := by
  induction pre with
  | nil =>
    intro f c _ _ hc _
    have hv : val ([] ++ [c]) = c.toNat := by simp [val]; omega
    rw [hv, vbF_small _ _ (by omega)]
    simp [loB]
  | cons b r ih =>
    intro f c hl hb hc hn
    have hc0 : c.toNat ≠ 0 := by simpa using hn
    cases f with
    | zero => simp at hl
    | succ f =>
      have hb0 : 128 ≤ b.toNat := hb b (by simp)
      have hb1 : b.toNat < 256 := b.toNat_lt
      have hpos : 0 < val (r ++ [c]) := by
        rw [val_snoc]
        have h1 : 0 < 128 ^ r.length := Nat.pow_pos (by decide)
        have h2 : 0 < c.toNat % 128 := by omega
        have := Nat.mul_pos h2 h1
        omega
      have hv : val (b :: r ++ [c]) = b.toNat % 128 + 128 * val (r ++ [c]) := rfl
      rw [hv, vbF_big f _ (by omega)]
      have e1 : (b.toNat % 128 + 128 * val (r ++ [c])) / 128 = val (r ++ [c]) := by omega
      have e2 : hiB (b.toNat % 128 + 128 * val (r ++ [c])) = b := by
        unfold hiB
        rw [show (b.toNat % 128 + 128 * val (r ++ [c])) % 128 + 128 = b.toNat by omega]
        simp
      rw [e1, e2, ih f c (by simpa using hl) (fun x hx => hb x (by simp [hx])) hc (.inl hc0)]
      rfl

/-- Just the shortest form is its own bytes. -/
theorem vb_val_iff (pre : List UInt8) (c : UInt8) (hl : pre.length ≤ 8) (hb : ∀ b ∈ pre, 128 ≤ b.toNat) (hc : c.toNat < 128) :
    vb (val (pre ++ [c])) = pre ++ [c] ↔ ¬ (c.toNat = 0 ∧ 0 < pre.length) := by
  constructor
  · rintro h ⟨h0, hp⟩
    by_cases hz : val (pre ++ [c]) = 0
    · rw [hz] at h
      have : (vb 0).length = 1 := rfl
      rw [h] at this
      simp at this
      simp [this] at hp
    · have hlt := val_lt (pre ++ [c])
      have hle : 128 ^ (pre ++ [c]).length ≤ 128 ^ (9 + 1) := Nat.pow_le_pow_right (by decide) (by simp; omega)
      exact vbF_last 9 _ (by omega) (by omega) pre c h h0
  · intro h
    refine vbF_val pre 9 c (by omega) hb hc ?_
    by_cases h0 : c.toNat = 0
    · right
      have : ¬ 0 < pre.length := fun hp => h ⟨h0, hp⟩
      exact List.length_eq_zero_iff.1 (by omega)
    · exact .inl h0

/-- What the walks of the two readers share: k bytes from p on were read, each goes on, they tell n, and what is read in the end is what is read from here on. -/
def AtK (s : ByteArray) (p k n : Nat) : Prop :=
  ∃ pre rest : List UInt8, s.data.toList.drop p = pre ++ rest ∧ pre.length = k ∧ (∀ b ∈ pre, 128 ≤ b.toNat) ∧ n = val pre ∧ rd s p = rdF (5 - k) rest k n

theorem AtK.start (s : ByteArray) (p : Nat) : AtK s p 0 0 := ⟨[], s.data.toList.drop p, rfl, rfl, by simp, rfl, rfl⟩

theorem AtK.lt {s : ByteArray} {p k n : Nat} (h : AtK s p k n) : n < 128 ^ k := by
  obtain ⟨pre, rest, _, rfl, _, rfl, _⟩ := h
  exact val_lt pre

theorem drop_head {s : ByteArray} {p k : Nat} {pre rest : List UInt8} (h : s.data.toList.drop p = pre ++ rest) (hk : pre.length = k) (hlt : p + k < s.size) : rest = s[p + k] :: rest.tail := by
  have h1 : (s.data.toList.drop p).drop k = rest := by rw [h, ← hk]; simp
  rw [List.drop_drop] at h1
  have h2 : p + k < s.data.toList.length := by simpa using hlt
  rw [List.drop_eq_getElem_cons h2] at h1
  rw [← h1]
  rfl

theorem AtK.out {s : ByteArray} {p k n : Nat} (h : AtK s p k n) (hx : s.size ≤ p + k ∨ 5 ≤ k) : rd s p = none := by
  obtain ⟨pre, rest, hd, hk, _, rfl, hr⟩ := h
  rw [hr]
  by_cases h5 : 5 ≤ k
  · rw [show 5 - k = 0 by omega]; rfl
  · have hs : s.size ≤ p + k := by omega
    have : rest = [] := by
      have hl := congrArg List.length hd
      simp at hl
      apply List.length_eq_zero_iff.1
      have : s.data.size = s.size := rfl
      omega
    subst this
    rw [show 5 - k = (4 - k) + 1 by omega]
    rfl

theorem AtK.next {s : ByteArray} {p k n : Nat} (h : AtK s p k n) (hlt : p + k < s.size) (h5 : k < 5) (hc : 128 ≤ (s[p + k]).toNat) :
    AtK s p (k + 1) (n + (s[p + k]).toNat % 128 * 128 ^ k) := by
  obtain ⟨pre, rest, hd, hk, hb, rfl, hr⟩ := h
  have hrest := drop_head hd hk hlt
  refine ⟨pre ++ [s[p + k]], rest.tail, ?_, by simp [hk], ?_, ?_, ?_⟩
  · rw [hd]; simp [List.append_assoc, ← hrest]
  · intro b hb'
    rcases List.mem_append.1 hb' with h1 | h1
    · exact hb b h1
    · simp at h1; subst h1; exact hc
  · rw [val_snoc, hk]
  · rw [hr]
    conv => lhs; rw [hrest, show 5 - k = (5 - (k + 1)) + 1 by omega]
    rw [rdF, if_pos hc]

theorem AtK.stop {s : ByteArray} {p k n : Nat} (h : AtK s p k n) (hlt : p + k < s.size) (h5 : k < 5) (hc : (s[p + k]).toNat < 128) :
    rd s p = if 1000000000 < n + (s[p + k]).toNat % 128 * 128 ^ k ∨ ((s[p + k]).toNat = 0 ∧ 0 < k) then none else some (n + (s[p + k]).toNat % 128 * 128 ^ k, k + 1) := by
  obtain ⟨pre, rest, hd, hk, hb, rfl, hr⟩ := h
  have hrest := drop_head hd hk hlt
  rw [hr]
  conv => lhs; rw [hrest, show 5 - k = (5 - (k + 1)) + 1 by omega]
  rw [rdF, if_neg (by omega)]

theorem extract_toList (s : ByteArray) (a b : Nat) : (s.extract a b).data.toList = (s.data.toList.drop a).take (b - a) := by
  simp [ByteArray.data_extract, List.take_drop]

theorem AtK.form {s : ByteArray} {p k n : Nat} (h : AtK s p k n) (hlt : p + k < s.size) (h5 : k < 5) (hc : (s[p + k]).toNat < 128) :
    vb (n + (s[p + k]).toNat % 128 * 128 ^ k) = (s.extract p (p + k + 1)).data.toList ↔ ¬ ((s[p + k]).toNat = 0 ∧ 0 < k) := by
  obtain ⟨pre, rest, hd, hk, hb, rfl, _⟩ := h
  have hrest := drop_head hd hk hlt
  have e : (s.extract p (p + k + 1)).data.toList = pre ++ [s[p + k]] := by
    rw [extract_toList, hd, hrest, show p + k + 1 - p = pre.length + 1 by omega, List.take_append]
    simp [List.take_of_length_le]
  have := vb_val_iff pre s[p + k] (by omega) hb hc
  rw [val_snoc, hk] at this
  rw [e]
  exact this
end Go.Proofs.Ytajollmmpdkhbaa.Kit
