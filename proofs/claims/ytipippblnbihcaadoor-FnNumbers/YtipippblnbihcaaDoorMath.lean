/- Plain facts on numbers and texts in bytes and figures; no Go function is spoken of. -/
import Derived.Test.YtipippblnbihcaaDoorKitB
namespace Go.Proofs.YtipippblnbihcaaDoor.Kit
open Go.RowKit

/-- The number that bytes tell, the lowest first. -/
def val : List UInt8 → Nat
  | [] => 0
  | c :: r => c.toNat % 128 + 128 * val r

theorem val_snoc (l : List UInt8) (c : UInt8) : val (l ++ [c]) = val l + c.toNat % 128 * 128 ^ l.length := by
  induction l with
  | nil => simp [val]
  | cons a r ih =>
    simp only [List.cons_append, val, ih, List.length_cons]
    rw [Nat.pow_succ, Nat.mul_add, Nat.add_assoc, ← Nat.mul_assoc, ← Nat.mul_assoc, Nat.mul_comm (c.toNat % 128 * 128 ^ r.length) 128, Nat.mul_assoc]

theorem val_lt (l : List UInt8) : val l < 128 ^ l.length := by
  induction l with
  | nil => simp [val]
  | cons a r ih =>
    simp only [val, List.length_cons]
    rw [Nat.pow_succ]
    have : a.toNat % 128 < 128 := Nat.mod_lt _ (by decide)
    omega

/-- Reading: with fuel, the rest, how many were read, what they tell. -/
def rdF : Nat → List UInt8 → Nat → Nat → Option (Nat × Nat)
  | 0, _, _, _ => none
  | _ + 1, [], _, _ => none
  | f + 1, c :: r, k, n => if 128 ≤ c.toNat then rdF f r (k + 1) (n + c.toNat % 128 * 128 ^ k)
      else if 1000000000 < n + c.toNat % 128 * 128 ^ k ∨ (c.toNat = 0 ∧ 0 < k) then none else some (n + c.toNat % 128 * 128 ^ k, k + 1)

/-- What is read of a text from a place on. -/
def rd (s : ByteArray) (p : Nat) : Option (Nat × Nat) := rdF 5 (s.data.toList.drop p) 0 0

theorem vbF_ne (f n : Nat) : vbF f n ≠ [] := by
  cases f with
  | zero => simp [vbF]
  | succ f => unfold vbF; split <;> simp

theorem vbF_last (f : Nat) : ∀ n, 0 < n → n < 128 ^ (f + 1) → ∀ l c, vbF f n = l ++ [c] → c.toNat ≠ 0 := by
  induction f with
  | zero =>
    intro n h0 h1 l c h
    simp only [vbF] at h
    have : c = loB n := by
      cases l with
      | nil => simpa using h.symm
      | cons a t => simp at h
    subst this
    have h2 : n < 128 := by simpa using h1
    simp [loB, UInt8.toNat_ofNat']; omega
  | succ f ih =>
    intro n h0 h1 l c h
    by_cases hb : 127 < n
    · rw [vbF_big f n hb] at h
      cases l with
      | nil => simp at h; exact absurd h.2 (vbF_ne _ _)
      | cons a t =>
        simp at h
        refine ih (n / 128) (by omega) ?_ t c h.2
        rw [Nat.pow_succ] at h1
        omega
    · rw [vbF_small _ n (by omega)] at h
      have : c = loB n := by
        cases l with
        | nil => simpa using h.symm
        | cons a t => simp at h
      subst this
      simp [loB, UInt8.toNat_ofNat']; omega

theorem vbF_val (pre : List UInt8) : ∀ (f : Nat) (c : UInt8), pre.length ≤ f → (∀ b ∈ pre, 128 ≤ b.toNat) → c.toNat < 128 → (c.toNat ≠ 0 ∨ pre = []) →
    vbF f (val (pre ++ [c])) = pre ++ [c] := by
  induction pre with
  | nil =>
    intro f c _ _ hc _
    have hv : val ([] ++ [c]) = c.toNat := by simp [val]; omega
    rw [hv, vbF_small _ _ (by omega)]
    simp [loB]
  | cons b r ih =>
    intro f c hl hb hc hn
    have hc0 : c.toNat ≠ 0 := by simpa using hn
    cases f with
    | zero => simp at hl
    | succ f =>
      have hb0 : 128 ≤ b.toNat := hb b (by simp)
      have hb1 : b.toNat < 256 := b.toNat_lt
      have hpos : 0 < val (r ++ [c]) := by
        rw [val_snoc]
        have h1 : 0 < 128 ^ r.length := Nat.pow_pos (by decide)
        have h2 : 0 < c.toNat % 128 := by omega
        have := Nat.mul_pos h2 h1
        omega
      have hv : val (b :: r ++ [c]) = b.toNat % 128 + 128 * val (r ++ [c]) := rfl
      rw [hv, vbF_big f _ (by omega)]
      have e1 : (b.toNat % 128 + 128 * val (r ++ [c])) / 128 = val (r ++ [c]) := by omega
      have e2 : hiB (b.toNat % 128 + 128 * val (r ++ [c])) = b := by
        unfold hiB
        rw [show (b.toNat % 128 + 128 * val (r ++ [c])) % 128 + 128 = b.toNat by omega]
        simp
      rw [e1, e2, ih f c (by simpa using hl) (fun x hx => hb x (by simp [hx])) hc (.inl hc0)]
      rfl

/-- Just the shortest form is its own bytes. -/
theorem vb_val_iff (pre : List UInt8) (c : UInt8) (hl : pre.length ≤ 8) (hb : ∀ b ∈ pre, 128 ≤ b.toNat) (hc : c.toNat < 128) :
    vb (val (pre ++ [c])) = pre ++ [c] ↔ ¬ (c.toNat = 0 ∧ 0 < pre.length) := by
  constructor
  · rintro h ⟨h0, hp⟩
    by_cases hz : val (pre ++ [c]) = 0
    · rw [hz] at h
      have : (vb 0).length = 1 := rfl
      rw [h] at this
      simp at this
      simp [this] at hp
    · have hlt := val_lt (pre ++ [c])
      have hle : 128 ^ (pre ++ [c]).length ≤ 128 ^ (9 + 1) := Nat.pow_le_pow_right (by decide) (by simp; omega)
      exact vbF_last 9 _ (by omega) (by omega) pre c h h0
  · intro h
    refine vbF_val pre 9 c (by omega) hb hc ?_
    by_cases h0 : c.toNat = 0
    · right
      have : ¬ 0 < pre.length := fun hp => h ⟨h0, hp⟩
      exact List.length_eq_zero_iff.1 (by omega)
    · exact .inl h0

/-- What the walks of the two readers share: k bytes from p on were read, each goes on, they tell n, and what is read in the end is what is read from here on. -/
def At (s : ByteArray) (p k n : Nat) : Prop :=
  ∃ pre rest : List UInt8, s.data.toList.drop p = pre ++ rest ∧ pre.length = k ∧ (∀ b ∈ pre, 128 ≤ b.toNat) ∧ n = val pre ∧ rd s p = rdF (5 - k) rest k n

theorem At.start (s : ByteArray) (p : Nat) : At s p 0 0 := ⟨[], s.data.toList.drop p, rfl, rfl, by simp, rfl, rfl⟩

theorem At.lt {s : ByteArray} {p k n : Nat} (h : At s p k n) : n < 128 ^ k := by
  obtain ⟨pre, rest, _, rfl, _, rfl, _⟩ := h
  exact val_lt pre

theorem drop_head {s : ByteArray} {p k : Nat} {pre rest : List UInt8} (h : s.data.toList.drop p = pre ++ rest) (hk : pre.length = k) (hlt : p + k < s.size) : rest = s[p + k] :: rest.tail := by
  have h1 : (s.data.toList.drop p).drop k = rest := by rw [h, ← hk]; simp
  rw [List.drop_drop] at h1
  have h2 : p + k < s.data.toList.length := by simpa using hlt
  rw [List.drop_eq_getElem_cons h2] at h1
  rw [← h1]
  rfl

theorem At.out {s : ByteArray} {p k n : Nat} (h : At s p k n) (hx : s.size ≤ p + k ∨ 5 ≤ k) : rd s p = none := by
  obtain ⟨pre, rest, hd, hk, _, rfl, hr⟩ := h
  rw [hr]
  by_cases h5 : 5 ≤ k
  · rw [show 5 - k = 0 by omega]; rfl
  · have hs : s.size ≤ p + k := by omega
    have : rest = [] := by
      have hl := congrArg List.length hd
      simp at hl
      apply List.length_eq_zero_iff.1
      have : s.data.size = s.size := rfl
      omega
    subst this
    rw [show 5 - k = (4 - k) + 1 by omega]
    rfl

theorem At.next {s : ByteArray} {p k n : Nat} (h : At s p k n) (hlt : p + k < s.size) (h5 : k < 5) (hc : 128 ≤ (s[p + k]).toNat) :
    At s p (k + 1) (n + (s[p + k]).toNat % 128 * 128 ^ k) := by
  obtain ⟨pre, rest, hd, hk, hb, rfl, hr⟩ := h
  have hrest := drop_head hd hk hlt
  refine ⟨pre ++ [s[p + k]], rest.tail, ?_, by simp [hk], ?_, ?_, ?_⟩
  · rw [hd]; simp [List.append_assoc, ← hrest]
  · intro b hb'
    rcases List.mem_append.1 hb' with h1 | h1
    · exact hb b h1
    · simp at h1; subst h1; exact hc
  · rw [val_snoc, hk]
  · rw [hr]
    conv => lhs; rw [hrest, show 5 - k = (5 - (k + 1)) + 1 by omega]
    rw [rdF, if_pos hc]

theorem At.stop {s : ByteArray} {p k n : Nat} (h : At s p k n) (hlt : p + k < s.size) (h5 : k < 5) (hc : (s[p + k]).toNat < 128) :
    rd s p = if 1000000000 < n + (s[p + k]).toNat % 128 * 128 ^ k ∨ ((s[p + k]).toNat = 0 ∧ 0 < k) then none else some (n + (s[p + k]).toNat % 128 * 128 ^ k, k + 1) := by
  obtain ⟨pre, rest, hd, hk, hb, rfl, hr⟩ := h
  have hrest := drop_head hd hk hlt
  rw [hr]
  conv => lhs; rw [hrest, show 5 - k = (5 - (k + 1)) + 1 by omega]
  rw [rdF, if_neg (by omega)]

theorem extract_toList (s : ByteArray) (a b : Nat) : (s.extract a b).data.toList = (s.data.toList.drop a).take (b - a) := by
  simp [ByteArray.data_extract, List.take_drop]

theorem At.form {s : ByteArray} {p k n : Nat} (h : At s p k n) (hlt : p + k < s.size) (h5 : k < 5) (hc : (s[p + k]).toNat < 128) :
    vb (n + (s[p + k]).toNat % 128 * 128 ^ k) = (s.extract p (p + k + 1)).data.toList ↔ ¬ ((s[p + k]).toNat = 0 ∧ 0 < k) := by
  obtain ⟨pre, rest, hd, hk, hb, rfl, _⟩ := h
  have hrest := drop_head hd hk hlt
  have e : (s.extract p (p + k + 1)).data.toList = pre ++ [s[p + k]] := by
    rw [extract_toList, hd, hrest, show p + k + 1 - p = pre.length + 1 by omega, List.take_append]
    simp [List.take_of_length_le]
  have := vb_val_iff pre s[p + k] (by omega) hb hc
  rw [val_snoc, hk] at this
  rw [e]
  exact this

/-- The value of a figure. -/
def fv (c : Nat) : Option Nat := if 48 ≤ c ∧ c ≤ 57 then some (c - 48) else if 97 ≤ c ∧ c ≤ 102 then some (c - 87) else none
theorem fv_lt {c h : Nat} (hf : fv c = some h) : h < 16 := by
  unfold fv at hf
  split at hf
  · simp at hf; omega
  · split at hf
    · simp at hf; omega
    · cases hf
/-- Two figures' byte. -/
def joinB (h l : Nat) : UInt8 := UInt8.ofNat (16 * h + l)
/-- Figures back into bytes, a first figure waiting or not. -/
def uhF : Option Nat → List UInt8 → Option (List UInt8)
  | none, [] => some []
  | some _, [] => none
  | none, c :: r => match fv c.toNat with
    | none => none
    | some h => uhF (some h) r
  | some h, c :: r => match fv c.toNat with
    | none => none
    | some l => (uhF none r).map (joinB h l :: ·)
def uh (s : ByteArray) : Option (List UInt8) := uhF none s.data.toList
/-- k bytes were read, they gave pre, p waits. -/
def UAt (s : ByteArray) (k : Nat) (p : Option Nat) (pre : List UInt8) : Prop := uh s = (uhF p (s.data.toList.drop k)).map (pre ++ ·)
theorem UAt.start (s : ByteArray) : UAt s 0 none [] := by
  simp [UAt, uh]
theorem drop_cons (s : ByteArray) (k : Nat) (h : k < s.size) : s.data.toList.drop k = s[k] :: s.data.toList.drop (k + 1) := by
  rw [List.drop_eq_getElem_cons (by simpa using h)]
  rfl
theorem drop_end (s : ByteArray) (k : Nat) (h : s.size ≤ k) : s.data.toList.drop k = [] := List.drop_of_length_le (by simpa using h)
theorem UAt.bad {s : ByteArray} {k : Nat} {p : Option Nat} {pre : List UInt8} (h : UAt s k p pre) (hk : k < s.size) (hf : fv (s[k]).toNat = none) : uh s = none := by
  unfold UAt at h
  rw [h, drop_cons s k hk]
  cases p <;> simp [uhF, hf]
theorem UAt.first {s : ByteArray} {k x : Nat} {pre : List UInt8} (h : UAt s k none pre) (hk : k < s.size) (hf : fv (s[k]).toNat = some x) : UAt s (k + 1) (some x) pre := by
  unfold UAt at *
  rw [h, drop_cons s k hk]
  simp [uhF, hf]
theorem UAt.second {s : ByteArray} {k x y : Nat} {pre : List UInt8} (h : UAt s k (some x) pre) (hk : k < s.size) (hf : fv (s[k]).toNat = some y) : UAt s (k + 1) none (pre ++ [joinB x y]) := by
  unfold UAt at *
  rw [h, drop_cons s k hk]
  simp [uhF, hf, Option.map_map, Function.comp_def]
theorem UAt.done {s : ByteArray} {k : Nat} {pre : List UInt8} (h : UAt s k none pre) (hk : s.size ≤ k) : uh s = some pre := by
  unfold UAt at h
  rw [h, drop_end s k hk]
  simp [uhF]
/-- What is answered. -/
def uhVal (s : ByteArray) : Value := match uh s with
  | none => .tuple #[.string ⟨#[]⟩, .bool false]
  | some l => .tuple #[.string ⟨l.toArray⟩, .bool true]
theorem uhVal_none {s : ByteArray} (h : uh s = none) : uhVal s = .tuple #[.string ⟨#[]⟩, .bool false] := by simp [uhVal, h]
theorem uhVal_some {s : ByteArray} {l : List UInt8} (h : uh s = some l) : uhVal s = .tuple #[.string ⟨l.toArray⟩, .bool true] := by simp [uhVal, h]
theorem uhVal_form (s : ByteArray) : ∃ (a : ByteArray) (b : Bool), uhVal s = .tuple #[.string a, .bool b] := by
  unfold uhVal
  split
  · exact ⟨_, false, rfl⟩
  · exact ⟨_, true, rfl⟩
/-- A figure's value as an int, -1 for none. -/
def fvI (c : Nat) : Int := match fv c with
  | none => -1
  | some v => v
theorem fvI_none {c : Nat} (h : fv c = none) : fvI c = -1 := by simp [fvI, h]
theorem fvI_some {c v : Nat} (h : fv c = some v) : fvI c = v := by simp [fvI, h]
theorem fv_cases (c : Nat) : (48 ≤ c ∧ c ≤ 57 ∧ fv c = some (c - 48)) ∨ (97 ≤ c ∧ c ≤ 102 ∧ fv c = some (c - 87)) ∨ (¬ (48 ≤ c ∧ c ≤ 57) ∧ ¬ (97 ≤ c ∧ c ≤ 102) ∧ fv c = none) := by
  unfold fv
  by_cases h1 : 48 ≤ c ∧ c ≤ 57
  · simp [h1]
  · by_cases h2 : 97 ≤ c ∧ c ≤ 102
    · simp [h1, h2]
    · simp only [h1, h2, if_false]
      simp
theorem or_join : ∀ h < 16, ∀ l < 16, (h * 16) ||| l = h * 16 + l := by decide

/-- The figures of a number, with fuel; none for 0. -/
def decF : Nat → Nat → List UInt8
  | 0, _ => []
  | f + 1, n => if n = 0 then [] else decF f (n / 10) ++ [figB (n % 10)]
/-- The figures of a number. -/
def dec (n : Nat) : List UInt8 := if n = 0 then [48] else decF 20 n
theorem decF_zero (f : Nat) : decF f 0 = [] := by cases f <;> simp [decF]
theorem decF_pos (f n : Nat) (h : n ≠ 0) : decF (f + 1) n = decF f (n / 10) ++ [figB (n % 10)] := by simp [decF, h]
theorem decF_len (f n : Nat) : (decF f n).length ≤ f := by
  induction f generalizing n with
  | zero => simp [decF]
  | succ f ih =>
    by_cases h : n = 0
    · subst h; simp [decF]
    · rw [decF_pos f n h]; have := ih (n / 10); simp; omega
/-- The number that figures tell. -/
def val10 (l : List UInt8) : Nat := l.foldl (fun n c => 10 * n + (c.toNat - 48)) 0
theorem val10_snoc (l : List UInt8) (c : UInt8) : val10 (l ++ [c]) = 10 * val10 l + (c.toNat - 48) := by simp [val10]
def dig (c : UInt8) : Prop := 48 ≤ c.toNat ∧ c.toNat ≤ 57
theorem fig_of {c : UInt8} (h : dig c) : figB (c.toNat - 48) = c := by
  obtain ⟨h1, h2⟩ := h
  unfold figB
  rw [if_pos (by omega), show 48 + (c.toNat - 48) = c.toNat by omega]
  simp
theorem val10_mono (a b : List UInt8) : val10 a ≤ val10 (a ++ b) := by
  induction b generalizing a with
  | nil => simp
  | cons c r ih =>
    have h1 := ih (a ++ [c])
    have h2 := val10_snoc a c
    rw [List.append_assoc] at h1
    simp only [List.singleton_append] at h1
    omega
theorem val10_lt (l : List UInt8) (h : ∀ c ∈ l, dig c) : val10 l < 10 ^ l.length := by
  have key : ∀ r : List UInt8, (∀ c ∈ r, dig c) → val10 r.reverse < 10 ^ r.length := by
    intro r
    induction r with
    | nil => intro _; simp [val10]
    | cons c r ih =>
      intro hr
      have h1 := ih (fun x hx => hr x (by simp [hx]))
      have h2 := hr c (by simp)
      unfold dig at h2
      rw [List.reverse_cons, val10_snoc, List.length_cons, Nat.pow_succ]
      omega
  have := key l.reverse (fun c hc => h c (by simpa using hc))
  simpa using this
theorem val10_ge (c : UInt8) (r : List UInt8) (hc : 48 < c.toNat) : 10 ^ r.length ≤ val10 (c :: r) := by
  have key : ∀ q : List UInt8, 10 ^ q.length ≤ val10 (c :: q.reverse) := by
    intro q
    induction q with
    | nil => simp [val10]; omega
    | cons d q ih =>
      have e : c :: (d :: q).reverse = (c :: q.reverse) ++ [d] := by simp
      rw [e, val10_snoc, List.length_cons, Nat.pow_succ]
      omega
  have := key r.reverse
  simpa using this
/-- No nought ahead of another figure, and not empty. -/
def plainHead : List UInt8 → Prop
  | [] => False
  | c :: r => ¬ (c.toNat = 48 ∧ r ≠ [])
theorem decF_head (f : Nat) : ∀ n, 0 < n → n < 10 ^ f → ∃ d r, decF f n = d :: r ∧ 48 < d.toNat := by
  induction f with
  | zero => intro n h0 h1; simp at h1; omega
  | succ f ih =>
    intro n h0 h1
    rw [decF_pos f n (by omega)]
    by_cases h : n / 10 = 0
    · rw [h, decF_zero]
      refine ⟨figB (n % 10), [], rfl, ?_⟩
      have := figB_lo (n % 10) (by omega)
      omega
    · rw [Nat.pow_succ] at h1
      obtain ⟨d, r, e, hd⟩ := ih (n / 10) (by omega) (by omega)
      exact ⟨d, r ++ [figB (n % 10)], by rw [e]; rfl, hd⟩
theorem decF_val (q : List UInt8) : ∀ f, (∀ c ∈ q, dig c) → q.length ≤ f → (∀ c r, q.reverse = c :: r → 48 < c.toNat) → decF f (val10 q.reverse) = q.reverse := by
  induction q with
  | nil => intro f _ _ _; simp [val10, decF_zero]
  | cons c q ih =>
    intro f hd hl hh
    cases f with
    | zero => simp at hl
    | succ f =>
      have hc := hd c (by simp)
      have hc' := hc
      unfold dig at hc'
      have hpos : val10 (c :: q).reverse ≠ 0 := by
        cases hrev : (c :: q).reverse with
        | nil => simp at hrev
        | cons x r =>
          have := val10_ge x r (hh x r hrev)
          have h1 : 0 < 10 ^ r.length := Nat.pow_pos (by decide)
          omega
      rw [List.reverse_cons] at *
      rw [decF_pos f _ hpos]
      have e : val10 (q.reverse ++ [c]) = 10 * val10 q.reverse + (c.toNat - 48) := val10_snoc _ _
      rw [e, show (10 * val10 q.reverse + (c.toNat - 48)) / 10 = val10 q.reverse by omega, show (10 * val10 q.reverse + (c.toNat - 48)) % 10 = c.toNat - 48 by omega, fig_of hc,
        ih f (fun x hx => hd x (by simp [hx])) (by simpa using hl) (fun x r hr => hh x (r ++ [c]) (by rw [hr]; rfl))]
/-- Just the shortest figures are a number's own. -/
theorem dec_val_iff (l : List UInt8) (hd : ∀ c ∈ l, dig c) (hl : l.length ≤ 20) : dec (val10 l) = l ↔ plainHead l := by
  cases l with
  | nil => simp [plainHead, val10, dec]
  | cons c r =>
    have hc := hd c (by simp)
    have hc' := hc
    unfold dig at hc'
    constructor
    · rintro h ⟨h48, hr⟩
      by_cases h0 : val10 (c :: r) = 0
      · rw [h0] at h
        simp [dec] at h
        exact hr h.2
      · have hlt := val10_lt (c :: r) hd
        have hle : 10 ^ (c :: r).length ≤ 10 ^ 20 := Nat.pow_le_pow_right (by decide) hl
        obtain ⟨d, q, e, hdd⟩ := decF_head 20 (val10 (c :: r)) (by omega) (by omega)
        simp only [dec, h0, if_false] at h
        rw [e] at h
        simp only [List.cons.injEq] at h
        rw [h.1] at hdd
        omega
    · intro h
      by_cases h48 : c.toNat = 48
      · have hr : r = [] := Classical.byContradiction fun hr => h ⟨h48, hr⟩
        subst hr
        have : c = 48 := UInt8.toNat_inj.1 h48
        subst this
        rfl
      · have hpos : val10 (c :: r) ≠ 0 := by
          have := val10_ge c r (by omega)
          have h1 : 0 < 10 ^ r.length := Nat.pow_pos (by decide)
          omega
        simp only [dec, hpos, if_false]
        have := decF_val (c :: r).reverse 20 (fun x hx => hd x (List.mem_reverse.1 hx)) (by simpa using hl) (fun x q hx => by simp only [List.reverse_reverse, List.cons.injEq] at hx; rw [← hx.1]; omega)
        simpa using this

/-- What is read of figures. -/
def rdd (l : List UInt8) (r : Option Nat) : Prop :=
  ((∀ c ∈ l, dig c) ∧ val10 l ≤ 1000000000 ∧ plainHead l → r = some (val10 l)) ∧ (¬ ((∀ c ∈ l, dig c) ∧ val10 l ≤ 1000000000 ∧ plainHead l) → r = none)
/-- k figures were read and tell n. -/
def DAt (s : ByteArray) (k n : Nat) : Prop := (∀ c ∈ s.data.toList.take k, dig c) ∧ n = val10 (s.data.toList.take k)
theorem DAt.start (s : ByteArray) : DAt s 0 0 := ⟨by simp, by simp [val10]⟩
theorem DAt.next {s : ByteArray} {k n c : Nat} (h : DAt s k n) (hk : k < s.size) (hc : (s[k]).toNat = c) (h1 : 48 ≤ c) (h2 : c ≤ 57) : DAt s (k + 1) (10 * n + (c - 48)) := by
  obtain ⟨hd, rfl⟩ := h
  refine ⟨?_, ?_⟩
  · rw [take_snoc s k hk]
    intro x hx
    rcases List.mem_append.1 hx with h | h
    · exact hd x h
    · simp at h; subst h; unfold dig; omega
  · rw [take_snoc s k hk, val10_snoc, hc]
theorem DAt.lt {s : ByteArray} {k n : Nat} (h : DAt s k n) (hk : k ≤ 10) : n < 10000000000 := by
  obtain ⟨hd, rfl⟩ := h
  have h1 := val10_lt _ hd
  have h2 : 10 ^ (s.data.toList.take k).length ≤ 10 ^ 10 := Nat.pow_le_pow_right (by decide) (by rw [List.length_take]; omega)
  omega
theorem get_mem (s : ByteArray) (k : Nat) (hk : k < s.size) : s[k] ∈ s.data.toList := by
  have h2 : k < s.data.toList.length := by simpa using hk
  have : s.data.toList[k] = s[k] := rfl
  rw [← this]
  exact List.getElem_mem h2
theorem rdd_nodig {s : ByteArray} {k c : Nat} {r : Option Nat} (hr : rdd s.data.toList r) (hk : k < s.size) (hc : (s[k]).toNat = c) (h : ¬ (48 ≤ c ∧ c ≤ 57)) : r = none := by
  refine hr.2 fun hh => ?_
  have := hh.1 s[k] (get_mem s k hk)
  unfold dig at this
  omega
theorem rdd_big {s : ByteArray} {k n : Nat} {r : Option Nat} (hr : rdd s.data.toList r) (h : DAt s k n) (hn : 1000000000 < n) : r = none := by
  refine hr.2 fun hh => ?_
  have h1 := val10_mono (s.data.toList.take k) (s.data.toList.drop k)
  rw [List.take_append_drop] at h1
  have := h.2
  omega
theorem rdd_head {s : ByteArray} {r : Option Nat} (hr : rdd s.data.toList r) (h : ¬ plainHead s.data.toList) : r = none := hr.2 fun hh => h hh.2.2
theorem rdd_good {s : ByteArray} {k n : Nat} {r : Option Nat} (hr : rdd s.data.toList r) (h : DAt s k n) (hk : s.size ≤ k) (hn : n ≤ 1000000000) (hp : plainHead s.data.toList) : r = some n := by
  have e := take_all s k hk
  obtain ⟨hd, rfl⟩ := h
  rw [e] at hd hn ⊢
  exact hr.1 ⟨hd, hn, hp⟩
theorem rdd_long {s : ByteArray} {r : Option Nat} (hr : rdd s.data.toList r) (h : 10 < s.size) : r = none := by
  refine hr.2 fun hh => ?_
  obtain ⟨h1, h2, h3⟩ := hh
  have hl : s.data.toList.length = s.size := by simp
  cases hs : s.data.toList with
  | nil => rw [hs] at hl; simp at hl; omega
  | cons c q =>
    rw [hs] at h1 h2 h3 hl
    simp only [List.length_cons] at hl
    have hc := h1 c (by simp)
    unfold dig at hc
    have h4 : ¬ (c.toNat = 48 ∧ q ≠ []) := h3
    have hq : q ≠ [] := by intro e; subst e; simp at hl; omega
    have h5 : c.toNat ≠ 48 := fun e => h4 ⟨e, hq⟩
    have h6 := val10_ge c q (by omega)
    have h7 : 10 ^ 10 ≤ 10 ^ q.length := Nat.pow_le_pow_right (by decide) (by omega)
    omega
theorem rdd_ex (l : List UInt8) : ∃ r, rdd l r := by
  by_cases h : (∀ c ∈ l, dig c) ∧ val10 l ≤ 1000000000 ∧ plainHead l
  · exact ⟨some (val10 l), fun _ => rfl, fun h' => absurd h h'⟩
  · exact ⟨none, fun h' => absurd h' h, fun _ => rfl⟩
theorem rdd_form {s : ByteArray} {k n : Nat} (h : DAt s k n) (hk : s.size ≤ k) (hl : s.size ≤ 10) : dec n = s.data.toList ↔ plainHead s.data.toList := by
  have e := take_all s k hk
  obtain ⟨hd, rfl⟩ := h
  rw [e] at hd ⊢
  have hl' : s.data.toList.length = s.size := by simp
  exact dec_val_iff _ hd (by omega)
/-- What is answered. -/
def ddVal (r : Option Nat) : Value := match r with
  | none => .tuple #[.int .i64 0, .bool false]
  | some n => .tuple #[.int .i64 n, .bool true]
theorem ddVal_none {r : Option Nat} (h : r = none) : ddVal r = .tuple #[.int .i64 0, .bool false] := by rw [h]; rfl
theorem ddVal_some {r : Option Nat} {n : Nat} (h : r = some n) : ddVal r = .tuple #[.int .i64 n, .bool true] := by rw [h]; rfl
theorem ddVal_form (r : Option Nat) : ∃ (a : Int) (b : Bool), ddVal r = .tuple #[.int .i64 a, .bool b] := by
  cases r with
  | none => exact ⟨_, _, rfl⟩
  | some n => exact ⟨_, _, rfl⟩
end Go.Proofs.YtipippblnbihcaaDoor.Kit
