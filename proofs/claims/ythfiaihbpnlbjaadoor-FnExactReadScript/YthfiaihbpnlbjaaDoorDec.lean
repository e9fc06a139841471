/- Plain facts on decimal figures; no Go function is spoken of. -/
import Derived.Test.YthfiaihbpnlbjaaDoorKit
namespace Go.Proofs.YthfiaihbpnlbjaaDoor.Kit
open Go.RowKit

/-- The figures of a number, with fuel; none for 0. -/
def decF : Nat → Nat → List UInt8
  | 0, _ => []
  | f + 1, n => if n = 0 then [] else decF f (n / 10) ++ [figB (n % 10)]
/-- The figures of a number. -/
def dec (n : Nat) : List UInt8 := if n = 0 then [48] else decF 20 n
theorem decF_zero (f : Nat) : decF f 0 = [] := by cases f <;> simp [decF]
theorem decF_pos (f n : Nat) (h : n ≠ 0) : decF (f + 1) n = decF f (n / 10) ++ [figB (n % 10)] := by simp [decF, h]
theorem decF_len (f n : Nat) : (decF f n).length ≤ f := by
  induction f generalizing n with
  | zero => simp [decF]
  | succ f ih =>
    by_cases h : n = 0
    · subst h; simp [decF]
    · rw [decF_pos f n h]; have := ih (n / 10); simp; omega
/-- The number that figures tell. -/
def val10 (l : List UInt8) : Nat := l.foldl (fun n c => 10 * n + (c.toNat - 48)) 0
theorem val10_snoc (l : List UInt8) (c : UInt8) : val10 (l ++ [c]) = 10 * val10 l + (c.toNat - 48) := by simp [val10]
def dig (c : UInt8) : Prop := 48 ≤ c.toNat ∧ c.toNat ≤ 57
theorem fig_of {c : UInt8} (h : dig c) : figB (c.toNat - 48) = c := by
  obtain ⟨h1, h2⟩ := h
  unfold figB
  rw [if_pos (by omega), show 48 + (c.toNat - 48) = c.toNat by omega]
  simp
theorem val10_mono (a b : List UInt8) : val10 a ≤ val10 (a ++ b) := by
  induction b generalizing a with
  | nil => simp
  | cons c r ih =>
    have h1 := ih (a ++ [c])
    have h2 := val10_snoc a c
    rw [List.append_assoc] at h1
    simp only [List.singleton_append] at h1
    omega
theorem val10_lt (l : List UInt8) (h : ∀ c ∈ l, dig c) : val10 l < 10 ^ l.length := by
  have key : ∀ r : List UInt8, (∀ c ∈ r, dig c) → val10 r.reverse < 10 ^ r.length := by
    intro r
    induction r with
    | nil => intro _; simp [val10]
    | cons c r ih =>
      intro hr
      have h1 := ih (fun x hx => hr x (by simp [hx]))
      have h2 := hr c (by simp)
      unfold dig at h2
      rw [List.reverse_cons, val10_snoc, List.length_cons, Nat.pow_succ]
      omega
  have := key l.reverse (fun c hc => h c (by simpa using hc))
  simpa using this
theorem val10_ge (c : UInt8) (r : List UInt8) (hc : 48 < c.toNat) : 10 ^ r.length ≤ val10 (c :: r) := by
  have key : ∀ q : List UInt8, 10 ^ q.length ≤ val10 (c :: q.reverse) := by
    intro q
    induction q with
    | nil => simp [val10]; omega
    | cons d q ih =>
      have e : c :: (d :: q).reverse = (c :: q.reverse) ++ [d] := by simp
      rw [e, val10_snoc, List.length_cons, Nat.pow_succ]
      omega
  have := key r.reverse
  simpa using this
/-- No nought ahead of another figure, and not empty. -/
def plainHead : List UInt8 → Prop
  | [] => False
  | c :: r => ¬ (c.toNat = 48 ∧ r ≠ [])
theorem decF_head (f : Nat) : ∀ n, 0 < n → n < 10 ^ f → ∃ d r, decF f n = d :: r ∧ 48 < d.toNat := by
  induction f with
  | zero => intro n h0 h1; simp at h1; omega
  | succ f ih =>
    intro n h0 h1
    rw [decF_pos f n (by omega)]
    by_cases h : n / 10 = 0
    · rw [h, decF_zero]
      refine ⟨figB (n % 10), [], rfl, ?_⟩
      have := figB_lo (n % 10) (by omega)
      omega
    · rw [Nat.pow_succ] at h1
      obtain ⟨d, r, e, hd⟩ := ih (n / 10) (by omega) (by omega)
      exact ⟨d, r ++ [figB (n % 10)], by rw [e]; rfl, hd⟩
theorem decF_val (q : List UInt8) : ∀ f, (∀ c ∈ q, dig c) → q.length ≤ f → (∀ c r, q.reverse = c :: r → 48 < c.toNat) → decF f (val10 q.reverse) = q.reverse := by
  induction q with
  | nil => intro f _ _ _; simp [val10, decF_zero]
  | cons c q ih =>
    intro f hd hl hh
    cases f with
    | zero => simp at hl
    | succ f =>
      have hc := hd c (by simp)
      have hc' := hc
      unfold dig at hc'
      have hpos : val10 (c :: q).reverse ≠ 0 := by
        cases hrev : (c :: q).reverse with
        | nil => simp at hrev
        | cons x r =>
          have := val10_ge x r (hh x r hrev)
          have h1 : 0 < 10 ^ r.length := Nat.pow_pos (by decide)
          omega
      rw [List.reverse_cons] at *
      rw [decF_pos f _ hpos]
      have e : val10 (q.reverse ++ [c]) = 10 * val10 q.reverse + (c.toNat - 48) := val10_snoc _ _
      rw [e, show (10 * val10 q.reverse + (c.toNat - 48)) / 10 = val10 q.reverse by omega, show (10 * val10 q.reverse + (c.toNat - 48)) % 10 = c.toNat - 48 by omega, fig_of hc,
        ih f (fun x hx => hd x (by simp [hx])) (by simpa using hl) (fun x r hr => hh x (r ++ [c]) (by rw [hr]; rfl))]
/-- Just the shortest figures are a number's own. -/
theorem dec_val_iff (l : List UInt8) (hd : ∀ c ∈ l, dig c) (hl : l.length ≤ 20) : dec (val10 l) = l ↔ plainHead l := by
  cases l with
  | nil => simp [plainHead, val10, dec]
  | cons c r =>
    have hc := hd c (by simp)
    have hc' := hc
    unfold dig at hc'
    constructor
    · rintro h ⟨h48, hr⟩
      by_cases h0 : val10 (c :: r) = 0
      · rw [h0] at h
        simp [dec] at h
        exact hr h.2
      · have hlt := val10_lt (c :: r) hd
        have hle : 10 ^ (c :: r).length ≤ 10 ^ 20 := Nat.pow_le_pow_right (by decide) hl
        obtain ⟨d, q, e, hdd⟩ := decF_head 20 (val10 (c :: r)) (by omega) (by omega)
        simp only [dec, h0, if_false] at h
        rw [e] at h
        simp only [List.cons.injEq] at h
        rw [h.1] at hdd
        omega
    · intro h
      by_cases h48 : c.toNat = 48
      · have hr : r = [] := Classical.byContradiction fun hr => h ⟨h48, hr⟩
        subst hr
        have : c = 48 := UInt8.toNat_inj.1 h48
        subst this
        rfl
      · have hpos : val10 (c :: r) ≠ 0 := by
          have := val10_ge c r (by omega)
          have h1 : 0 < 10 ^ r.length := Nat.pow_pos (by decide)
          omega
        simp only [dec, hpos, if_false]
        have := decF_val (c :: r).reverse 20 (fun x hx => hd x (List.mem_reverse.1 hx)) (by simpa using hl) (fun x q hx => by simp only [List.reverse_reverse, List.cons.injEq] at hx; rw [← hx.1]; omega)
        simpa using this

/-- What is read of figures. -/
def rdd (l : List UInt8) (r : Option Nat) : Prop :=
  ((∀ c ∈ l, dig c) ∧ val10 l ≤ 1000000000 ∧ plainHead l → r = some (val10 l)) ∧ (¬ ((∀ c ∈ l, dig c) ∧ val10 l ≤ 1000000000 ∧ plainHead l) → r = none)
/-- k figures were read and tell n. -/
def DAt (s : ByteArray) (k n : Nat) : Prop := (∀ c ∈ s.data.toList.take k, dig c) ∧ n = val10 (s.data.toList.take k)
theorem DAt.start (s : ByteArray) : DAt s 0 0 := ⟨by simp, by simp [val10]⟩
theorem DAt.next {s : ByteArray} {k n c : Nat} (h : DAt s k n) (hk : k < s.size) (hc : (s[k]).toNat = c) (h1 : 48 ≤ c) (h2 : c ≤ 57) : DAt s (k + 1) (10 * n + (c - 48)) := by
  obtain ⟨hd, rfl⟩ := h
  refine ⟨?_, ?_⟩
  · rw [take_snoc s k hk]
    intro x hx
    rcases List.mem_append.1 hx with h | h
    · exact hd x h
    · simp at h; subst h; unfold dig; omega
  · rw [take_snoc s k hk, val10_snoc, hc]
theorem DAt.lt {s : ByteArray} {k n : Nat} (h : DAt s k n) (hk : k ≤ 10) : n < 10000000000 := by
  obtain ⟨hd, rfl⟩ := h
  have h1 := val10_lt _ hd
  have h2 : 10 ^ (s.data.toList.take k).length ≤ 10 ^ 10 := Nat.pow_le_pow_right (by decide) (by rw [List.length_take]; omega)
  omega
theorem get_mem (s : ByteArray) (k : Nat) (hk : k < s.size) : s[k] ∈ s.data.toList := by
  have h2 : k < s.data.toList.length := by simpa using hk
  have : s.data.toList[k] = s[k] := rfl
  rw [← this]
  exact List.getElem_mem h2
theorem rdd_nodig {s : ByteArray} {k c : Nat} {r : Option Nat} (hr : rdd s.data.toList r) (hk : k < s.size) (hc : (s[k]).toNat = c) (h : ¬ (48 ≤ c ∧ c ≤ 57)) : r = none := by
  refine hr.2 fun hh => ?_
  have := hh.1 s[k] (get_mem s k hk)
  unfold dig at this
  omega
theorem rdd_big {s : ByteArray} {k n : Nat} {r : Option Nat} (hr : rdd s.data.toList r) (h : DAt s k n) (hn : 1000000000 < n) : r = none := by
  refine hr.2 fun hh => ?_
  have h1 := val10_mono (s.data.toList.take k) (s.data.toList.drop k)
  rw [List.take_append_drop] at h1
  have := h.2
  omega
theorem rdd_head {s : ByteArray} {r : Option Nat} (hr : rdd s.data.toList r) (h : ¬ plainHead s.data.toList) : r = none := hr.2 fun hh => h hh.2.2
theorem rdd_good {s : ByteArray} {k n : Nat} {r : Option Nat} (hr : rdd s.data.toList r) (h : DAt s k n) (hk : s.size ≤ k) (hn : n ≤ 1000000000) (hp : plainHead s.data.toList) : r = some n := by
  have e := take_all s k hk
  obtain ⟨hd, rfl⟩ := h
  rw [e] at hd hn ⊢
  exact hr.1 ⟨hd, hn, hp⟩
theorem rdd_long {s : ByteArray} {r : Option Nat} (hr : rdd s.data.toList r) (h : 10 < s.size) : r = none := by
  refine hr.2 fun hh => ?_
  obtain ⟨h1, h2, h3⟩ := hh
  have hl : s.data.toList.length = s.size := by simp
  cases hs : s.data.toList with
  | nil => rw [hs] at hl; simp at hl; omega
  | cons c q =>
    rw [hs] at h1 h2 h3 hl
    simp only [List.length_cons] at hl
    have hc := h1 c (by simp)
    unfold dig at hc
    have h4 : ¬ (c.toNat = 48 ∧ q ≠ []) := h3
    have hq : q ≠ [] := by intro e; subst e; simp at hl; omega
    have h5 : c.toNat ≠ 48 := fun e => h4 ⟨e, hq⟩
    have h6 := val10_ge c q (by omega)
    have h7 : 10 ^ 10 ≤ 10 ^ q.length := Nat.pow_le_pow_right (by decide) (by omega)
    omega
theorem rdd_ex (l : List UInt8) : ∃ r, rdd l r := by
  by_cases h : (∀ c ∈ l, dig c) ∧ val10 l ≤ 1000000000 ∧ plainHead l
  · exact ⟨some (val10 l), fun _ => rfl, fun h' => absurd h h'⟩
  · exact ⟨none, fun h' => absurd h' h, fun _ => rfl⟩
theorem rdd_form {s : ByteArray} {k n : Nat} (h : DAt s k n) (hk : s.size ≤ k) (hl : s.size ≤ 10) : dec n = s.data.toList ↔ plainHead s.data.toList := by
  have e := take_all s k hk
  obtain ⟨hd, rfl⟩ := h
  rw [e] at hd ⊢
  have hl' : s.data.toList.length = s.size := by simp
  exact dec_val_iff _ hd (by omega)
/-- What is answered. -/
def ddVal (r : Option Nat) : Value := match r with
  | none => .tuple #[.int .i64 0, .bool false]
  | some n => .tuple #[.int .i64 n, .bool true]
theorem ddVal_none {r : Option Nat} (h : r = none) : ddVal r = .tuple #[.int .i64 0, .bool false] := by rw [h]; rfl
theorem ddVal_some {r : Option Nat} {n : Nat} (h : r = some n) : ddVal r = .tuple #[.int .i64 n, .bool true] := by rw [h]; rfl
theorem ddVal_form (r : Option Nat) : ∃ (a : Int) (b : Bool), ddVal r = .tuple #[.int .i64 a, .bool b] := by
  cases r with
  | none => exact ⟨_, _, rfl⟩
  | some n => exact ⟨_, _, rfl⟩
end Go.Proofs.YthfiaihbpnlbjaaDoor.Kit
