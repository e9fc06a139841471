/- What is written is read back, in plain mathematics: numbers and texts in bytes, figures; no Go function is spoken of. -/
import Derived.Test.YtipippblnbihcaaDoorMath
import Derived.Lib.ItoaNum
namespace Go.Proofs.YtipippblnbihcaaDoor.Kit
open Go.RowKit
theorem hiB_nat (n : Nat) : (hiB n).toNat = n % 128 + 128 := by simp [hiB, UInt8.toNat_ofNat']; omega
theorem loB_nat (n : Nat) (h : n ≤ 127) : (loB n).toNat = n := by simp [loB, UInt8.toNat_ofNat']; omega
theorem rdF_back (f : Nat) : ∀ (g n k acc : Nat) (rest : List UInt8), n < 128 ^ (f + 1) → f < g → (0 < k → 0 < n) → acc + n * 128 ^ k ≤ 1000000000 → rdF g (vbF f n ++ rest) k acc = some (acc + n * 128 ^ k, k + (vbF f n).length) := by
  induction f with
  | zero =>
    intro g n k acc rest hn hg hk hb
    have hn' : n ≤ 127 := by have : n < 128 := by simpa using hn
                             omega
    cases g with
    | zero => omega
    | succ g =>
      simp only [vbF, List.singleton_append, rdF, List.length_singleton]
      rw [loB_nat n hn', if_neg (by omega), Nat.mod_eq_of_lt (by omega), if_neg (by omega)]
  | succ f ih =>
    intro g n k acc rest hn hg hk hb
    cases g with
    | zero => omega
    | succ g =>
      by_cases hbig : 127 < n
      · rw [vbF_big f n hbig]
        simp only [List.cons_append, rdF, List.length_cons]
        rw [hiB_nat, if_pos (by omega)]
        have e1 : (n % 128 + 128) % 128 = n % 128 := by omega
        have hn2 : n / 128 < 128 ^ (f + 1) := by rw [Nat.pow_succ] at hn; omega
        have hval : acc + (n % 128 + 128) % 128 * 128 ^ k + n / 128 * 128 ^ (k + 1) = acc + n * 128 ^ k := by
          rw [e1, Nat.pow_succ, Nat.add_assoc]
          congr 1
          rw [← Nat.mul_assoc, Nat.mul_right_comm, ← Nat.add_mul]
          congr 1
          omega
        rw [ih g (n / 128) (k + 1) _ rest hn2 (by omega) (fun _ => by omega) (by omega), hval]
        congr 2
        omega
      · rw [vbF_small (f + 1) n (by omega)]
        simp only [List.singleton_append, rdF, List.length_singleton]
        rw [loB_nat n (by omega), if_neg (by omega), Nat.mod_eq_of_lt (by omega), if_neg (by omega)]
theorem vbF_len5 (n : Nat) (h : n ≤ 1000000000) : vb n = vbF 4 n := by
  have key : ∀ (f g n : Nat), n < 128 ^ (f + 1) → f ≤ g → vbF g n = vbF f n := by
    intro f
    induction f with
    | zero =>
      intro g n hn _
      have : n < 128 := by simpa using hn
      rw [vbF_small g n (by omega), vbF_small 0 n (by omega)]
    | succ f ih =>
      intro g n hn hg
      cases g with
      | zero => omega
      | succ g =>
        by_cases hb : 127 < n
        · rw [vbF_big g n hb, vbF_big f n hb, ih g (n / 128) (by rw [Nat.pow_succ] at hn; omega) (by omega)]
        · rw [vbF_small _ n (by omega), vbF_small _ n (by omega)]
  exact key 4 9 n (by omega) (by omega)
theorem rd_back (s : ByteArray) (p n : Nat) (rest : List UInt8) (h : n ≤ 1000000000) (hs : s.data.toList.drop p = vb n ++ rest) : rd s p = some (n, (vb n).length) := by
  unfold rd
  rw [hs, vbF_len5 n h]
  have := rdF_back 4 5 n 0 0 rest (by omega) (by omega) (by omega) (by omega)
  simpa using this
theorem fv_figB : ∀ x < 16, fv (figB x).toNat = some x := by decide
theorem uhF_back (l : List UInt8) : uhF none (hexL l) = some l := by
  induction l with
  | nil => rfl
  | cons c r ih =>
    have hc : c.toNat < 256 := c.toNat_lt
    simp only [hexL, uhF, fv_figB _ (show c.toNat / 16 < 16 by omega), fv_figB _ (show c.toNat % 16 < 16 by omega), ih, Option.map_some]
    have : joinB (c.toNat / 16) (c.toNat % 16) = c := by
      unfold joinB
      rw [show 16 * (c.toNat / 16) + c.toNat % 16 = c.toNat by omega]
      simp
    rw [this]
theorem digit_of (u : Nat) (h : u < 10) : (UInt8.ofNat (48 + u)).toNat = 48 + u := by simp [UInt8.toNat_ofNat']; omega
theorem digits_val (n : Nat) : (∀ c ∈ Lib.decDigits n, dig c) ∧ val10 (Lib.decDigits n) = n ∧ plainHead (Lib.decDigits n) ∧ (0 < n → ∃ d r, Lib.decDigits n = d :: r ∧ 48 < d.toNat) := by
  induction n using Nat.strongRecOn with
  | _ n ih =>
    rw [Lib.decDigits]
    by_cases h : n < 10
    · rw [dif_pos h]
      have hd := digit_of n h
      refine ⟨?_, ?_, ?_, ?_⟩
      · intro c hc; rw [List.mem_singleton] at hc; subst hc; unfold dig; omega
      · have := val10_snoc [] (UInt8.ofNat (48 + n)); simp only [List.nil_append] at this; rw [this, hd]; simp [val10]
      · simp [plainHead]
      · intro hn; exact ⟨_, [], rfl, by omega⟩
    · rw [dif_neg h]
      obtain ⟨h1, h2, h3, h4⟩ := ih (n / 10) (by omega)
      have hd := digit_of (n % 10) (by omega)
      obtain ⟨d, r, e, hdd⟩ := h4 (by omega)
      refine ⟨?_, ?_, ?_, ?_⟩
      · intro c hc
        rcases List.mem_append.1 hc with h5 | h5
        · exact h1 c h5
        · rw [List.mem_singleton] at h5; subst h5; unfold dig; omega
      · rw [val10_snoc, h2, hd]; omega
      · rw [e]; show ¬ (d.toNat = 48 ∧ _); omega
      · intro _; exact ⟨d, r ++ [UInt8.ofNat (48 + n % 10)], by rw [e]; rfl, hdd⟩
theorem rdd_back (n : Nat) (h : n ≤ 1000000000) : rdd (Lib.itoa n) (some n) := by
  have e : Lib.itoa (n : Int) = Lib.decDigits n := by rw [Lib.itoa, if_neg (by omega), Int.toNat_natCast]
  rw [e]
  obtain ⟨h1, h2, h3, _⟩ := digits_val n
  exact ⟨fun _ => by rw [h2], fun hn => absurd ⟨h1, by omega, h3⟩ hn⟩
end Go.Proofs.YtipippblnbihcaaDoor.Kit
