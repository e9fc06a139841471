/- spec.l01Figure and spec.Decimal by their contracts: the decimal numeral of every int. -/
import Derived.Test.YtipippblnbihcalDoorRows
import Derived.Test.YtipippblnbihcalDoorKit
import Derived.Lib.ItoaNum
namespace Go.Proofs.YtipippblnbihcalDoor.Kit
open Go.RowKit
/-- The figures of a number, with fuel; none for 0. -/
def decF : Nat → Nat → List UInt8
  | 0, _ => []
  | f + 1, n => if n = 0 then [] else decF f (n / 10) ++ [figB (n % 10)]
theorem decF_zero (f : Nat) : decF f 0 = [] := by cases f <;> simp [decF]
theorem decF_pos (f n : Nat) (h : n ≠ 0) : decF (f + 1) n = decF f (n / 10) ++ [figB (n % 10)] := by simp [decF, h]
theorem figB_eq (x : Nat) (h : x < 10) : figB x = UInt8.ofNat (48 + x) := by simp [figB, h]
theorem decF_digits (f : Nat) : ∀ n, 0 < n → n < 10 ^ f → decF f n = Lib.decDigits n := by
  induction f with
  | zero => intro n h0 h1; simp at h1; omega
  | succ f ih =>
    intro n h0 h1
    rw [decF_pos f n (by omega), Lib.decDigits]
    by_cases h : n < 10
    · rw [dif_pos h, show n / 10 = 0 by omega, decF_zero, show n % 10 = n by omega, figB_eq n h]; rfl
    · rw [Nat.pow_succ] at h1
      rw [dif_neg h, ih (n / 10) (by omega) (by omega), figB_eq _ (by omega)]
theorem dec_step {n f m : Nat} {acc : List UInt8} (h : decF 20 n = decF (f + 1) m ++ acc) (hm : m ≠ 0) : decF 20 n = decF f (m / 10) ++ (figB (m % 10) :: acc) := by
  rw [h, decF_pos f m hm]; simp
theorem itoa_pos (n : Nat) (h : n ≠ 0) (h1 : n < 10 ^ 20) : Lib.itoa (n : Int) = decF 20 n := by
  rw [decF_digits 20 n (by omega) h1, Lib.itoa, if_neg (by omega), Int.toNat_natCast]
theorem itoa_neg (n : Nat) (h : n ≠ 0) (h1 : n < 10 ^ 20) : Lib.itoa (-(n : Int)) = 45 :: decF 20 n := by
  rw [decF_digits 20 n (by omega) h1, Lib.itoa, if_pos (by omega), Int.natAbs_neg, Int.natAbs_natCast]
/-- One byte as a string. -/
def oneB (b : UInt8) : ByteArray := ⟨#[b]⟩
theorem oneB_size (b : UInt8) : (oneB b).size = 1 := rfl
/-- Figures as a string. -/
def accB (l : List UInt8) : ByteArray := ⟨l.toArray⟩
theorem accB_cons (b : UInt8) (l : List UInt8) : oneB b ++ accB l = accB (b :: l) := by
  unfold oneB accB
  rw [show (⟨#[b]⟩ : ByteArray) = ⟨[b].toArray⟩ from rfl, ByteArray.mk_append_mk]
  simp
theorem accB_size (l : List UInt8) : (accB l).size = l.length := by simp [accB, ByteArray.size]
end Go.Proofs.YtipippblnbihcalDoor.Kit
namespace Go.Proofs.YtipippblnbihcalDoor
open Go.RowKit Kit
theorem figure_any (x : Nat) (w : World) (h : x < 16) :
    Calls Tryd.prog 12 #[.int .i64 x] w fun e w' => e = .returned (.int .u8 ((figB x).toNat : Int)) ∧ w = w' := by
  by_cases h1 : x < 10
  · have HV := hide (figB_lo x h1)
    go_enter Tryd.func12, Tryd.ntmps12
    go_wp2
    go_ret
    exact ⟨by rw [HV.out]; rfl, rfl⟩
  · have HV := hide (figB_hi x h1 h)
    go_enter Tryd.func12, Tryd.ntmps12
    go_wp2
    go_ret
    exact ⟨by rw [HV.out]; simp; omega, rfl⟩
theorem conv_one (b : UInt8) (W : World) : (convert 31 9 (.slice (some ⟨W.heap.size, 0, none⟩) 1 1)).run Tryd.prog (W.alloc (.cells #[.int .u8 (b.toNat : Int)] 5)) = .ok (.string (oneB b)) (W.alloc (.cells #[.int .u8 (b.toNat : Int)] 5)) :=
  conv_own (P := Tryd.prog) 31 9 5 Tryd.underlying31 Tryd.underlying5 Tryd.underlying9 (base := 0) (l := [b]) (World.ownsRow_lit W #[.int .u8 (b.toNat : Int)] 1 (Nat.zero_le _) (by unfold maxLen; omega) rfl)

set_option maxRecDepth 100000 in
set_option maxHeartbeats 800000 in
theorem decimal_pos (n : Nat) (w : World) (h0 : n ≠ 0) (h1 : n ≤ 9223372036854775807) :
    Calls Tryd.prog 5 #[.int .i64 n] w fun e w' => e = .returned (.string (accB (Lib.itoa n))) ∧ Below w.heap.size w w' := by
  have HD := hide (itoa_pos n h0 (by omega))
  have b0 : ((n : Int) == 0) = false := by simp; omega
  have b1 : decide ((n : Int) < 0) = false := by simp
  go_enter Tryd.func5, Tryd.ntmps5
  go_wp2
  go_loopw [0, 4] (fun x t wr => ∃ (f m : Nat) (acc : List UInt8), x = .int .i64 m ∧ m ≤ 9223372036854775807 ∧ m < 10 ^ f ∧ acc.length + f = 20 ∧ Hid (decF 20 n = decF f m ++ acc) ∧ t = .string (accB acc) ∧ Below w.heap.size w wr) (fun x _ _ => (intOf x).toNat)
  case atStart => exact ⟨20, n, [], rfl, h1, by omega, rfl, hide (by simp), rfl, Below.refl _ _⟩
  case round =>
    obtain ⟨f, m, acc, rfl, hm, hf, hl, HE, rfl, hb⟩ := hrel
    have hsz := hb.size
    have hz := accB_size acc
    have hz1 : (accB acc).size ≤ 20 := by omega
    clear hz
    by_cases hz : m = 0
    · have b2 : ((m : Int) != 0) = false := by simp; omega
      have e : Lib.itoa n = acc := by rw [HD.out, HE.out, hz, decF_zero]; rfl
      have HF := hide e
      clear e hz
      go_wp2
      go_ret
      exact ⟨by rw [HF.out]; rfl, hb⟩
    · have b2 : ((m : Int) != 0) = true := by simp; omega
      cases f with
      | zero => simp at hf; omega
      | succ f =>
      have HS := hide (dec_step HE.out hz)
      have HC := hide (accB_cons (figB (m % 10)) acc)
      obtain ⟨d, hd⟩ : ∃ d : Nat, (m : Int) % 10 = d := ⟨m % 10, by omega⟩
      have hd' : m % 10 = d := by omega
      rw [hd'] at HS HC
      have hd1 : d < 16 := by omega
      have hs1 := oneB_size (figB d)
      have hco := conv_one (figB d)
      clear hd'
      go_wp2_with (go_at_call 12; refine (figure_any _ _ ?_).mono ?_; assumption; rintro e w' ⟨rfl, rfl⟩)
      go_roundw
      case rel => exact ⟨f, m / 10, figB d :: acc, by go_num, by omega, by rw [Nat.pow_succ] at hf; omega, by simp; omega, HS, by rw [HC.out], hb.alloc hsz _⟩
      case measure => simp [intOf]; omega

theorem neg_rem {z : Int} {m : Nat} (h : z = -(m : Int)) : z.tmod 10 = -((m % 10 : Nat) : Int) := by
  subst h
  rw [Int.neg_tmod, Int.tmod_eq_emod_of_nonneg (by omega)]
  omega
theorem neg_quo {z : Int} {m : Nat} (h : z = -(m : Int)) : z.tdiv 10 = -((m / 10 : Nat) : Int) := by
  subst h
  rw [Int.neg_tdiv, Int.tdiv_eq_ediv_of_nonneg (by omega)]
  omega

set_option maxRecDepth 100000 in
set_option maxHeartbeats 800000 in
theorem decimal_neg (n : Nat) (N : Int) (w : World) (hN : N = -(n : Int)) (h0 : n ≠ 0) (h1 : n ≤ 9223372036854775808) :
    Calls Tryd.prog 5 #[.int .i64 N] w fun e w' => e = .returned (.string (accB (Lib.itoa N))) ∧ Below w.heap.size w w' := by
  have HD := hide (itoa_neg n h0 (by omega))
  have b0 : (N == 0) = false := by simp; omega
  have b1 : decide (N < 0) = true := by simp; omega
  have HN := hide hN
  have hN1 : N < 0 := by omega
  have hN2 : -9223372036854775808 ≤ N := by omega
  have m45 : (⟨#[45]⟩ : ByteArray) = oneB 45 := rfl
  clear hN
  go_enter Tryd.func5, Tryd.ntmps5
  go_wp2
  go_loopw [0, 4] (fun x t wr => ∃ (f m : Nat) (z : Int) (acc : List UInt8), x = .int .i64 z ∧ Hid (z = -(m : Int)) ∧ z ≤ 0 ∧ -9223372036854775808 ≤ z ∧ m < 10 ^ f ∧ acc.length + f = 20 ∧ Hid (decF 20 n = decF f m ++ acc) ∧ t = .string (accB acc) ∧ Below w.heap.size w wr) (fun x _ _ => (intOf x).natAbs)
  case atStart => exact ⟨20, n, N, [], rfl, HN, by omega, by omega, by omega, rfl, hide (by simp), rfl, Below.refl _ _⟩
  case round =>
    obtain ⟨f, m, z, acc, rfl, HZ, hz0, hz1, hf, hl, HE, rfl, hb⟩ := hrel
    have hsz := hb.size
    have hza := accB_size acc
    have hza1 : (accB acc).size ≤ 20 := by omega
    clear hza
    by_cases hz : m = 0
    · have b2 : (z != 0) = false := by have := HZ.out; simp; omega
      have e : Lib.itoa N = 45 :: acc := by rw [HN.out, HD.out, HE.out, hz, decF_zero]; rfl
      have HF := hide e
      have HC := hide (accB_cons 45 acc)
      have hs1 := oneB_size 45
      clear e hz
      go_wp2
      go_ret
      exact ⟨by rw [HF.out, ← HC.out]; rfl, hb⟩
    · have b2 : (z != 0) = true := by have := HZ.out; simp; omega
      cases f with
      | zero => simp at hf; omega
      | succ f =>
      have HS := hide (dec_step HE.out hz)
      have HC := hide (accB_cons (figB (m % 10)) acc)
      have t1 := neg_rem HZ.out
      have t2 := neg_quo HZ.out
      obtain ⟨d, hd⟩ : ∃ d : Nat, m % 10 = d := ⟨_, rfl⟩
      obtain ⟨q, hq⟩ : ∃ q : Nat, m / 10 = q := ⟨_, rfl⟩
      rw [hd] at HS HC t1
      rw [hq] at HS t2
      have hd1 : d < 16 := by omega
      have hq1 : (q : Int) ≤ 922337203685477580 := by have := HZ.out; omega
      have hq2 : q < 10 ^ f := by rw [Nat.pow_succ] at hf; omega
      have hqm : q < m := by omega
      have HQ := hide (And.intro hq2 hqm)
      have hs1 := oneB_size (figB d)
      have hco := conv_one (figB d)
      clear hd hq hq2 hqm hf
      by_cases hd0 : d = 0
      · subst hd0
        go_wp2_with (go_at_call 12; refine (figure_any _ _ ?_).mono ?_; assumption; rintro e w' ⟨rfl, rfl⟩)
        go_roundw
        case rel => exact ⟨f, q, -(q : Int), figB 0 :: acc, by go_num, hide rfl, by omega, by omega, HQ.out.1, by simp; omega, HS, by rw [HC.out], hb.alloc hsz _⟩
        case measure => have := HZ.out; have := HQ.out.2; simp [intOf]; omega
      · go_wp2_with (go_at_call 12; refine (figure_any _ _ ?_).mono ?_; assumption; rintro e w' ⟨rfl, rfl⟩)
        go_roundw
        case rel => exact ⟨f, q, -(q : Int), figB d :: acc, by go_num, hide rfl, by omega, by omega, HQ.out.1, by simp; omega, HS, by rw [HC.out], hb.alloc hsz _⟩
        case measure => have := HZ.out; have := HQ.out.2; simp [intOf]; omega
theorem decimal_any (n : Int) (w : World) (h0 : -9223372036854775808 ≤ n) (h1 : n ≤ 9223372036854775807) :
    Calls Tryd.prog 5 #[.int .i64 n] w fun e w' => e = .returned (.string (accB (Lib.itoa n))) ∧ Below w.heap.size w w' := by
  by_cases hz : n = 0
  · subst hz
    have hv : accB (Lib.itoa 0) = ⟨#[48]⟩ := by
      have : Lib.itoa 0 = [48] := by rw [Lib.itoa, if_neg (by decide), Lib.decDigits, dif_pos (by decide)]; rfl
      rw [this]; rfl
    have HV := hide hv
    clear hv
    go_enter Tryd.func5, Tryd.ntmps5
    go_wp2
    go_ret
    exact ⟨by rw [HV.out]; rfl, Below.refl _ _⟩
  · by_cases hneg : n < 0
    · exact decimal_neg n.natAbs n w (by omega) (by omega) (by omega)
    · obtain ⟨m, rfl⟩ := Int.eq_ofNat_of_zero_le (show 0 ≤ n by omega)
      exact decimal_pos m w (by omega) (by omega)
end Go.Proofs.YtipippblnbihcalDoor
