/- The walk of laws.FnUnits: it returns true at every code. -/
import Derived.Test.YtohmppcgbecifaaUo
import Derived.Test.YtohmppcgbecifaaPlaces
namespace Go.Proofs.Ytohmppcgbecifaa.fnUnits
open Go.RowKit Kit
theorem big_no (a : Option Addr) (len cap : Nat) (w : World) (h : len ≤ 1048576) : Calls Try.prog 8 #[.slice a len cap] w fun e w' => e = .returned (.bool false) ∧ w = w' := by
  have b0 : decide ((1048576 : Int) < (len : Int)) = false := by simp; omega
  go_enter Try.func8, Try.ntmps8
  go_wp2
  go_ret
  exact ⟨rfl, rfl⟩
theorem big_yes (a : Option Addr) (len cap : Nat) (w : World) (h : ¬ len ≤ 1048576) : Calls Try.prog 8 #[.slice a len cap] w fun e w' => e = .returned (.bool true) ∧ w = w' := by
  have b0 : decide ((1048576 : Int) < (len : Int)) = true := by simp; omega
  go_enter Try.func8, Try.ntmps8
  go_wp2
  go_ret
  exact ⟨rfl, rfl⟩
set_option maxHeartbeats 1600000 in
theorem walk (a : Option Addr) (len cap : Nat) (w : World) (hcode : CodeIs w a len) (_hl : len ≤ maxLen) :
    Calls Try.prog 3 #[.slice a len cap] w fun e w' => e = .returned (.bool true) ∧ Below w.heap.size w w' := by
  have HO := hide hcode
  clear hcode
  by_cases hlen : len ≤ 1048576
  · go_enter Try.func3, Try.ntmps3
    go_wp2_with fail
    refine (big_no a len cap w hlen).mono ?_
    rintro e w1 ⟨rfl, rfl⟩
    go_wp2_with fail
    refine (drawPlaces_any w a len cap HO.out hlen).mono ?_
    rintro e w1 ⟨v, rfl, ⟨g, cap1, x, y, z, t, rfl, hg, hx, hy, hz, ht, c0, c1, c2, c3⟩, B1⟩
    have HB1 := hide B1
    clear B1
    obtain ⟨i, hi, hi1, hi2⟩ : ∃ i : Int, 1 + (x : Int) % 8 = i ∧ 1 ≤ i ∧ i ≤ 8 := ⟨_, rfl, by omega, by omega⟩
    obtain ⟨k, hk, hk1, hk2⟩ : ∃ i : Int, 1 + (y : Int) % 8 = i ∧ 1 ≤ i ∧ i ≤ 8 := ⟨_, rfl, by omega, by omega⟩
    obtain ⟨p, hp, hp1, hp2⟩ : ∃ i : Int, 1 + (z : Int) % 16 = i ∧ 1 ≤ i ∧ i ≤ 16 := ⟨_, rfl, by omega, by omega⟩
    obtain ⟨q, hq, hq1, hq2⟩ : ∃ i : Int, 1 + (t : Int) % 16 = i ∧ 1 ≤ i ∧ i ≤ 16 := ⟨_, rfl, by omega, by omega⟩
    obtain ⟨C, hC, hC1, hC2⟩ : ∃ C : Int, (i - 1) / 2 = C ∧ 0 ≤ C ∧ C ≤ 3 := ⟨_, rfl, by omega, by omega⟩
    obtain ⟨D, hD, hD1, hD2⟩ : ∃ D : Int, (k - 1) / 2 = D ∧ 0 ≤ D ∧ D ≤ 3 := ⟨_, rfl, by omega, by omega⟩
    have C1 := hide (implIno_any i)
    have C2 := hide (implIno_any k)
    have C3 := hide (implIno_any 0)
    have C4 := hide (implBlk_any p)
    have C5 := hide (implBlk_any q)
    have C6 := hide (implBlk_any 17)
    rw [uIno_in hi1 hi2, hC] at C1
    rw [uIno_in hk1 hk2, hD] at C2
    rw [uIno_lo (by decide)] at C3
    rw [uBlk_in hp1 hp2] at C4
    rw [uBlk_in hq1 hq2] at C5
    rw [uBlk_hi (by decide)] at C6
    have e1 : (1 + C == 1 + D) = (C == D) := by rw [Bool.eq_iff_iff, beq_iff_eq, beq_iff_eq]; omega
    have e2 : (p + 4 == q + 4) = (p == q) := by rw [Bool.eq_iff_iff, beq_iff_eq, beq_iff_eq]; omega
    have HX := hide (And.intro hx (And.intro hy (And.intro hz ht)))
    clear hx hy hz ht
    go_wp2_with fail
    refine (C1.out _).mono ?_
    rintro e w2 ⟨rfl, rfl⟩
    go_wp2_with fail
    refine (C1.out _).mono ?_
    rintro e w3 ⟨rfl, rfl⟩
    go_wp2_with fail
    refine (C1.out _).mono ?_
    rintro e w4 ⟨rfl, rfl⟩
    go_wp2_with fail
    refine (C2.out _).mono ?_
    rintro e w5 ⟨rfl, rfl⟩
    go_wp2_with fail
    refine (C4.out _).mono ?_
    rintro e w6 ⟨rfl, rfl⟩
    go_wp2_with fail
    refine (C4.out _).mono ?_
    rintro e w7 ⟨rfl, rfl⟩
    go_wp2_with fail
    refine (C4.out _).mono ?_
    rintro e w8 ⟨rfl, rfl⟩
    go_wp2_with fail
    refine (C5.out _).mono ?_
    rintro e w9 ⟨rfl, rfl⟩
    go_wp2_with fail
    refine (C3.out _).mono ?_
    rintro e w10 ⟨rfl, rfl⟩
    go_wp2_with fail
    refine (C6.out _).mono ?_
    rintro e w11 ⟨rfl, rfl⟩
    go_wp2
    go_ret
    exact ⟨rfl, HB1.out⟩
  · go_enter Try.func3, Try.ntmps3
    go_wp2_with fail
    refine (big_yes a len cap w hlen).mono ?_
    rintro e w1 ⟨rfl, rfl⟩
    go_wp2
    go_ret
    exact ⟨rfl, Below.refl _ _⟩
end Go.Proofs.Ytohmppcgbecifaa.fnUnits
