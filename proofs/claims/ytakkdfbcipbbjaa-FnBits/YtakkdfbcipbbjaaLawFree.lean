/- The walk of laws.FnFree: it returns true at every code. -/
import Derived.Test.YtakkdfbcipbbjaaFf
import Derived.Test.YtakkdfbcipbbjaaDrawF
namespace Go.Proofs.Ytakkdfbcipbbjaa
open Go.RowKit Kit
theorem big_no (a : Option Addr) (len cap : Nat) (w : World) (h : len ≤ 1048576) : Calls Try.prog 9 #[.slice a len cap] w fun e w' => e = .returned (.bool false) ∧ w = w' := by
  have b0 : decide ((1048576 : Int) < (len : Int)) = false := by simp; omega
  go_enter Try.func9, Try.ntmps9
  go_wp2
  go_ret
  exact ⟨rfl, rfl⟩
theorem big_yes (a : Option Addr) (len cap : Nat) (w : World) (h : ¬ len ≤ 1048576) : Calls Try.prog 9 #[.slice a len cap] w fun e w' => e = .returned (.bool true) ∧ w = w' := by
  have b0 : decide ((1048576 : Int) < (len : Int)) = true := by simp; omega
  go_enter Try.func9, Try.ntmps9
  go_wp2
  go_ret
  exact ⟨rfl, rfl⟩
end Go.Proofs.Ytakkdfbcipbbjaa
namespace Go.Proofs.Ytakkdfbcipbbjaa.fnFree
open Go.RowKit Kit
theorem two_lit (w : World) : RFl (w.alloc (.cells #[.bool true, .bool false] 4)) (.slice (some ⟨w.heap.size, 0, none⟩) 2 2) [true, false] := by
  have := ROwns.lit w w.heap.size 4 #[.bool true, .bool false] (Nat.le_refl _) (by simp [maxLen])
  exact ROwns.rfl (xs := [true, false]) this

set_option maxRecDepth 100000 in
set_option maxHeartbeats 3200000 in
theorem walk (a : Option Addr) (len cap : Nat) (w : World) (hcode : CodeIs w a len) (_hl : len ≤ maxLen) :
    Calls Try.prog 4 #[.slice a len cap] w fun e w' => e = .returned (.bool true) ∧ Below w.heap.size w w' := by
  have HO := hide hcode
  clear hcode
  by_cases hlen : len ≤ 1048576
  · go_enter Try.func4, Try.ntmps4
    go_wp2_with fail
    refine (big_no a len cap w hlen).mono ?_
    rintro e w1 ⟨rfl, rfl⟩
    go_wp2_with fail
    refine (drawF_any w a len cap HO.out hlen).mono ?_
    rintro e w1 ⟨v, xs, rfl, O1, hx, B1⟩
    have HR := hide O1.rfl
    have HB := hide B1
    obtain ⟨s1, t1, rfl⟩ := O1.rfl.form
    clear O1 B1
    go_wp2_with fail
    refine (firstFree_any _ xs w1 HR.out (by omega)).mono ?_
    rintro e w2 ⟨rfl, rfl⟩
    have HF := hide (ff_or xs)
    have hle := ff_le xs
    generalize ff xs = n at *
    have n0 : (0 : Int) ≤ (n : Int) := by omega
    have n1 : (n : Int) ≤ (xs.length : Int) := by omega
    go_wp2
    go_loopw [5] (fun i wr => ∃ j : Nat, j ≤ xs.length ∧ i = .int .i64 j ∧ w1 = wr) (fun i _ => xs.length - (intOf i).toNat)
    case atStart => exact ⟨0, Nat.zero_le _, rfl, rfl⟩
    case round =>
      obtain ⟨j, hj, rfl, rfl⟩ := hrel
      by_cases hlt : j < xs.length
      · obtain ⟨aa, cc, eaa, hcc⟩ := HR.out
        simp only [Value.slice.injEq] at eaa
        obtain ⟨rfl, -, rfl⟩ := eaa
        obtain ⟨g, off, rfl, _, k1⟩ := hcc j hlt
        have j0 : (0 : Int) ≤ (j : Int) := by omega
        have j1 : (j : Int) < (xs.length : Int) := by omega
        clear hcc
        rcases HF.out with ⟨e, h⟩ | ⟨k, hk, e, h1, h2⟩
        · rw [h j hlt] at k1
          subst e
          clear h
          have q1 : ((0 : Int) == (j : Int) + 1) = false := by simp; omega
          go_wp2
          go_roundw
          case rel => exact ⟨j + 1, by omega, by go_num, trivial⟩
          case measure => simp [intOf]; omega
        · have q0 : ((n : Int) == 0) = false := by simp; omega
          have q1 : (0 : Int) < (n : Int) := by omega
          by_cases c1 : j < k
          · rw [h2 j c1] at k1
            have q2 : (j : Int) < (n : Int) - 1 := by omega
            have q3 : ((n : Int) == (j : Int) + 1) = false := by simp; omega
            clear h1 h2 e c1
            go_wp2
            go_roundw
            case rel => exact ⟨j + 1, by omega, by go_num, trivial⟩
            case measure => simp [intOf]; omega
          · have q2 : ¬ (j : Int) < (n : Int) - 1 := by omega
            by_cases c2 : j = k
            · subst c2
              rw [h1] at k1
              have q3 : ((n : Int) == (j : Int) + 1) = true := by simp; omega
              clear h1 h2 e c1
              go_wp2
              go_roundw
              case rel => exact ⟨j + 1, by omega, by go_num, trivial⟩
              case measure => simp [intOf]; omega
            · have q3 : ((n : Int) == (j : Int) + 1) = false := by simp; omega
              clear h1 h2 e c1 c2
              go_wp2
              go_roundw
              case rel => exact ⟨j + 1, by omega, by go_num, trivial⟩
              case measure => simp [intOf]; omega
      · go_wp2_with fail
        refine (firstFree_any _ [true, false] _ (two_lit w1) (by decide)).mono ?_
        rintro e w3 ⟨rfl, rfl⟩
        rw [show ff [true, false] = 2 from rfl]
        have HZ := hide (HB.out.alloc HB.out.size (.cells #[.bool true, .bool false] 4))
        go_wp2
        go_ret
        exact ⟨rfl, HZ.out⟩
  · go_enter Try.func4, Try.ntmps4
    go_wp2_with fail
    refine (big_yes a len cap w hlen).mono ?_
    rintro e w1 ⟨rfl, rfl⟩
    go_wp2
    go_ret
    exact ⟨rfl, Below.refl _ _⟩
end Go.Proofs.Ytakkdfbcipbbjaa.fnFree
