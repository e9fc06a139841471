/- spec.l01In, and both UnitOfIno and UnitOfBlock by their contracts. -/
import Derived.Test.YtohmppcgbecifaaRows
import Derived.Test.YtohmppcgbecifaaKitB
namespace Go.Proofs.Ytohmppcgbecifaa.Kit
open Go.RowKit
/-- The unit of an inode. -/
def uIno (x : Int) : Int := if 1 ≤ x ∧ x ≤ 8 then 1 + (x - 1) / 2 else -1
/-- The unit of a block. -/
def uBlk (x : Int) : Int := if 1 ≤ x ∧ x ≤ 16 then x + 4 else -1
theorem uIno_in {x : Int} (h : 1 ≤ x) (h2 : x ≤ 8) : uIno x = 1 + (x - 1) / 2 := by simp [uIno, h, h2]
theorem uIno_lo {x : Int} (h : ¬ 1 ≤ x) : uIno x = -1 := by simp [uIno, h]
theorem uIno_hi {x : Int} (h2 : ¬ x ≤ 8) : uIno x = -1 := by simp [uIno, h2]
theorem uBlk_in {x : Int} (h : 1 ≤ x) (h2 : x ≤ 16) : uBlk x = x + 4 := by simp [uBlk, h, h2]
theorem uBlk_lo {x : Int} (h : ¬ 1 ≤ x) : uBlk x = -1 := by simp [uBlk, h]
theorem uBlk_hi {x : Int} (h2 : ¬ x ≤ 16) : uBlk x = -1 := by simp [uBlk, h2]
end Go.Proofs.Ytohmppcgbecifaa.Kit
namespace Go.Proofs.Ytohmppcgbecifaa
open Go.RowKit Kit
theorem implIno_any (x : Int) (w : World) : Calls Try.prog 10 #[.int .i64 x] w fun e w' => e = .returned (.int .i64 (uIno x)) ∧ w = w' := by
  by_cases h1 : 1 ≤ x
  · by_cases h2 : x ≤ 8
    · rw [uIno_in h1 h2]
      go_enter Try.func10, Try.ntmps10
      go_wp2
      go_ret
      exact ⟨by go_num, rfl⟩
    · rw [uIno_hi h2]
      go_enter Try.func10, Try.ntmps10
      go_wp2
      go_ret
      exact ⟨rfl, rfl⟩
  · rw [uIno_lo h1]
    go_enter Try.func10, Try.ntmps10
    go_wp2
    go_ret
    exact ⟨rfl, rfl⟩
theorem implBlk_any (x : Int) (w : World) : Calls Try.prog 11 #[.int .i64 x] w fun e w' => e = .returned (.int .i64 (uBlk x)) ∧ w = w' := by
  by_cases h1 : 1 ≤ x
  · by_cases h2 : x ≤ 16
    · rw [uBlk_in h1 h2]
      go_enter Try.func11, Try.ntmps11
      go_wp2
      go_ret
      exact ⟨by go_num, rfl⟩
    · rw [uBlk_hi h2]
      go_enter Try.func11, Try.ntmps11
      go_wp2
      go_ret
      exact ⟨rfl, rfl⟩
  · rw [uBlk_lo h1]
    go_enter Try.func11, Try.ntmps11
    go_wp2
    go_ret
    exact ⟨rfl, rfl⟩
theorem specIno_any (x : Int) (w : World) : Calls Try.prog 17 #[.int .i64 x] w fun e w' => e = .returned (.int .i64 (uIno x)) ∧ w = w' := by
  by_cases h1 : 1 ≤ x
  · by_cases h2 : x ≤ 8
    · rw [uIno_in h1 h2]
      go_enter Try.func17, Try.ntmps17
      go_wp2
      go_ret
      exact ⟨by go_num, rfl⟩
    · rw [uIno_hi h2]
      go_enter Try.func17, Try.ntmps17
      go_wp2
      go_ret
      exact ⟨rfl, rfl⟩
  · rw [uIno_lo h1]
    go_enter Try.func17, Try.ntmps17
    go_wp2
    go_ret
    exact ⟨rfl, rfl⟩
theorem specBlk_any (x : Int) (w : World) : Calls Try.prog 18 #[.int .i64 x] w fun e w' => e = .returned (.int .i64 (uBlk x)) ∧ w = w' := by
  by_cases h1 : 1 ≤ x
  · by_cases h2 : x ≤ 16
    · rw [uBlk_in h1 h2]
      go_enter Try.func18, Try.ntmps18
      go_wp2
      go_ret
      exact ⟨by go_num, rfl⟩
    · rw [uBlk_hi h2]
      go_enter Try.func18, Try.ntmps18
      go_wp2
      go_ret
      exact ⟨rfl, rfl⟩
  · rw [uBlk_lo h1]
    go_enter Try.func18, Try.ntmps18
    go_wp2
    go_ret
    exact ⟨rfl, rfl⟩
end Go.Proofs.Ytohmppcgbecifaa
namespace Go.Proofs.Ytohmppcgbecifaa.fnExactUnitOfIno
open Go.RowKit Kit
theorem walk (x : Int) (_w0 : (Lit.int .i64 x).wf = true) (w : World) : Calls Try.prog 5 #[.int .i64 x] w fun e w' => e = .returned (.bool true) ∧ Below w.heap.size w w' := by
  obtain ⟨r, hr⟩ : ∃ r, uIno x = r := ⟨_, rfl⟩
  have C1 := hide (specIno_any x w)
  have C2 := hide (implIno_any x w)
  rw [hr] at C1 C2
  clear hr
  go_enter Try.func5, Try.ntmps5
  go_wp2_with fail
  refine C1.out.mono ?_
  rintro e w1 ⟨rfl, rfl⟩
  go_wp2_with fail
  refine C2.out.mono ?_
  rintro e w1 ⟨rfl, rfl⟩
  go_wp2
  go_ret
  exact ⟨rfl, Below.refl _ _⟩
end Go.Proofs.Ytohmppcgbecifaa.fnExactUnitOfIno
namespace Go.Proofs.Ytohmppcgbecifaa.fnExactUnitOfBlock
open Go.RowKit Kit
theorem walk (x : Int) (_w0 : (Lit.int .i64 x).wf = true) (w : World) : Calls Try.prog 6 #[.int .i64 x] w fun e w' => e = .returned (.bool true) ∧ Below w.heap.size w w' := by
  obtain ⟨r, hr⟩ : ∃ r, uBlk x = r := ⟨_, rfl⟩
  have C1 := hide (specBlk_any x w)
  have C2 := hide (implBlk_any x w)
  rw [hr] at C1 C2
  clear hr
  go_enter Try.func6, Try.ntmps6
  go_wp2_with fail
  refine C1.out.mono ?_
  rintro e w1 ⟨rfl, rfl⟩
  go_wp2_with fail
  refine C2.out.mono ?_
  rintro e w1 ⟨rfl, rfl⟩
  go_wp2
  go_ret
  exact ⟨rfl, Below.refl _ _⟩
end Go.Proofs.Ytohmppcgbecifaa.fnExactUnitOfBlock
