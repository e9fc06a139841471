/- The laws of impl's SumMore and SumOf, walked: true at every sum and text, memory as it was. -/
import Derived.Test.YtbgnpbapalngjaaDoorSum
namespace Go.Proofs.YtbgnpbapalngjaaDoor
open Go.RowKit Kit
theorem lawMore (a0 : Int) (a1 : ByteArray) (w : World) (h0 : 0 ≤ a0) (h1 : a0 ≤ 4294967295) (ht : Tab w) :
    Calls Tryd.prog 4 #[.int .u32 a0, .string a1] w fun e w' => e = .returned (.bool true) ∧ Below w.heap.size w w' := by
  obtain ⟨s, rfl⟩ := Int.eq_ofNat_of_zero_le h0
  have HT := hide ht
  clear ht
  by_cases hz : a1.size ≤ 1048576
  · have b0 : decide ((1048576 : Int) < (a1.size : Int)) = false := by simp; omega
    go_enter Tryd.func4, Tryd.ntmps4
    go_wp2_with fail
    refine (specMore_any s a1 w (by omega) (by omega)).mono ?_
    rintro e w1 ⟨rfl, rfl⟩
    go_wp2_with fail
    refine (implMore_any s a1 w (by omega) (by omega) HT.out).mono ?_
    rintro e w1 ⟨rfl, rfl⟩
    go_wp2
    go_ret
    exact ⟨rfl, Below.refl _ _⟩
  · have b0 : decide ((1048576 : Int) < (a1.size : Int)) = true := by simp; omega
    go_enter Tryd.func4, Tryd.ntmps4
    go_wp2
    go_ret
    exact ⟨rfl, Below.refl _ _⟩
theorem lawOf (a0 : ByteArray) (w : World) (ht : Tab w) :
    Calls Tryd.prog 5 #[.string a0] w fun e w' => e = .returned (.bool true) ∧ Below w.heap.size w w' := by
  have HT := hide ht
  clear ht
  by_cases hz : a0.size ≤ 1048576
  · have b0 : decide ((1048576 : Int) < (a0.size : Int)) = false := by simp; omega
    go_enter Tryd.func5, Tryd.ntmps5
    go_wp2_with fail
    refine (specOf_any a0 w (by omega)).mono ?_
    rintro e w1 ⟨rfl, rfl⟩
    go_wp2_with fail
    refine (implOf_any a0 w (by omega) HT.out).mono ?_
    rintro e w1 ⟨rfl, rfl⟩
    go_wp2
    go_ret
    exact ⟨rfl, Below.refl _ _⟩
  · have b0 : decide ((1048576 : Int) < (a0.size : Int)) = true := by simp; omega
    go_enter Tryd.func5, Tryd.ntmps5
    go_wp2
    go_ret
    exact ⟨rfl, Below.refl _ _⟩
end Go.Proofs.YtbgnpbapalngjaaDoor
