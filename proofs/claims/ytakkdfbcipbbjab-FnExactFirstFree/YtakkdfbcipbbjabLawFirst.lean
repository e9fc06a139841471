/- The walk of laws.FnExactFirstFree: it returns true at every list. -/
import Derived.Test.YtakkdfbcipbbjabIn
namespace Go.Proofs.Ytakkdfbcipbbjab.fnExactFirstFree
open Go.RowKit Kit

set_option maxHeartbeats 1600000 in
theorem walk (v : Value) (xs : List Bool) (w : World) (hv : RFl w v xs) (hlen : xs.length ≤ maxLen) :
    Calls Try.prog 3 #[v] w fun e w' => e = .returned (.bool true) ∧ Below w.heap.size w w' := by
  have HV := hide hv
  obtain ⟨a, c, rfl, -⟩ := hv
  by_cases h2 : 1048576 < xs.length
  · have h3 : xs.length ≤ 9223372036854775807 := hlen
    go_enter Try.func3, Try.ntmps3
    go_wp2
    go_ret
    exact ⟨rfl, Below.refl _ _⟩
  have hn : xs.length ≤ 1048576 := by omega
  have CT := hide (fun (v : Value) (w : World) (hv : RFl w v xs) => toB_any v xs w hv hn)
  have C1 := hide (fun (v : Value) (w : World) (hv : RFl w v xs) => specFree_any v xs w hv hn)
  have C2 := hide (fun (v : Value) (w : World) (hv : RFl w v xs) => firstFree_any v xs w hv hn)
  obtain ⟨n, hnn⟩ : ∃ n, ff xs = n := ⟨_, rfl⟩
  rw [hnn] at C1 C2
  clear hnn hlen
  go_enter Try.func3, Try.ntmps3
  go_wp2_with fail
  refine (CT.out _ w HV.out).mono ?_
  rintro e w1 ⟨u1, rfl, O1, B1⟩
  have HR := hide O1.rfl
  obtain ⟨s1, t1, rfl⟩ := O1.rfl.form
  have HB := hide B1
  clear O1 B1
  go_wp2_with fail
  refine (C1.out _ w1 HR.out).mono ?_
  rintro e w2 ⟨rfl, rfl⟩
  go_wp2_with fail
  refine (CT.out _ w1 (HV.out.below HB.out (Nat.le_refl _))).mono ?_
  rintro e w3 ⟨u3, rfl, O3, B3⟩
  have HR3 := hide O3.rfl
  obtain ⟨s3, t3, rfl⟩ := O3.rfl.form
  have HB3 := hide (HB.out.trans (B3.mono HB.out.size))
  clear O3 B3 HR
  go_wp2_with fail
  refine (C2.out _ w3 HR3.out).mono ?_
  rintro e w4 ⟨rfl, rfl⟩
  go_wp2_with fail
  refine (CT.out _ w3 (HV.out.below HB3.out (Nat.le_refl _))).mono ?_
  rintro e w5 ⟨u5, rfl, O5, B5⟩
  have HR5 := hide (And.intro O5.rfl (HR3.out.below B5 (Nat.le_refl _)))
  obtain ⟨s5, t5, rfl⟩ := O5.rfl.form
  have HB5 := hide (HB3.out.trans (B5.mono HB3.out.size))
  clear O5 B5 HR3
  go_wp2_with fail
  refine (eqB_same _ _ xs w5 HR5.out.2 HR5.out.1 (by omega)).mono ?_
  rintro e w6 ⟨rfl, B6⟩
  have HB6 := hide (HB5.out.trans (B6.mono HB5.out.size))
  clear B6
  go_wp2
  go_ret
  exact ⟨rfl, HB6.out⟩
end Go.Proofs.Ytakkdfbcipbbjab.fnExactFirstFree
