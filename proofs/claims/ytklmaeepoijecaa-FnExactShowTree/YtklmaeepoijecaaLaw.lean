/- The walk of laws.FnExactShowTree: it returns true at every list of nodes. -/
import Derived.Test.YtklmaeepoijecaaSt
namespace Go.Proofs.Ytklmaeepoijecaa.fnExactShowTree
open Go.RowKit Kit
set_option maxRecDepth 100000 in
set_option maxHeartbeats 3200000 in
theorem walk (va : Value) (xs : List Nd) (w : World) (ha : RNd w va xs) (la : xs.length ≤ maxLen)
    (ga : ∀ (j : Nat) (h : j < xs.length), xs[j].1.size ≤ maxLen ∧ xs[j].2.2.1.size ≤ maxLen ∧ xs[j].2.2.2.size ≤ maxLen) :
    Calls Try.prog 3 #[va] w fun e w' => e = .returned (.bool true) ∧ Below w.heap.size w w' := by
  have HA : Hid (∀ w1, Below w.heap.size w w1 → RNd w1 va xs) := fun w1 b => ha.below b (Nat.le_refl _)
  have HG := hide (And.intro la ga)
  obtain ⟨a1, c1, rfl⟩ := ha.form
  clear ha la ga
  have CS := hide (fun u W h q => specShow_any u xs W h q)
  have CI := hide (fun u W h q => implShow_any u xs W h q)
  generalize showS xs = r at *
  go_enter Try.func3, Try.ntmps3
  go_wp2_with fail
  refine (szNodeS_any _ xs _ _ (HA.out _ (Below.refl _ _)) (by omega) (by omega) HG.out.1 HG.out.2).mono ?_
  rintro e w1 ⟨left, rfl, hL, B1⟩
  have HB1 := hide B1
  clear B1
  rcases hL with rfl | ⟨h0, h1⟩
  · go_wp2
    go_ret
    exact ⟨rfl, HB1.out⟩
  · have n1 : decide (left < 0) = false := by simp; omega
    have H2 : Hid (xs.length + szs xs ≤ 1048576) := hide (by omega)
    have H3 : Hid (xs.length ≤ 1048576) := hide (by omega)
    clear HG h1 h0
    go_wp2_with fail
    refine (toNodeS_any _ xs _ (HA.out _ HB1.out) H3.out).mono ?_
    rintro e w3 ⟨u3, rfl, R3, B3⟩
    obtain ⟨s3, t3, rfl⟩ := R3.form
    have HB3 := hide (HB1.out.trans (B3.mono HB1.out.size))
    have HR3 := hide R3
    clear B3 R3
    go_wp2_with fail
    refine (CS.out _ _ HR3.out H2.out).mono ?_
    rintro e w5 ⟨rfl, B5⟩
    have HB5 := hide (HB3.out.trans (B5.mono HB3.out.size))
    clear B5 HR3
    go_wp2_with fail
    refine (toNodeS_any _ xs _ (HA.out _ HB5.out) H3.out).mono ?_
    rintro e w6 ⟨u6, rfl, R6, B6⟩
    obtain ⟨s6, t6, rfl⟩ := R6.form
    have HB6 := hide (HB5.out.trans (B6.mono HB5.out.size))
    have HR6 : Hid (∀ w1, Below w6.heap.size w6 w1 → RNd w1 (.slice s6 xs.length t6) xs) := fun w1 b => R6.below b (Nat.le_refl _)
    clear B6 R6
    go_wp2_with fail
    refine (CI.out _ _ (HR6.out _ (Below.refl _ _)) H2.out).mono ?_
    rintro e w8 ⟨rfl, B8⟩
    have HB8 := hide B8
    clear B8
    go_wp2_with fail
    refine (toNodeS_any _ xs _ (HA.out _ (HB6.out.trans (HB8.out.mono HB6.out.size))) H3.out).mono ?_
    rintro e w9 ⟨u9, rfl, R9, B9⟩
    obtain ⟨s9, t9, rfl⟩ := R9.form
    have HB9 := hide (HB8.out.trans (B9.mono HB8.out.size))
    have HR9 := hide R9
    clear B9 R9
    go_wp2_with fail
    refine (eqNodeS_same _ _ xs _ (HR6.out _ HB9.out) HR9.out (by have := H3.out; omega)).mono ?_
    rintro e w10 ⟨rfl, B10⟩
    have HB10 := hide (HB6.out.trans ((HB9.out.trans (B10.mono HB9.out.size)).mono HB6.out.size))
    clear B10 HR9
    go_wp2
    go_ret
    exact ⟨rfl, HB10.out⟩
end Go.Proofs.Ytklmaeepoijecaa.fnExactShowTree
