/- The walk of laws.FnExactSameTree: it returns true at every two lists of nodes. -/
import Derived.Test.YtonpnjijbdopmaaFs
namespace Go.Proofs.Ytonpnjijbdopmaa.fnExactSameTree
open Go.RowKit Kit
set_option maxRecDepth 100000 in
set_option maxHeartbeats 3200000 in
theorem walk (va vb : Value) (xs ys : List Nd) (w : World) (ha : RNd w va xs) (hb : RNd w vb ys) (la : xs.length ≤ maxLen) (lb : ys.length ≤ maxLen)
    (ga : ∀ (j : Nat) (h : j < xs.length), xs[j].1.size ≤ maxLen ∧ xs[j].2.2.1.size ≤ maxLen ∧ xs[j].2.2.2.size ≤ maxLen) (gb : ∀ (j : Nat) (h : j < ys.length), ys[j].1.size ≤ maxLen ∧ ys[j].2.2.1.size ≤ maxLen ∧ ys[j].2.2.2.size ≤ maxLen) :
    Calls Try.prog 3 #[va, vb] w fun e w' => e = .returned (.bool true) ∧ Below w.heap.size w w' := by
  have HA : Hid (∀ w1, Below w.heap.size w w1 → RNd w1 va xs ∧ RNd w1 vb ys) := fun w1 b => ⟨ha.below b (Nat.le_refl _), hb.below b (Nat.le_refl _)⟩
  have HG := hide (And.intro la (And.intro lb (And.intro ga gb)))
  obtain ⟨a1, c1, rfl⟩ := ha.form
  obtain ⟨a2, c2, rfl⟩ := hb.form
  clear ha hb la lb ga gb
  have CS := hide (fun u v W h h' p q => specSame_any u v xs ys W h h' p q)
  have CI := hide (fun u v W h h' p q => implSame_any u v xs ys W h h' p q)
  generalize decide (xs = ys) = r at *
  go_enter Try.func3, Try.ntmps3
  go_wp2_with fail
  refine (szNodeS_any _ xs _ _ (HA.out _ (Below.refl _ _)).1 (by omega) (by omega) HG.out.1 HG.out.2.2.1).mono ?_
  rintro e w1 ⟨left, rfl, hL, B1⟩
  have HB1 := hide B1
  clear B1
  rcases hL with rfl | ⟨h0, h1, h2⟩
  · go_wp2
    go_ret
    exact ⟨rfl, HB1.out⟩
  · have n1 : decide (left < 0) = false := by simp; omega
    go_wp2_with fail
    refine (szNodeS_any _ ys _ _ (HA.out _ HB1.out).2 h0 h1 HG.out.2.1 HG.out.2.2.2).mono ?_
    rintro e w2 ⟨left2, rfl, hL, B2⟩
    have HB2 := hide (HB1.out.trans (B2.mono HB1.out.size))
    clear B2
    rcases hL with rfl | ⟨k0, k1, k2⟩
    · go_wp2
      go_ret
      exact ⟨rfl, HB2.out⟩
    · have n2 : decide (left2 < 0) = false := by simp; omega
      clear HG
      go_wp2_with fail
      refine (toNodeS_any _ xs _ (HA.out _ HB2.out).1 h2).mono ?_
      rintro e w3 ⟨u3, rfl, R3, B3⟩
      obtain ⟨s3, t3, rfl⟩ := R3.form
      have HB3 := hide (HB2.out.trans (B3.mono HB2.out.size))
      have HR3 := hide R3
      clear B3 R3
      go_wp2_with fail
      refine (toNodeS_any _ ys _ (HA.out _ HB3.out).2 k2).mono ?_
      rintro e w4 ⟨u4, rfl, R4, B4⟩
      obtain ⟨s4, t4, rfl⟩ := R4.form
      have HB4 := hide (HB3.out.trans (B4.mono HB3.out.size))
      have HR4 := hide (And.intro (HR3.out.below B4 (Nat.le_refl _)) R4)
      clear B4 R4 HR3
      go_wp2_with fail
      refine (CS.out _ _ _ HR4.out.1 HR4.out.2 (by omega) (by omega)).mono ?_
      rintro e w5 ⟨rfl, B5⟩
      have HB5 := hide (HB4.out.trans (B5.mono HB4.out.size))
      clear B5 HR4
      go_wp2_with fail
      refine (toNodeS_any _ xs _ (HA.out _ HB5.out).1 h2).mono ?_
      rintro e w6 ⟨u6, rfl, R6, B6⟩
      obtain ⟨s6, t6, rfl⟩ := R6.form
      have HB6 := hide (HB5.out.trans (B6.mono HB5.out.size))
      have HR6 := hide R6
      clear B6 R6
      go_wp2_with fail
      refine (toNodeS_any _ ys _ (HA.out _ HB6.out).2 k2).mono ?_
      rintro e w7 ⟨u7, rfl, R7, B7⟩
      obtain ⟨s7, t7, rfl⟩ := R7.form
      have HB7 := hide (HB6.out.trans (B7.mono HB6.out.size))
      have HR7 : Hid (∀ w1, Below w7.heap.size w7 w1 → RNd w1 (.slice s6 xs.length t6) xs ∧ RNd w1 (.slice s7 ys.length t7) ys) := fun w1 b => ⟨(HR6.out.below B7 (Nat.le_refl _)).below b (Nat.le_refl _), R7.below b (Nat.le_refl _)⟩
      clear B7 R7 HR6
      go_wp2_with fail
      refine (CI.out _ _ _ (HR7.out _ (Below.refl _ _)).1 (HR7.out _ (Below.refl _ _)).2 (by omega) (by omega)).mono ?_
      rintro e w8 ⟨rfl, B8⟩
      have HB8 := hide B8
      clear B8
      go_wp2_with fail
      refine (toNodeS_any _ xs _ (HA.out _ (HB7.out.trans (HB8.out.mono HB7.out.size))).1 h2).mono ?_
      rintro e w9 ⟨u9, rfl, R9, B9⟩
      obtain ⟨s9, t9, rfl⟩ := R9.form
      have HB9 := hide (HB8.out.trans (B9.mono HB8.out.size))
      have HR9 := hide R9
      clear B9 R9
      go_wp2_with fail
      refine (eqNodeS_same _ _ xs _ (HR7.out _ HB9.out).1 HR9.out (by omega)).mono ?_
      rintro e w10 ⟨rfl, B10⟩
      have HB10 := hide (HB9.out.trans (B10.mono HB9.out.size))
      clear B10 HR9
      go_wp2_with fail
      refine (toNodeS_any _ ys _ (HA.out _ (HB7.out.trans (HB10.out.mono HB7.out.size))).2 k2).mono ?_
      rintro e w11 ⟨u11, rfl, R11, B11⟩
      obtain ⟨s11, t11, rfl⟩ := R11.form
      have HB11 := hide (HB10.out.trans (B11.mono HB10.out.size))
      have HR11 := hide R11
      clear B11 R11
      go_wp2_with fail
      refine (eqNodeS_same _ _ ys _ (HR7.out _ HB11.out).2 HR11.out (by omega)).mono ?_
      rintro e w12 ⟨rfl, B12⟩
      have HB12 := hide (HB7.out.trans ((HB11.out.trans (B12.mono HB11.out.size)).mono HB7.out.size))
      clear B12
      go_wp2
      go_ret
      exact ⟨rfl, HB12.out⟩
end Go.Proofs.Ytonpnjijbdopmaa.fnExactSameTree
