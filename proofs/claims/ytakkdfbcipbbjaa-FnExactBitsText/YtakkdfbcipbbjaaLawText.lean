/- The walk of laws.FnExactBitsText: it returns true at all bits. -/
import Derived.Test.YtakkdfbcipbbjaaTxtS
import Derived.Deep.RegionHeld3
namespace Go.Proofs.Ytakkdfbcipbbjaa.fnExactBitsText
open Go.RowKit Kit

set_option maxHeartbeats 1600000 in
theorem walk (u v : Value) (xs ys : List Bool) (w : World) (hu : RFl w u xs) (hv : RFl w v ys) (hx : xs.length ≤ maxLen) (hy : ys.length ≤ maxLen) :
    Calls Try.prog 7 #[.agg #[u, v]] w fun e w' => e = .returned (.bool true) ∧ Below w.heap.size w w' := by
  have HU := hide hu
  have HV := hide hv
  obtain ⟨a, c, rfl, -⟩ := hu
  obtain ⟨a2, c2, rfl, -⟩ := hv
  by_cases hn : xs.length + ys.length ≤ 1048576
  · have hn1 : xs.length ≤ 1048576 := by omega
    have hn2 : ys.length ≤ 1048576 := by omega
    obtain ⟨r, hr⟩ : ∃ r, okB xs.length ys.length = r := ⟨_, rfl⟩
    obtain ⟨tx, htx⟩ : ∃ t, textA xs ys = t := ⟨_, rfl⟩
    have C1 := hide (fun u v base w h => specText_any u v xs ys base w h)
    have C2 := hide (fun u v w hu hv => implText_any u v xs ys w hu hv)
    rw [htx] at C1 C2
    clear htx
    have CT := hide (fun (u v : Value) (w : World) (hu : RFl w u xs) (hv : RFl w v ys) => toN_any u v xs ys w hu hv hn1 hn2)
    rw [hr] at C1 C2
    clear hr hx hy
    go_enter Try.func7, Try.ntmps7
    go_wp2_with fail
    refine (szN_in a a2 xs.length ys.length c c2 _ hn).mono ?_
    rintro e w1 ⟨rfl, B1⟩
    have X1 : AtP 40 w1 w.heap.size (.slice a xs.length c) (.slice a2 ys.length c2) := (AtP.new 40 w _ _).below B1 (by simp)
    have U1 := (HU.out.alloc (Obj.cells #[.slice a xs.length c, .slice a2 ys.length c2] 40)).below B1 (Nat.le_refl _)
    have V1 := (HV.out.alloc (Obj.cells #[.slice a xs.length c, .slice a2 ys.length c2] 40)).below B1 (Nat.le_refl _)
    have b1 : Below w.heap.size w w1 := ((Below.refl _ w).alloc (Nat.le_refl _) _).trans (B1.mono (by simp))
    obtain ⟨c0, c1⟩ := X1.cells
    have m1 := X1.lt
    have H1 := hide (And.intro X1 (And.intro (And.intro U1 V1) b1))
    have n1 : decide ((1048576 : Int) - (xs.length : Int) - (ys.length : Int) < 0) = false := by simp; omega
    clear B1 X1 U1 V1 b1
    go_wp2_with fail
    refine (CT.out _ _ w1 H1.out.2.1.1 H1.out.2.1.2).mono ?_
    rintro e w2 ⟨u2, v2, rfl, O2, B2⟩
    obtain ⟨s2, t2, s2', t2', rfl, rfl⟩ := O2.form
    have X2 := H1.out.1.below B2 H1.out.1.lt
    have U2 := H1.out.2.1.1.below B2 (Nat.le_refl _)
    have V2 := H1.out.2.1.2.below B2 (Nat.le_refl _)
    have b2 := H1.out.2.2.trans (B2.mono H1.out.2.2.size)
    have H2 := hide (And.intro X2 (And.intro (And.intro U2 V2) b2))
    have R2 := hide O2
    clear B2 X2 U2 V2 b2 O2 H1 c0 c1 n1 m1
    go_wp2_with fail
    refine (C1.out _ _ _ w2 R2.out).mono ?_
    rintro e w3 ⟨rfl, B3⟩
    have X3 := H2.out.1.below B3 H2.out.1.lt
    have U3 := H2.out.2.1.1.below B3 (Nat.le_refl _)
    have V3 := H2.out.2.1.2.below B3 (Nat.le_refl _)
    have b3 := H2.out.2.2.trans (B3.mono H2.out.2.2.size)
    obtain ⟨c0, c1⟩ := X3.cells
    have m1 := X3.lt
    have H3 := hide (And.intro X3 (And.intro (And.intro U3 V3) b3))
    clear B3 X3 U3 V3 b3 H2 R2
    go_wp2_with fail
    refine (CT.out _ _ w3 H3.out.2.1.1 H3.out.2.1.2).mono ?_
    rintro e w4 ⟨u4, v4, rfl, O4, B4⟩
    obtain ⟨s4, t4, s4', t4', rfl, rfl⟩ := O4.form
    have X4 := H3.out.1.below B4 H3.out.1.lt
    have U4 := H3.out.2.1.1.below B4 (Nat.le_refl _)
    have V4 := H3.out.2.1.2.below B4 (Nat.le_refl _)
    have b4 := H3.out.2.2.trans (B4.mono H3.out.2.2.size)
    have H4 := hide (And.intro X4 (And.intro (And.intro U4 V4) b4))
    have R4 := hide O4
    clear B4 X4 U4 V4 b4 O4 H3 c0 c1 m1
    go_wp2_with fail
    refine (C2.out _ _ _ (R4.out.a.alloc _).rfl (R4.out.b.alloc _).rfl).mono ?_
    rintro e w5 ⟨rfl, B5⟩
    have X5 := (H4.out.1.alloc (Obj.cells #[.slice s4 xs.length t4, .slice s4' ys.length t4'] 26)).below B5 (by have := H4.out.1.lt; simp; omega)
    have Y5 : AtP 26 w5 w4.heap.size (.slice s4 xs.length t4) (.slice s4' ys.length t4') := (AtP.new 26 w4 _ _).below B5 (by simp)
    have U5 := (H4.out.2.1.1.alloc (Obj.cells #[.slice s4 xs.length t4, .slice s4' ys.length t4'] 26)).below B5 (Nat.le_refl _)
    have V5 := (H4.out.2.1.2.alloc (Obj.cells #[.slice s4 xs.length t4, .slice s4' ys.length t4'] 26)).below B5 (Nat.le_refl _)
    have T5 := (R4.out.alloc (Obj.cells #[.slice s4 xs.length t4, .slice s4' ys.length t4'] 26)).below B5 (Nat.le_refl _)
    have b5 := (H4.out.2.2.alloc H4.out.2.2.size (Obj.cells #[.slice s4 xs.length t4, .slice s4' ys.length t4'] 26)).trans (B5.mono (by have := H4.out.2.2.size; simp; omega))
    obtain ⟨c0, c1⟩ := X5.cells
    obtain ⟨d0, d1⟩ := Y5.cells
    have H5 := hide (And.intro X5 (And.intro (And.intro U5 V5) (And.intro b5 (And.intro Y5 T5))))
    have HS : Hid (∀ w', Below w5.heap.size w5 w' → w'.cell? ⟨w.heap.size, 0, none⟩ = some (.slice a xs.length c) ∧ w'.cell? ⟨w.heap.size, 1, none⟩ = some (.slice a2 ys.length c2) ∧ w'.cell? ⟨w4.heap.size, 0, none⟩ = some (.slice s4 xs.length t4) ∧ w'.cell? ⟨w4.heap.size, 1, none⟩ = some (.slice s4' ys.length t4')) := fun w' hb => by
      obtain ⟨e0, e1⟩ := (H5.out.1.below hb H5.out.1.lt).cells
      obtain ⟨f0, f1⟩ := (H5.out.2.2.2.1.below hb H5.out.2.2.2.1.lt).cells
      exact ⟨e0, e1, f0, f1⟩
    clear B5 X5 Y5 U5 V5 T5 b5 H4 R4 C1 C2
    go_wp2
    go_region_held3 (fun w' => w'.cell? ⟨w.heap.size, 0, none⟩ = some (.slice a xs.length c) ∧ w'.cell? ⟨w.heap.size, 1, none⟩ = some (.slice a2 ys.length c2) ∧ w'.cell? ⟨w4.heap.size, 0, none⟩ = some (.slice s4 xs.length t4) ∧ w'.cell? ⟨w4.heap.size, 1, none⟩ = some (.slice s4' ys.length t4')) (first | exact HS.out _ (Below.refl _ _).drew | exact HS.out _ (of_drew B6) | exact HS.out _ ((of_drew B6).trans (B7.mono (of_drew B6).size))) (first | (go_at_call 24; refine (CT.out _ _ _ (RFl.drew H5.out.2.1.1) (RFl.drew H5.out.2.1.2)).mono ?_; rintro e w6 ⟨u6, v6, rfl, O6, B6⟩; obtain ⟨s6, t6, s6', t6', rfl, rfl⟩ := O6.form) | (go_at_call 20; refine (eqN_same _ _ _ _ xs ys _ (H5.out.2.2.2.2.below (of_drew B6) (Nat.le_refl _)).a.rfl (H5.out.2.2.2.2.below (of_drew B6) (Nat.le_refl _)).b.rfl O6.a.rfl O6.b.rfl (by omega) (by omega)).mono ?_; rintro e w7 ⟨rfl, B7⟩))
    have HB := hide (H5.out.2.2.1.trans (((of_drew B6).trans (B7.mono (of_drew B6).size)).mono H5.out.2.2.1.size))
    clear B6 B7 O6
    go_wp2
    go_ret
    exact ⟨rfl, HB.out⟩
  · go_enter Try.func7, Try.ntmps7
    go_wp2_with fail
    refine (szN_out a a2 xs.length ys.length c c2 _ hn hx hy).mono ?_
    rintro e w1 ⟨rfl, B1⟩
    have HB := hide (((Below.refl _ w).alloc (Nat.le_refl _) _).trans (B1.mono (by simp)))
    clear B1
    go_wp2
    go_ret
    exact ⟨rfl, HB.out⟩
end Go.Proofs.Ytakkdfbcipbbjaa.fnExactBitsText
