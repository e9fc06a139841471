/- The walk of laws.FnExactInodeText: it returns true at every inode. -/
import Derived.Test.YthgcidgdgileiaaArg
import Derived.Deep.RegionHeld3
namespace Go.Proofs.Ythgcidgdgileiaa.fnExactInodeText
open Go.RowKit Kit

set_option maxHeartbeats 1600000 in
theorem walk (k l : Int) (v : Value) (xs : List Int) (w : World) (hv : RInts w v xs) (hlen : xs.length ≤ maxLen) :
    Calls Try.prog 7 #[.agg #[.int .i64 k, .int .i64 l, v]] w fun e w' => e = .returned (.bool true) ∧ Below w.heap.size w w' := by
  have HV := hide hv
  obtain ⟨a, c, rfl, -⟩ := hv
  by_cases hn : xs.length ≤ 1048576
  · obtain ⟨r, hr⟩ : ∃ r, okL k l xs = r := ⟨_, rfl⟩
    obtain ⟨t, ht⟩ : ∃ t, textL k l xs = t := ⟨_, rfl⟩
    have C1 := hide (specText_any k l xs)
    have C2 := hide (implText_any k l xs)
    rw [hr, ht] at C1 C2
    clear hr ht hlen
    go_enter Try.func7, Try.ntmps7
    go_wp2_with fail
    refine (szN_in k l a xs.length c _ hn).mono ?_
    rintro e w1 ⟨rfl, B1⟩
    have X1 : AtT 40 w1 w.heap.size k l (.slice a xs.length c) := (AtT.new 40 w k l _).below B1 (by simp)
    have V1 : RInts w1 (.slice a xs.length c) xs := (HV.out.alloc _).below B1 (Nat.le_refl _)
    have b1 : Below w.heap.size w w1 := ((Below.refl _ w).alloc (Nat.le_refl _) _).trans (B1.mono (by simp))
    obtain ⟨c0, c1, c2⟩ := X1.cells
    have H1 := hide (And.intro X1 (And.intro V1 b1))
    have n1 : decide ((1048576 : Int) - (xs.length : Int) < 0) = false := by simp; omega
    clear B1 X1 V1 b1
    go_wp2_with fail
    refine (toN_any k l _ xs w1 H1.out.2.1 hn).mono ?_
    rintro e w2 ⟨u2, rfl, O2, B2⟩
    obtain ⟨s2, t2, rfl⟩ := O2.rints.form
    have X2 := H1.out.1.below B2 H1.out.1.lt
    have V2 := H1.out.2.1.below B2 (Nat.le_refl _)
    have b2 := H1.out.2.2.trans (B2.mono H1.out.2.2.size)
    have H2 := hide (And.intro X2 (And.intro V2 b2))
    have R2 := hide O2.rints
    clear B2 X2 V2 b2 O2 H1 c0 c1 c2 n1
    go_wp2_with fail
    refine (C1.out _ w2 R2.out).mono ?_
    rintro e w3 ⟨rfl, B3⟩
    have X3 := H2.out.1.below B3 H2.out.1.lt
    have V3 := H2.out.2.1.below B3 (Nat.le_refl _)
    have b3 := H2.out.2.2.trans (B3.mono H2.out.2.2.size)
    obtain ⟨c0, c1, c2⟩ := X3.cells
    have H3 := hide (And.intro X3 (And.intro V3 b3))
    clear B3 X3 V3 b3 H2 R2
    go_wp2_with fail
    refine (toN_any k l _ xs w3 H3.out.2.1 hn).mono ?_
    rintro e w4 ⟨u4, rfl, O4, B4⟩
    obtain ⟨s4, t4, rfl⟩ := O4.rints.form
    have X4 := H3.out.1.below B4 H3.out.1.lt
    have V4 := H3.out.2.1.below B4 (Nat.le_refl _)
    have b4 := H3.out.2.2.trans (B4.mono H3.out.2.2.size)
    have H4 := hide (And.intro X4 (And.intro V4 b4))
    have R4 := hide O4.rints
    clear B4 X4 V4 b4 O4 H3 c0 c1 c2
    go_wp2_with fail
    refine (C2.out _ _ (R4.out.alloc _)).mono ?_
    rintro e w5 ⟨rfl, B5⟩
    have X5 := (H4.out.1.alloc _).below B5 (by have := H4.out.1.lt; simp; omega)
    have Y5 : AtT 26 w5 w4.heap.size k l (.slice s4 xs.length t4) := (AtT.new 26 w4 k l _).below B5 (by simp)
    have V5 := (H4.out.2.1.alloc _).below B5 (Nat.le_refl _)
    have U5 := (R4.out.alloc _).below B5 (Nat.le_refl _)
    have b5 := (H4.out.2.2.alloc H4.out.2.2.size _).trans (B5.mono (by have := H4.out.2.2.size; simp; omega))
    obtain ⟨c0, c1, c2⟩ := X5.cells
    obtain ⟨d0, d1, d2⟩ := Y5.cells
    have H5 := hide (And.intro X5 (And.intro V5 (And.intro b5 (And.intro Y5 U5))))
    have HS : Hid (∀ w', Below w5.heap.size w5 w' → w'.cell? ⟨w.heap.size, 0, none⟩ = some (.int .i64 k) ∧ w'.cell? ⟨w.heap.size, 1, none⟩ = some (.int .i64 l) ∧ w'.cell? ⟨w.heap.size, 2, none⟩ = some (.slice a xs.length c) ∧ w'.cell? ⟨w4.heap.size, 0, none⟩ = some (.int .i64 k) ∧ w'.cell? ⟨w4.heap.size, 1, none⟩ = some (.int .i64 l) ∧ w'.cell? ⟨w4.heap.size, 2, none⟩ = some (.slice s4 xs.length t4)) := fun w' hb => by
      obtain ⟨e0, e1, e2⟩ := (H5.out.1.below hb H5.out.1.lt).cells
      obtain ⟨f0, f1, f2⟩ := (H5.out.2.2.2.1.below hb H5.out.2.2.2.1.lt).cells
      exact ⟨e0, e1, e2, f0, f1, f2⟩
    clear B5 X5 Y5 V5 U5 b5 H4 R4 C1 C2
    go_wp2
    go_region_held3 (fun w' => w'.cell? ⟨w.heap.size, 0, none⟩ = some (.int .i64 k) ∧ w'.cell? ⟨w.heap.size, 1, none⟩ = some (.int .i64 l) ∧ w'.cell? ⟨w.heap.size, 2, none⟩ = some (.slice a xs.length c) ∧ w'.cell? ⟨w4.heap.size, 0, none⟩ = some (.int .i64 k) ∧ w'.cell? ⟨w4.heap.size, 1, none⟩ = some (.int .i64 l) ∧ w'.cell? ⟨w4.heap.size, 2, none⟩ = some (.slice s4 xs.length t4)) (first | exact HS.out _ (Below.refl _ _).drew | exact HS.out _ (of_drew B6) | exact HS.out _ ((of_drew B6).trans (B7.mono (of_drew B6).size))) (first | (go_at_call 26; refine (toN_any k l _ xs _ (RInts.drew H5.out.2.1) hn).mono ?_; rintro e w6 ⟨u6, rfl, O6, B6⟩; obtain ⟨s6, t6, rfl⟩ := O6.rints.form) | (go_at_call 22; refine (eqN_same k l _ _ xs _ (H5.out.2.2.2.2.below (of_drew B6) (Nat.le_refl _)) O6.rints (by omega)).mono ?_; rintro e w7 ⟨rfl, B7⟩))
    have HB := hide (H5.out.2.2.1.trans (((of_drew B6).trans (B7.mono (of_drew B6).size)).mono H5.out.2.2.1.size))
    clear B6 B7 O6
    go_wp2
    go_ret
    exact ⟨rfl, HB.out⟩
  · go_enter Try.func7, Try.ntmps7
    go_wp2_with fail
    refine (szN_out k l a xs.length c _ hn hlen).mono ?_
    rintro e w1 ⟨rfl, B1⟩
    have HB := hide (((Below.refl _ w).alloc (Nat.le_refl _) _).trans (B1.mono (by simp)))
    clear B1
    go_wp2
    go_ret
    exact ⟨rfl, HB.out⟩
end Go.Proofs.Ythgcidgdgileiaa.fnExactInodeText
