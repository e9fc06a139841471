/- Texts of the proof, bundled: LawExactDisk. -/
import Derived.Test.YtljooldjcefkoaaGreatUExactDisk01
import Derived.Test.YtljooldjcefkoaaGreatUExactDisk04
import Derived.Test.YtljooldjcefkoaaGreatU20
/- The walk of laws.FnExactExactDisk: it returns true at every disk. -/
namespace Go.Proofs.YtljooldjcefkoaaGreat.fnExactExactDisk
open Go.RowKit Kit
set_option maxRecDepth 100000 in
set_option maxHeartbeats 3200000 in
theorem walk (u v iv bv : Value) (xs ys : List Bool) (is : List Ino) (bs : List Blk) (w : World) (h : DR w u v iv bv xs ys is bs) (hB : Big maxLen xs ys is bs) :
    Calls Tryz.prog 4 #[.agg #[u, v, iv, bv]] w fun e w' => e = .returned (.bool true) ∧ Below w.heap.size w w' := by
  have HV := hide h
  obtain ⟨a1, c1, a2, c2, a3, c3, a4, c4, rfl, rfl, rfl, rfl⟩ := h.form
  obtain ⟨r, hr⟩ : ∃ r, exactB xs ys is bs = r := ⟨_, rfl⟩
  have HR := hide hr
  have HG := hide hB
  clear hr hB h
  go_enter Tryz.func4, Tryz.ntmps4
  go_wp2_with fail
  refine (szDisk_L _ _ _ _ xs ys is bs _ _ (HV.out.alloc _).a (HV.out.alloc _).b (HV.out.alloc _).i (HV.out.alloc _).k (by omega) (by omega) HG.out).mono ?_
  rintro e w1 ⟨left, rfl, hL, B1⟩
  have X1 : AtC w1 w.heap.size 28 #[.slice a1 xs.length c1, .slice a2 ys.length c2, .slice a3 is.length c3, .slice a4 bs.length c4] := (AtC.new w 28 _).over B1
  have V1 := (HV.out.alloc (.cells #[.slice a1 xs.length c1, .slice a2 ys.length c2, .slice a3 is.length c3, .slice a4 bs.length c4] 28)).below B1 (Nat.le_refl _)
  have b1 : Below w.heap.size w w1 := ((Below.refl _ w).alloc (Nat.le_refl _) _).trans (B1.mono (by simp))
  have c0 : w1.cell? ⟨w.heap.size, 0, none⟩ = some (.slice a1 xs.length c1) := X1.cell 0
  have c1' : w1.cell? ⟨w.heap.size, 1, none⟩ = some (.slice a2 ys.length c2) := X1.cell 1
  have c2' : w1.cell? ⟨w.heap.size, 2, none⟩ = some (.slice a3 is.length c3) := X1.cell 2
  have c3' : w1.cell? ⟨w.heap.size, 3, none⟩ = some (.slice a4 bs.length c4) := X1.cell 3
  have H1 := hide (And.intro X1 (And.intro V1 b1))
  have HL := hide hL
  have hL1 : -1 ≤ left := by rcases hL with h | h <;> omega
  clear B1 X1 V1 b1 hL HV HG
  by_cases hneg : left < 0
  · go_wp2
    go_ret
    exact ⟨rfl, H1.out.2.2⟩
  · have HBG := hide (HL.out.resolve_left (by omega)).2.2
    have n1 : decide (left < 0) = false := by simp; omega
    clear HL hneg
    go_wp2_with fail
    refine (toDisk_any _ _ _ _ xs ys is bs w1 H1.out.2.1 HBG.out).mono ?_
    rintro e w2 ⟨u2, v2, i2, k2, rfl, O2, B2⟩
    obtain ⟨s1, t1, s2, t2, s3, t3, s4, t4, rfl, rfl, rfl, rfl⟩ := O2.dr.form
    have X2 := H1.out.1.over B2
    have V2 := H1.out.2.1.below B2 (Nat.le_refl _)
    have b2 := H1.out.2.2.trans (B2.mono H1.out.2.2.size)
    have H2 := hide (And.intro X2 (And.intro V2 b2))
    have R2 := hide O2.dr
    clear B2 X2 V2 b2 O2 H1 c0 c1' c2' c3' n1
    go_wp2_with fail
    refine (specExact_any _ _ _ _ xs ys is bs w2 R2.out HBG.out).mono ?_
    rw [HR.out]
    rintro e w3 ⟨rfl, B3⟩
    have X3 := H2.out.1.over B3
    have V3 := H2.out.2.1.below B3 (Nat.le_refl _)
    have b3 := H2.out.2.2.trans (B3.mono H2.out.2.2.size)
    have c0 : w3.cell? ⟨w.heap.size, 0, none⟩ = some (.slice a1 xs.length c1) := X3.cell 0
    have c1' : w3.cell? ⟨w.heap.size, 1, none⟩ = some (.slice a2 ys.length c2) := X3.cell 1
    have c2' : w3.cell? ⟨w.heap.size, 2, none⟩ = some (.slice a3 is.length c3) := X3.cell 2
    have c3' : w3.cell? ⟨w.heap.size, 3, none⟩ = some (.slice a4 bs.length c4) := X3.cell 3
    have H3 := hide (And.intro X3 (And.intro V3 b3))
    clear B3 X3 V3 b3 H2 R2
    go_wp2_with fail
    refine (toDisk_any _ _ _ _ xs ys is bs w3 H3.out.2.1 HBG.out).mono ?_
    rintro e w4 ⟨u4, v4, i4, k4, rfl, O4, B4⟩
    obtain ⟨d1, f1, d2, f2, d3, f3, d4, f4, rfl, rfl, rfl, rfl⟩ := O4.dr.form
    have X4 := H3.out.1.over B4
    have V4 := H3.out.2.1.below B4 (Nat.le_refl _)
    have b4 := H3.out.2.2.trans (B4.mono H3.out.2.2.size)
    have H4 := hide (And.intro X4 (And.intro V4 b4))
    have R4 := hide O4.dr
    clear B4 X4 V4 b4 O4 H3 c0 c1' c2' c3'
    go_wp2_with fail
    refine (implExact_any _ _ _ _ xs ys is bs _ (R4.out.alloc _) HBG.out).mono ?_
    rw [HR.out]
    rintro e w5 ⟨rfl, B5⟩
    have X5 := (H4.out.1.alloc (.cells #[.slice d1 xs.length f1, .slice d2 ys.length f2, .slice d3 is.length f3, .slice d4 bs.length f4] 35)).over B5
    have Y5 : AtC w5 w4.heap.size 35 #[.slice d1 xs.length f1, .slice d2 ys.length f2, .slice d3 is.length f3, .slice d4 bs.length f4] := (AtC.new w4 35 _).over B5
    have V5 := (H4.out.2.1.alloc (.cells #[.slice d1 xs.length f1, .slice d2 ys.length f2, .slice d3 is.length f3, .slice d4 bs.length f4] 35)).below B5 (Nat.le_refl _)
    have U5 := (R4.out.alloc (.cells #[.slice d1 xs.length f1, .slice d2 ys.length f2, .slice d3 is.length f3, .slice d4 bs.length f4] 35)).below B5 (Nat.le_refl _)
    have b5 := (H4.out.2.2.alloc H4.out.2.2.size (.cells #[.slice d1 xs.length f1, .slice d2 ys.length f2, .slice d3 is.length f3, .slice d4 bs.length f4] 35)).trans (B5.mono (by have := H4.out.2.2.size; simp; omega))
    have HS : Hid (∀ w', Below w5.heap.size w5 w' → w'.cell? ⟨w.heap.size, 0, none⟩ = some (.slice a1 xs.length c1) ∧ w'.cell? ⟨w.heap.size, 1, none⟩ = some (.slice a2 ys.length c2) ∧ w'.cell? ⟨w.heap.size, 2, none⟩ = some (.slice a3 is.length c3) ∧ w'.cell? ⟨w.heap.size, 3, none⟩ = some (.slice a4 bs.length c4) ∧ w'.cell? ⟨w4.heap.size, 0, none⟩ = some (.slice d1 xs.length f1) ∧ w'.cell? ⟨w4.heap.size, 1, none⟩ = some (.slice d2 ys.length f2) ∧ w'.cell? ⟨w4.heap.size, 2, none⟩ = some (.slice d3 is.length f3) ∧ w'.cell? ⟨w4.heap.size, 3, none⟩ = some (.slice d4 bs.length f4)) := fun w' hb =>
      ⟨(X5.over hb).cell 0, (X5.over hb).cell 1, (X5.over hb).cell 2, (X5.over hb).cell 3, (Y5.over hb).cell 0, (Y5.over hb).cell 1, (Y5.over hb).cell 2, (Y5.over hb).cell 3⟩
    obtain ⟨c0, c1', c2', c3', y0, y1, y2, y3⟩ := HS.out _ (Below.refl _ _)
    have H5 := hide (And.intro V5 (And.intro b5 U5))
    clear B5 X5 Y5 V5 U5 b5 H4 R4
    go_wp2
    go_region_held3 (fun w' => w'.cell? ⟨w.heap.size, 0, none⟩ = some (.slice a1 xs.length c1) ∧ w'.cell? ⟨w.heap.size, 1, none⟩ = some (.slice a2 ys.length c2) ∧ w'.cell? ⟨w.heap.size, 2, none⟩ = some (.slice a3 is.length c3) ∧ w'.cell? ⟨w.heap.size, 3, none⟩ = some (.slice a4 bs.length c4) ∧ w'.cell? ⟨w4.heap.size, 0, none⟩ = some (.slice d1 xs.length f1) ∧ w'.cell? ⟨w4.heap.size, 1, none⟩ = some (.slice d2 ys.length f2) ∧ w'.cell? ⟨w4.heap.size, 2, none⟩ = some (.slice d3 is.length f3) ∧ w'.cell? ⟨w4.heap.size, 3, none⟩ = some (.slice d4 bs.length f4)) (first | exact HS.out _ (Below.refl _ _).drew | exact HS.out _ (of_drew B6) | exact HS.out _ ((of_drew B6).trans (B7.mono (of_drew B6).size))) (first | (go_at_call 7; refine (toDisk_any _ _ _ _ xs ys is bs _ H5.out.1.drew HBG.out).mono ?_; rintro e w6 ⟨u6, v6, i6, k6, rfl, O6, B6⟩; obtain ⟨s1, t1, s2, t2, s3, t3, s4, t4, rfl, rfl, rfl, rfl⟩ := O6.dr.form) | (go_at_call 9; refine (eqDisk_same _ _ _ _ _ _ _ _ xs ys is bs _ (H5.out.2.2.below (of_drew B6) (Nat.le_refl _)) O6.dr HBG.out).mono ?_; rintro e w7 ⟨rfl, B7⟩))
    have HB := hide (H5.out.2.1.trans (((of_drew B6).trans (B7.mono (of_drew B6).size)).mono H5.out.2.1.size))
    clear B6 B7 O6
    go_wp2
    go_ret
    exact ⟨rfl, HB.out⟩
end Go.Proofs.YtljooldjcefkoaaGreat.fnExactExactDisk
