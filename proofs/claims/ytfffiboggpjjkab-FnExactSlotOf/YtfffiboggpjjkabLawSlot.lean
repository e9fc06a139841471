/- The walk of laws.FnExactSlotOf: it returns true at every block and name. -/
import Derived.Test.YtfffiboggpjjkabPlace
import Derived.Test.YtfffiboggpjjkabTo
namespace Go.Proofs.Ytfffiboggpjjkab.fnExactSlotOf
open Go.RowKit Kit

set_option maxHeartbeats 1600000 in
theorem walk (d : Bool) (v : Value) (t : ByteArray) (xs : List Sl) (nm : ByteArray) (w : World) (hv : RSl w v xs) (hlen : xs.length ≤ maxLen) (hbig : ∀ (j : Nat) (h : j < xs.length), xs[j].1.size ≤ maxLen) (ht : t.size ≤ maxLen) (hnm : nm.size ≤ maxLen) :
    Calls Try.prog 4 #[.agg #[.bool d, v, .string t], .string nm] w fun e w' => e = .returned (.bool true) ∧ Below w.heap.size w w' := by
  have HV := hide hv
  obtain ⟨a, c, rfl, -⟩ := hv
  obtain ⟨r, hr⟩ : ∃ r, placeR xs nm = r := ⟨_, rfl⟩
  have C0 := hide (fun W h => szB_any d (.slice a xs.length c) t xs W h hlen hbig ht)
  have C1 := hide (fun v W => specSlot_any d v t xs nm W)
  have C2 := hide (fun v W => implSlot_any d v t xs nm W)
  rw [hr] at C1 C2
  clear hr hlen hbig ht
  have hnm2 : nm.size ≤ 9223372036854775807 := hnm
  clear hnm
  by_cases hbn : 1048576 < nm.size
  · go_enter Try.func4, Try.ntmps4
    go_wp2
    go_ret
    exact ⟨rfl, by go_grown⟩
  have hbn2 : decide ((1048576 : Int) < (nm.size : Int)) = false := by simp; omega
  go_enter Try.func4, Try.ntmps4
  go_wp2_with fail
  refine (C0.out _ (HV.out.alloc _)).mono ?_
  rintro e w1 ⟨left, rfl, hL, B1⟩
  have X1 : AtC w1 w.heap.size 32 #[.bool d, .slice a xs.length c, .string t] := (AtC.new w 32 _).over B1
  have V1 : RSl w1 (.slice a xs.length c) xs := (HV.out.alloc _).below B1 (Nat.le_refl _)
  have b1 : Below w.heap.size w w1 := ((Below.refl _ w).alloc (Nat.le_refl _) _).trans (B1.mono (by simp))
  obtain ⟨c0, c1, c2, -⟩ := X1.three
  have H1 := hide (And.intro X1 (And.intro V1 b1))
  have HL := hide hL
  clear B1 X1 V1 b1 hL
  by_cases hneg : left < 0
  · clear HL
    go_wp2
    go_ret
    exact ⟨rfl, H1.out.2.2⟩
  · obtain ⟨-, hn, hbig, ht⟩ := HL.out.resolve_left (by omega)
    have n1 : decide (left < 0) = false := by simp; omega
    clear hbig ht HL hneg
    go_wp2_with fail
    refine (toB_any d _ t xs w1 H1.out.2.1 hn).mono ?_
    rintro e w2 ⟨u2, rfl, O2, B2⟩
    obtain ⟨s2, t2, rfl⟩ := O2.rsl.form
    have X2 := H1.out.1.over B2
    have V2 := H1.out.2.1.below B2 (Nat.le_refl _)
    have b2 := H1.out.2.2.trans (B2.mono H1.out.2.2.size)
    have H2 := hide (And.intro X2 (And.intro V2 b2))
    have R2 := hide O2.rsl
    clear B2 X2 V2 b2 O2 H1 c0 c1 c2 n1
    go_wp2_with fail
    refine (C1.out _ w2 R2.out hn).mono ?_
    rintro e w3 ⟨rfl, B3⟩
    have X3 := H2.out.1.over B3
    have V3 := H2.out.2.1.below B3 (Nat.le_refl _)
    have b3 := H2.out.2.2.trans (B3.mono H2.out.2.2.size)
    obtain ⟨c0, c1, c2, -⟩ := X3.three
    have H3 := hide (And.intro X3 (And.intro V3 b3))
    clear B3 X3 V3 b3 H2 R2
    go_wp2_with fail
    refine (toB_any d _ t xs w3 H3.out.2.1 hn).mono ?_
    rintro e w4 ⟨u4, rfl, O4, B4⟩
    obtain ⟨s4, t4, rfl⟩ := O4.rsl.form
    have X4 := H3.out.1.over B4
    have V4 := H3.out.2.1.below B4 (Nat.le_refl _)
    have b4 := H3.out.2.2.trans (B4.mono H3.out.2.2.size)
    have H4 := hide (And.intro X4 (And.intro V4 b4))
    have R4 := hide O4.rsl
    clear B4 X4 V4 b4 O4 H3 c0 c1 c2
    go_wp2_with fail
    refine (C2.out _ _ (R4.out.alloc _) hn).mono ?_
    rintro e w5 ⟨rfl, B5⟩
    have X5 := (H4.out.1.alloc _).over B5
    have Y5 : AtC w5 w4.heap.size 24 #[.bool d, .slice s4 xs.length t4, .string t] := (AtC.new w4 24 _).over B5
    have V5 := (H4.out.2.1.alloc _).below B5 (Nat.le_refl _)
    have U5 := (R4.out.alloc _).below B5 (Nat.le_refl _)
    have b5 := (H4.out.2.2.alloc H4.out.2.2.size _).trans (B5.mono (by have := H4.out.2.2.size; simp; omega))
    obtain ⟨c0, c1, c2, -⟩ := X5.three
    obtain ⟨d0, d1, d2, -⟩ := Y5.three
    have H5 := hide (And.intro X5 (And.intro V5 (And.intro b5 (And.intro Y5 U5))))
    have HS : Hid (∀ w', Below w5.heap.size w5 w' → w'.cell? ⟨w.heap.size, 0, none⟩ = some (.bool d) ∧ w'.cell? ⟨w.heap.size, 1, none⟩ = some (.slice a xs.length c) ∧ w'.cell? ⟨w.heap.size, 2, none⟩ = some (.string t) ∧ w'.cell? ⟨w4.heap.size, 0, none⟩ = some (.bool d) ∧ w'.cell? ⟨w4.heap.size, 1, none⟩ = some (.slice s4 xs.length t4) ∧ w'.cell? ⟨w4.heap.size, 2, none⟩ = some (.string t)) := fun w' hb => by
      obtain ⟨e0, e1, e2, -⟩ := (H5.out.1.over hb).three
      obtain ⟨f0, f1, f2, -⟩ := (H5.out.2.2.2.1.over hb).three
      exact ⟨e0, e1, e2, f0, f1, f2⟩
    clear B5 X5 Y5 V5 U5 b5 H4 R4 C1 C2
    go_wp2
    go_region_held3 (fun w' => w'.cell? ⟨w.heap.size, 0, none⟩ = some (.bool d) ∧ w'.cell? ⟨w.heap.size, 1, none⟩ = some (.slice a xs.length c) ∧ w'.cell? ⟨w.heap.size, 2, none⟩ = some (.string t) ∧ w'.cell? ⟨w4.heap.size, 0, none⟩ = some (.bool d) ∧ w'.cell? ⟨w4.heap.size, 1, none⟩ = some (.slice s4 xs.length t4) ∧ w'.cell? ⟨w4.heap.size, 2, none⟩ = some (.string t)) (first | exact HS.out _ (Below.refl _ _).drew | exact HS.out _ (of_drew B6) | exact HS.out _ ((of_drew B6).trans (B7.mono (of_drew B6).size))) (first | (go_at_call 12; refine (toB_any d _ t xs _ (RSl.drew H5.out.2.1) hn).mono ?_; rintro e w6 ⟨u6, rfl, O6, B6⟩; obtain ⟨s6, t6, rfl⟩ := O6.rsl.form) | (go_at_call 7; refine (eqB_same d _ _ t xs _ (H5.out.2.2.2.2.below (of_drew B6) (Nat.le_refl _)) O6.rsl (by omega)).mono ?_; rintro e w7 ⟨rfl, B7⟩))
    have HB := hide (H5.out.2.2.1.trans (((of_drew B6).trans (B7.mono (of_drew B6).size)).mono H5.out.2.2.1.size))
    clear B6 B7 O6
    go_wp2
    go_ret
    exact ⟨rfl, HB.out⟩
end Go.Proofs.Ytfffiboggpjjkab.fnExactSlotOf
