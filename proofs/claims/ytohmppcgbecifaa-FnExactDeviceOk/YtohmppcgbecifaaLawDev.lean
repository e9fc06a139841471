/- The walk of laws.FnExactDeviceOk: it returns true at every device. -/
import Derived.Test.YtohmppcgbecifaaDev
namespace Go.Proofs.Ytohmppcgbecifaa.fnExactDeviceOk
open Go.RowKit Kit

set_option maxHeartbeats 1600000 in
theorem walk (v : Value) (xs : List ByteArray) (w : World) (hv : RSt w v xs) (hlen : xs.length ≤ maxLen) (hbig : ∀ (j : Nat) (h : j < xs.length), xs[j].size ≤ maxLen) :
    Calls Try.prog 4 #[.agg #[v]] w fun e w' => e = .returned (.bool true) ∧ Below w.heap.size w w' := by
  have HV := hide hv
  have HG := hide (And.intro hlen hbig)
  obtain ⟨a, c, rfl⟩ := hv.form
  clear hv hlen hbig
  go_enter Try.func4, Try.ntmps4
  go_wp2_with fail
  refine (szD_any _ xs _ (HV.out.alloc _) HG.out.1 HG.out.2).mono ?_
  rintro e w1 ⟨r, rfl, hr, B1⟩
  have X1 : AtO 29 w1 w.heap.size (.slice a xs.length c) := (AtO.new 29 w _).below B1 (by simp)
  have V1 := (HV.out.alloc (Obj.cells #[.slice a xs.length c] 29)).below B1 (Nat.le_refl _)
  have b1 : Below w.heap.size w w1 := ((Below.refl _ w).alloc (Nat.le_refl _) _).trans (B1.mono (by simp))
  have c0 := X1.cell
  have m1 := X1.lt
  have H1 := hide (And.intro X1 (And.intro V1 b1))
  clear B1 X1 V1 b1 HV HG
  rcases hr with rfl | hr
  · go_wp2
    go_ret
    exact ⟨rfl, H1.out.2.2⟩
  obtain ⟨hr0, hr1, hx, hsz⟩ := hr
  have C1 := hide (fun (v : Value) (w : World) (hv : RSt w v xs) => specOk_any v xs w hv hx hsz)
  have C2 := hide (fun (v : Value) (w : World) (hv : RSt w v xs) => implOk_any v xs w hv hx hsz)
  have CT := hide (fun (v : Value) (w : World) (hv : RSt w v xs) => toD_any v xs w hv hx)
  have CE := hide (fun (u v : Value) (w : World) (h1 : RSt w u xs) (h2 : RSt w v xs) => eqD_same u v xs w h1 h2 (by omega))
  obtain ⟨ok, hok⟩ : ∃ r, okD xs = r := ⟨_, rfl⟩
  rw [hok] at C1 C2
  clear hok hsz
  have n1 : ¬ r < 0 := by omega
  go_wp2_with fail
  refine (CT.out _ w1 H1.out.2.1).mono ?_
  rintro e w2 ⟨v2, rfl, O2, B2⟩
  obtain ⟨s2, t2, rfl⟩ := O2.rst.form
  have X2 := H1.out.1.below B2 H1.out.1.lt
  have V2 := H1.out.2.1.below B2 (Nat.le_refl _)
  have b2 := H1.out.2.2.trans (B2.mono H1.out.2.2.size)
  have H2 := hide (And.intro X2 (And.intro V2 b2))
  have R2 := hide O2
  clear B2 X2 V2 b2 O2 H1 c0 n1 m1 hr0 hr1
  go_wp2_with fail
  refine (C1.out _ w2 R2.out.rst).mono ?_
  rintro e w3 ⟨rfl, B3⟩
  have X3 := H2.out.1.below B3 H2.out.1.lt
  have V3 := H2.out.2.1.below B3 (Nat.le_refl _)
  have b3 := H2.out.2.2.trans (B3.mono H2.out.2.2.size)
  have c0 := X3.cell
  have m1 := X3.lt
  have H3 := hide (And.intro X3 (And.intro V3 b3))
  clear B3 X3 V3 b3 H2 R2
  go_wp2_with fail
  refine (CT.out _ w3 H3.out.2.1).mono ?_
  rintro e w4 ⟨v4, rfl, O4, B4⟩
  obtain ⟨s4, t4, rfl⟩ := O4.rst.form
  have X4 := H3.out.1.below B4 H3.out.1.lt
  have V4 := H3.out.2.1.below B4 (Nat.le_refl _)
  have b4 := H3.out.2.2.trans (B4.mono H3.out.2.2.size)
  have H4 := hide (And.intro X4 (And.intro V4 b4))
  have R4 := hide O4
  clear B4 X4 V4 b4 O4 H3 c0 m1
  go_wp2_with fail
  refine (C2.out _ _ (R4.out.alloc _).rst).mono ?_
  rintro e w5 ⟨rfl, B5⟩
  have X5 := (H4.out.1.alloc (Obj.cells #[.slice s4 xs.length t4] 32)).below B5 (by have := H4.out.1.lt; simp; omega)
  have Y5 : AtO 32 w5 w4.heap.size (.slice s4 xs.length t4) := (AtO.new 32 w4 _).below B5 (by simp)
  have V5 := (H4.out.2.1.alloc (Obj.cells #[.slice s4 xs.length t4] 32)).below B5 (Nat.le_refl _)
  have T5 := (R4.out.alloc (Obj.cells #[.slice s4 xs.length t4] 32)).below B5 (Nat.le_refl _)
  have b5 := (H4.out.2.2.alloc H4.out.2.2.size (Obj.cells #[.slice s4 xs.length t4] 32)).trans (B5.mono (by have := H4.out.2.2.size; simp; omega))
  have c0 := X5.cell
  have d0 := Y5.cell
  have H5 := hide (And.intro X5 (And.intro V5 (And.intro b5 (And.intro Y5 T5))))
  have HS : Hid (∀ w', Below w5.heap.size w5 w' → w'.cell? ⟨w.heap.size, 0, none⟩ = some (.slice a xs.length c) ∧ w'.cell? ⟨w4.heap.size, 0, none⟩ = some (.slice s4 xs.length t4)) := fun w' hb =>
    ⟨(H5.out.1.below hb H5.out.1.lt).cell, (H5.out.2.2.2.1.below hb H5.out.2.2.2.1.lt).cell⟩
  clear B5 X5 Y5 V5 T5 b5 H4 R4 C1 C2
  go_wp2
  go_region_held3 (fun w' => w'.cell? ⟨w.heap.size, 0, none⟩ = some (.slice a xs.length c) ∧ w'.cell? ⟨w4.heap.size, 0, none⟩ = some (.slice s4 xs.length t4)) (first | exact HS.out _ (Below.refl _ _).drew | exact HS.out _ (of_drew B6) | exact HS.out _ ((of_drew B6).trans (B7.mono (of_drew B6).size))) (first | (go_at_call 14; refine (CT.out _ _ (RSt.drew H5.out.2.1)).mono ?_; rintro e w6 ⟨v6, rfl, O6, B6⟩; obtain ⟨s6, t6, rfl⟩ := O6.rst.form) | (go_at_call 16; refine (CE.out _ _ _ (H5.out.2.2.2.2.below (of_drew B6) (Nat.le_refl _)).rst O6.rst).mono ?_; rintro e w7 ⟨rfl, B7⟩))
  have HB := hide (H5.out.2.2.1.trans (((of_drew B6).trans (B7.mono (of_drew B6).size)).mono H5.out.2.2.1.size))
  clear B6 B7 O6
  go_wp2
  go_ret
  exact ⟨rfl, HB.out⟩
end Go.Proofs.Ytohmppcgbecifaa.fnExactDeviceOk
