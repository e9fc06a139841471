/- The walk of laws.FnExactSameDisk: it returns true at every two disks. -/
import Derived.Test.YtajollmmpdkhbaaSj
import Derived.Test.YtajollmmpdkhbaaQs
import Derived.Test.YtajollmmpdkhbaaSzD
namespace Go.Proofs.Ytajollmmpdkhbaa.fnExactSameDisk
open Go.RowKit Kit
set_option maxRecDepth 100000 in
set_option maxHeartbeats 6400000 in
theorem walk (u v iv bv : Value) (xs ys : List Bool) (is : List Ino) (bs : List Blk) (u' v' i' b' : Value) (xs' ys' : List Bool) (is' : List Ino) (bs' : List Blk) (w : World) (h : DR w u v iv bv xs ys is bs) (hB : Big maxLen xs ys is bs) (h' : DR w u' v' i' b' xs' ys' is' bs') (hB' : Big maxLen xs' ys' is' bs') :
    Calls Try.prog 6 #[.agg #[u, v, iv, bv], .agg #[u', v', i', b']] w fun e w' => e = .returned (.bool true) ∧ Below w.heap.size w w' := by
  have HV := hide (And.intro h h')
  obtain ⟨a1, c1, a2, c2, a3, c3, a4, c4, rfl, rfl, rfl, rfl⟩ := h.form
  obtain ⟨p1, r1, p2, r2, p3, r3, p4, r4, rfl, rfl, rfl, rfl⟩ := h'.form
  have HG := hide (And.intro hB hB')
  have CI := hide (fun u v iv bv u' v' i' b' W h h' hB => implSame_disk u v iv bv u' v' i' b' xs ys xs' ys' is is' bs bs' W h h' hB)
  have CS := hide (fun u v iv bv u' v' i' b' W h h' hB => specSame_disk u v iv bv u' v' i' b' xs ys xs' ys' is is' bs bs' W h h' hB)
  generalize sameD xs ys is bs xs' ys' is' bs' = r at *
  clear hB hB' h h'
  go_enter Try.func6, Try.ntmps6
  go_wp2_with fail
  have V0 := (HV.out.1.alloc (.cells #[.slice a1 xs.length c1, .slice a2 ys.length c2, .slice a3 is.length c3, .slice a4 bs.length c4] 37)).alloc (.cells #[.slice p1 xs'.length r1, .slice p2 ys'.length r2, .slice p3 is'.length r3, .slice p4 bs'.length r4] 37)
  refine (szDisk_L _ _ _ _ xs ys is bs _ _ V0.a V0.b V0.i V0.k (by omega) (by omega) HG.out.1).mono ?_
  rintro e w1 ⟨left, rfl, hL, B1⟩
  have X1 := ((AtC.new w 37 #[.slice a1 xs.length c1, .slice a2 ys.length c2, .slice a3 is.length c3, .slice a4 bs.length c4]).alloc (.cells #[.slice p1 xs'.length r1, .slice p2 ys'.length r2, .slice p3 is'.length r3, .slice p4 bs'.length r4] 37)).over B1
  have Y1 := (AtC.new (w.alloc (.cells #[.slice a1 xs.length c1, .slice a2 ys.length c2, .slice a3 is.length c3, .slice a4 bs.length c4] 37)) 37 #[.slice p1 xs'.length r1, .slice p2 ys'.length r2, .slice p3 is'.length r3, .slice p4 bs'.length r4]).over B1
  simp only [World.size_alloc] at Y1
  have V1 := V0.below B1 (Nat.le_refl _)
  have U1 := ((HV.out.2.alloc (.cells #[.slice a1 xs.length c1, .slice a2 ys.length c2, .slice a3 is.length c3, .slice a4 bs.length c4] 37)).alloc (.cells #[.slice p1 xs'.length r1, .slice p2 ys'.length r2, .slice p3 is'.length r3, .slice p4 bs'.length r4] 37)).below B1 (Nat.le_refl _)
  have b1 : Below w.heap.size w w1 := (((Below.refl _ w).alloc (Nat.le_refl _) _).alloc (by simp) _).trans (B1.mono (by simp; omega))
  have HA : Hid (∀ w', Below w1.heap.size w1 w' → (w'.cell? ⟨w.heap.size, 0, none⟩ = some (.slice a1 xs.length c1) ∧ w'.cell? ⟨w.heap.size, 1, none⟩ = some (.slice a2 ys.length c2) ∧ w'.cell? ⟨w.heap.size, 2, none⟩ = some (.slice a3 is.length c3) ∧ w'.cell? ⟨w.heap.size, 3, none⟩ = some (.slice a4 bs.length c4) ∧ w'.cell? ⟨w.heap.size + 1, 0, none⟩ = some (.slice p1 xs'.length r1) ∧ w'.cell? ⟨w.heap.size + 1, 1, none⟩ = some (.slice p2 ys'.length r2) ∧ w'.cell? ⟨w.heap.size + 1, 2, none⟩ = some (.slice p3 is'.length r3) ∧ w'.cell? ⟨w.heap.size + 1, 3, none⟩ = some (.slice p4 bs'.length r4)) ∧ DR w' (.slice a1 xs.length c1) (.slice a2 ys.length c2) (.slice a3 is.length c3) (.slice a4 bs.length c4) xs ys is bs ∧ DR w' (.slice p1 xs'.length r1) (.slice p2 ys'.length r2) (.slice p3 is'.length r3) (.slice p4 bs'.length r4) xs' ys' is' bs' ∧ Below w.heap.size w w' ∧ AtC w' w.heap.size 37 #[.slice a1 xs.length c1, .slice a2 ys.length c2, .slice a3 is.length c3, .slice a4 bs.length c4] ∧ AtC w' (w.heap.size + 1) 37 #[.slice p1 xs'.length r1, .slice p2 ys'.length r2, .slice p3 is'.length r3, .slice p4 bs'.length r4]) := fun w' hb =>
    ⟨⟨(X1.over hb).cell 0, (X1.over hb).cell 1, (X1.over hb).cell 2, (X1.over hb).cell 3, (Y1.over hb).cell 0, (Y1.over hb).cell 1, (Y1.over hb).cell 2, (Y1.over hb).cell 3⟩, V1.below hb (Nat.le_refl _), U1.below hb (Nat.le_refl _), b1.trans (hb.mono b1.size), X1.over hb, Y1.over hb⟩
  have HL := hide hL
  have hL1 : -1 ≤ left := by rcases hL with h | h <;> omega
  have hL2 : left ≤ 1048576 := by rcases hL with h | h <;> omega
  obtain ⟨⟨x0, x1, x2, x3, y0, y1, y2, y3⟩, -⟩ := HA.out _ (Below.refl _ _)
  clear B1 X1 Y1 V1 U1 b1 hL HV V0
  by_cases hneg : left < 0
  · go_wp2
    go_ret
    exact ⟨rfl, (HA.out _ (Below.refl _ _)).2.2.2.1⟩
  · have HBG := hide (HL.out.resolve_left (by omega)).2.2
    have n1 : decide (left < 0) = false := by simp; omega
    have hL3 : 0 ≤ left := by omega
    clear HL hneg
    go_wp2_with fail
    have U2 := (HA.out _ (Below.refl _ _)).2.2.1
    refine (szDisk_L _ _ _ _ xs' ys' is' bs' _ _ U2.a U2.b U2.i U2.k hL3 hL2 HG.out.2).mono ?_
    rintro e w2 ⟨left2, rfl, hL, B2⟩
    have HL := hide hL
    have hL4 : -1 ≤ left2 := by rcases hL with h | h <;> omega
    have HB2 := hide B2
    clear U2 hL x0 x1 x2 x3 y0 y1 y2 y3 B2
    obtain ⟨⟨x0, x1, x2, x3, y0, y1, y2, y3⟩, -⟩ := HA.out _ HB2.out
    by_cases hneg : left2 < 0
    · go_wp2
      go_ret
      exact ⟨rfl, (HA.out _ HB2.out).2.2.2.1⟩
    · have HBG' := hide (HL.out.resolve_left (by omega)).2.2
      have n2 : decide (left2 < 0) = false := by simp; omega
      clear HL hneg
      have BB := HB2.out.drew
      go_wp2
      go_region_held3 (fun w' => w'.cell? ⟨w.heap.size, 0, none⟩ = some (.slice a1 xs.length c1) ∧ w'.cell? ⟨w.heap.size, 1, none⟩ = some (.slice a2 ys.length c2) ∧ w'.cell? ⟨w.heap.size, 2, none⟩ = some (.slice a3 is.length c3) ∧ w'.cell? ⟨w.heap.size, 3, none⟩ = some (.slice a4 bs.length c4) ∧ w'.cell? ⟨w.heap.size + 1, 0, none⟩ = some (.slice p1 xs'.length r1) ∧ w'.cell? ⟨w.heap.size + 1, 1, none⟩ = some (.slice p2 ys'.length r2) ∧ w'.cell? ⟨w.heap.size + 1, 2, none⟩ = some (.slice p3 is'.length r3) ∧ w'.cell? ⟨w.heap.size + 1, 3, none⟩ = some (.slice p4 bs'.length r4)) (exact (HA.out _ BB).1) (first | (go_at_call_of 14 (Value.slice a1 xs.length c1); refine (toDisk_any _ _ _ _ xs ys is bs _ (HA.out _ BB).2.1 HBG.out).mono ?_; rintro e w3 ⟨u3, v3, i3, k3, rfl, O3, B3⟩; obtain ⟨s1, t1, s2, t2, s3, t3, s4, t4, rfl, rfl, rfl, rfl⟩ := O3.dr.form; replace BB := BB.trans (B3.mono BB.size)) | (go_at_call_of 14 (Value.slice p1 xs'.length r1); refine (toDisk_any _ _ _ _ xs' ys' is' bs' _ (HA.out _ BB).2.2.1 HBG'.out).mono ?_; rintro e w4 ⟨u4, v4, i4, k4, rfl, O4, B4⟩; obtain ⟨z1, q1, z2, q2, z3, q3, z4, q4, rfl, rfl, rfl, rfl⟩ := O4.dr.form; replace BB := BB.trans (B4.mono BB.size)) | (go_at_call 18; refine (CS.out _ _ _ _ _ _ _ _ _ (O3.dr.below B4 (Nat.le_refl _)) O4.dr HBG.out).mono ?_; rintro e w5 ⟨rfl, B5⟩; replace BB := BB.trans (B5.mono BB.size)))
      have HBB := hide BB
      clear BB B3 B4 B5 O3 O4 HB2 x0 x1 x2 x3 y0 y1 y2 y3
      obtain ⟨⟨x0, x1, x2, x3, y0, y1, y2, y3⟩, -⟩ := HA.out _ HBB.out
      go_wp2_with fail
      refine (toDisk_any _ _ _ _ xs ys is bs _ (HA.out _ HBB.out).2.1 HBG.out).mono ?_
      clear x0 x1 x2 x3 y0 y1 y2 y3
      rename_i w3' w4' w5'
      rintro e w5 ⟨u3, v3, i3, k3, rfl, O3, B3⟩
      obtain ⟨d1, f1, d2, f2, d3, f3, d4, f4, rfl, rfl, rfl, rfl⟩ := O3.dr.form
      have HB5 := hide (HBB.out.trans (B3.mono HBB.out.size))
      have HO5 := hide O3.dr
      clear B3 O3 HBB
      obtain ⟨⟨x0, x1, x2, x3, y0, y1, y2, y3⟩, -⟩ := HA.out _ (HB5.out.alloc HB5.out.size (.cells #[.slice d1 xs.length f1, .slice d2 ys.length f2, .slice d3 is.length f3, .slice d4 bs.length f4] 28))
      go_wp2_with fail
      refine (toDisk_any _ _ _ _ xs' ys' is' bs' _ (HA.out _ (HB5.out.alloc HB5.out.size (.cells #[.slice d1 xs.length f1, .slice d2 ys.length f2, .slice d3 is.length f3, .slice d4 bs.length f4] 28))).2.2.1 HBG'.out).mono ?_
      clear x0 x1 x2 x3 y0 y1 y2 y3
      rintro e w6 ⟨u3, v3, i3, k3, rfl, O3, B3⟩
      obtain ⟨k1, m1, k2, m2, k3, m3, k4, m4, rfl, rfl, rfl, rfl⟩ := O3.dr.form
      have HB6 := hide ((HB5.out.alloc HB5.out.size (.cells #[.slice d1 xs.length f1, .slice d2 ys.length f2, .slice d3 is.length f3, .slice d4 bs.length f4] 28)).trans (B3.mono (by have := HB5.out.size; simp; omega)))
      have Z6 := (AtC.new w5 28 #[.slice d1 xs.length f1, .slice d2 ys.length f2, .slice d3 is.length f3, .slice d4 bs.length f4]).over B3
      have HO6 := hide O3.dr
      have HO5' := hide ((HO5.out.alloc (.cells #[.slice d1 xs.length f1, .slice d2 ys.length f2, .slice d3 is.length f3, .slice d4 bs.length f4] 28)).below B3 (Nat.le_refl _))
      have HZ6 := hide Z6
      clear B3 O3 HB5 Z6 HO5
      have HX : Hid (∀ w', Below (w6.alloc (.cells #[.slice k1 xs'.length m1, .slice k2 ys'.length m2, .slice k3 is'.length m3, .slice k4 bs'.length m4] 28)).heap.size (w6.alloc (.cells #[.slice k1 xs'.length m1, .slice k2 ys'.length m2, .slice k3 is'.length m3, .slice k4 bs'.length m4] 28)) w' → (w'.cell? ⟨w.heap.size, 0, none⟩ = some (.slice a1 xs.length c1) ∧ w'.cell? ⟨w.heap.size, 1, none⟩ = some (.slice a2 ys.length c2) ∧ w'.cell? ⟨w.heap.size, 2, none⟩ = some (.slice a3 is.length c3) ∧ w'.cell? ⟨w.heap.size, 3, none⟩ = some (.slice a4 bs.length c4) ∧ w'.cell? ⟨w.heap.size + 1, 0, none⟩ = some (.slice p1 xs'.length r1) ∧ w'.cell? ⟨w.heap.size + 1, 1, none⟩ = some (.slice p2 ys'.length r2) ∧ w'.cell? ⟨w.heap.size + 1, 2, none⟩ = some (.slice p3 is'.length r3) ∧ w'.cell? ⟨w.heap.size + 1, 3, none⟩ = some (.slice p4 bs'.length r4) ∧ w'.cell? ⟨w5.heap.size, 0, none⟩ = some (.slice d1 xs.length f1) ∧ w'.cell? ⟨w5.heap.size, 1, none⟩ = some (.slice d2 ys.length f2) ∧ w'.cell? ⟨w5.heap.size, 2, none⟩ = some (.slice d3 is.length f3) ∧ w'.cell? ⟨w5.heap.size, 3, none⟩ = some (.slice d4 bs.length f4) ∧ w'.cell? ⟨w6.heap.size, 0, none⟩ = some (.slice k1 xs'.length m1) ∧ w'.cell? ⟨w6.heap.size, 1, none⟩ = some (.slice k2 ys'.length m2) ∧ w'.cell? ⟨w6.heap.size, 2, none⟩ = some (.slice k3 is'.length m3) ∧ w'.cell? ⟨w6.heap.size, 3, none⟩ = some (.slice k4 bs'.length m4)) ∧ DR w' (.slice a1 xs.length c1) (.slice a2 ys.length c2) (.slice a3 is.length c3) (.slice a4 bs.length c4) xs ys is bs ∧ DR w' (.slice p1 xs'.length r1) (.slice p2 ys'.length r2) (.slice p3 is'.length r3) (.slice p4 bs'.length r4) xs' ys' is' bs' ∧ DR w' (.slice d1 xs.length f1) (.slice d2 ys.length f2) (.slice d3 is.length f3) (.slice d4 bs.length f4) xs ys is bs ∧ DR w' (.slice k1 xs'.length m1) (.slice k2 ys'.length m2) (.slice k3 is'.length m3) (.slice k4 bs'.length m4) xs' ys' is' bs' ∧ Below w.heap.size w w') := fun w' hb =>
        have hb1 := (HB6.out.alloc HB6.out.size (.cells #[.slice k1 xs'.length m1, .slice k2 ys'.length m2, .slice k3 is'.length m3, .slice k4 bs'.length m4] 28)).trans (hb.mono (by have := HB6.out.size; simp; omega))
        have Z := ((HZ6.out.alloc (.cells #[.slice k1 xs'.length m1, .slice k2 ys'.length m2, .slice k3 is'.length m3, .slice k4 bs'.length m4] 28)).over hb)
        have Z' := (AtC.new w6 28 #[.slice k1 xs'.length m1, .slice k2 ys'.length m2, .slice k3 is'.length m3, .slice k4 bs'.length m4]).over hb
        have c := (HA.out _ hb1).1
        ⟨⟨c.1, c.2.1, c.2.2.1, c.2.2.2.1, c.2.2.2.2.1, c.2.2.2.2.2.1, c.2.2.2.2.2.2.1, c.2.2.2.2.2.2.2, Z.cell 0, Z.cell 1, Z.cell 2, Z.cell 3, Z'.cell 0, Z'.cell 1, Z'.cell 2, Z'.cell 3⟩, (HA.out _ hb1).2.1, (HA.out _ hb1).2.2.1, (HO5'.out.alloc _).below hb (Nat.le_refl _), (HO6.out.alloc _).below hb (Nat.le_refl _), (HA.out _ hb1).2.2.2.1⟩
      obtain ⟨⟨x0, x1, x2, x3, y0, y1, y2, y3, g0, g1, g2, g3, l0, l1, l2, l3⟩, -⟩ := HX.out _ (Below.refl _ _)
      clear HA HO5' HO6 HZ6 HB6
      go_wp2_with fail
      refine (CI.out _ _ _ _ _ _ _ _ _ (HX.out _ (Below.refl _ _)).2.2.2.1 (HX.out _ (Below.refl _ _)).2.2.2.2.1 HBG.out).mono ?_
      clear x0 x1 x2 x3 y0 y1 y2 y3 g0 g1 g2 g3 l0 l1 l2 l3
      rintro e w7 ⟨rfl, B7⟩
      have HB7 := hide B7
      clear B7
      obtain ⟨⟨x0, x1, x2, x3, y0, y1, y2, y3, g0, g1, g2, g3, l0, l1, l2, l3⟩, -⟩ := HX.out _ HB7.out
      have BB := HB7.out.drew
      go_wp2
      go_region_held3 (fun w' => w'.cell? ⟨w.heap.size, 0, none⟩ = some (.slice a1 xs.length c1) ∧ w'.cell? ⟨w.heap.size, 1, none⟩ = some (.slice a2 ys.length c2) ∧ w'.cell? ⟨w.heap.size, 2, none⟩ = some (.slice a3 is.length c3) ∧ w'.cell? ⟨w.heap.size, 3, none⟩ = some (.slice a4 bs.length c4) ∧ w'.cell? ⟨w.heap.size + 1, 0, none⟩ = some (.slice p1 xs'.length r1) ∧ w'.cell? ⟨w.heap.size + 1, 1, none⟩ = some (.slice p2 ys'.length r2) ∧ w'.cell? ⟨w.heap.size + 1, 2, none⟩ = some (.slice p3 is'.length r3) ∧ w'.cell? ⟨w.heap.size + 1, 3, none⟩ = some (.slice p4 bs'.length r4) ∧ w'.cell? ⟨w5.heap.size, 0, none⟩ = some (.slice d1 xs.length f1) ∧ w'.cell? ⟨w5.heap.size, 1, none⟩ = some (.slice d2 ys.length f2) ∧ w'.cell? ⟨w5.heap.size, 2, none⟩ = some (.slice d3 is.length f3) ∧ w'.cell? ⟨w5.heap.size, 3, none⟩ = some (.slice d4 bs.length f4) ∧ w'.cell? ⟨w6.heap.size, 0, none⟩ = some (.slice k1 xs'.length m1) ∧ w'.cell? ⟨w6.heap.size, 1, none⟩ = some (.slice k2 ys'.length m2) ∧ w'.cell? ⟨w6.heap.size, 2, none⟩ = some (.slice k3 is'.length m3) ∧ w'.cell? ⟨w6.heap.size, 3, none⟩ = some (.slice k4 bs'.length m4)) (first | exact (HX.out _ BB).1 | exact (HX.out _ (BB.trans (B8.mono BB.size))).1) (first | (go_at_call 14; refine (toDisk_any _ _ _ _ xs ys is bs _ (HX.out _ BB).2.1 HBG.out).mono ?_; rintro e w3 ⟨u3, v3, i3, k3, rfl, O3, B3⟩; obtain ⟨s1, t1, s2, t2, s3, t3, s4, t4, rfl, rfl, rfl, rfl⟩ := O3.dr.form; replace BB := BB.trans (B3.mono BB.size)) | (go_at_call 9; refine (eqDisk_same _ _ _ _ _ _ _ _ xs ys is bs _ (HX.out _ BB).2.2.2.1 O3.dr HBG.out).mono ?_; rintro e w8 ⟨rfl, B8⟩))
      have HB8 := hide (BB.trans (B8.mono BB.size))
      clear BB B3 B8 O3 HB7 x0 x1 x2 x3 y0 y1 y2 y3 g0 g1 g2 g3 l0 l1 l2 l3
      obtain ⟨⟨x0, x1, x2, x3, y0, y1, y2, y3, g0, g1, g2, g3, l0, l1, l2, l3⟩, -⟩ := HX.out _ HB8.out
      have BB := HB8.out.drew
      go_wp2
      go_region_held3 (fun w' => w'.cell? ⟨w.heap.size, 0, none⟩ = some (.slice a1 xs.length c1) ∧ w'.cell? ⟨w.heap.size, 1, none⟩ = some (.slice a2 ys.length c2) ∧ w'.cell? ⟨w.heap.size, 2, none⟩ = some (.slice a3 is.length c3) ∧ w'.cell? ⟨w.heap.size, 3, none⟩ = some (.slice a4 bs.length c4) ∧ w'.cell? ⟨w.heap.size + 1, 0, none⟩ = some (.slice p1 xs'.length r1) ∧ w'.cell? ⟨w.heap.size + 1, 1, none⟩ = some (.slice p2 ys'.length r2) ∧ w'.cell? ⟨w.heap.size + 1, 2, none⟩ = some (.slice p3 is'.length r3) ∧ w'.cell? ⟨w.heap.size + 1, 3, none⟩ = some (.slice p4 bs'.length r4) ∧ w'.cell? ⟨w5.heap.size, 0, none⟩ = some (.slice d1 xs.length f1) ∧ w'.cell? ⟨w5.heap.size, 1, none⟩ = some (.slice d2 ys.length f2) ∧ w'.cell? ⟨w5.heap.size, 2, none⟩ = some (.slice d3 is.length f3) ∧ w'.cell? ⟨w5.heap.size, 3, none⟩ = some (.slice d4 bs.length f4) ∧ w'.cell? ⟨w6.heap.size, 0, none⟩ = some (.slice k1 xs'.length m1) ∧ w'.cell? ⟨w6.heap.size, 1, none⟩ = some (.slice k2 ys'.length m2) ∧ w'.cell? ⟨w6.heap.size, 2, none⟩ = some (.slice k3 is'.length m3) ∧ w'.cell? ⟨w6.heap.size, 3, none⟩ = some (.slice k4 bs'.length m4)) (first | exact (HX.out _ BB).1 | exact (HX.out _ (BB.trans (B8.mono BB.size))).1) (first | (go_at_call 14; refine (toDisk_any _ _ _ _ xs' ys' is' bs' _ (HX.out _ BB).2.2.1 HBG'.out).mono ?_; rintro e w3 ⟨u3, v3, i3, k3, rfl, O3, B3⟩; obtain ⟨s1, t1, s2, t2, s3, t3, s4, t4, rfl, rfl, rfl, rfl⟩ := O3.dr.form; replace BB := BB.trans (B3.mono BB.size)) | (go_at_call 9; refine (eqDisk_same _ _ _ _ _ _ _ _ xs' ys' is' bs' _ (HX.out _ BB).2.2.2.2.1 O3.dr HBG'.out).mono ?_; rintro e w8 ⟨rfl, B8⟩))
      have HB9 := hide (HX.out _ (BB.trans (B8.mono BB.size))).2.2.2.2.2
      clear BB B3 B8 O3 HB8 x0 x1 x2 x3 y0 y1 y2 y3 g0 g1 g2 g3 l0 l1 l2 l3
      go_wp2
      go_ret
      exact ⟨rfl, HB9.out⟩
end Go.Proofs.Ytajollmmpdkhbaa.fnExactSameDisk
