/- The walk of laws.FnExactDiskNew: it returns true. -/
import Derived.Test.YtajollmmpdkhbaaDq
import Derived.Test.YtajollmmpdkhbaaMd
import Derived.Test.YtajollmmpdkhbaaQs
namespace Go.Proofs.Ytajollmmpdkhbaa.fnExactDiskNew
open Go.RowKit Kit
theorem big : Big 1048576 newX newY newIs newBs := by
  refine ⟨by decide, by decide, by decide, ?_, by decide, ?_⟩
  · intro j h
    have e : ∀ x ∈ newIs, x.2.2.length ≤ 1048576 := by decide
    exact e _ (List.getElem_mem h)
  · intro j h
    have e : ∀ b ∈ newBs, b = zB := fun b hb => List.eq_of_mem_replicate hb
    rw [e _ (List.getElem_mem h)]
    exact ⟨by decide, fun j h => by simp [zB] at h, by decide⟩
theorem total : cntD 1 newX newY newIs newBs ≤ 1000000 := by decide +kernel
set_option maxRecDepth 100000 in
set_option maxHeartbeats 3200000 in
theorem walk (w : World) : Calls Try.prog 3 #[] w fun e w' => e = .returned (.bool true) ∧ Below w.heap.size w w' := by
  have HT := hide total
  have HG := hide big
  obtain ⟨N, hN⟩ : ∃ N, cntD 1 newX newY newIs newBs = N := ⟨_, rfl⟩
  have CM := hide (fun u v iv bv S W h => markDisk_any u v iv bv newX newY newIs newBs S 1 W h (by decide) HT.out)
  have CH := hide (fun u v iv bv S W h => heldDisk_any u v iv bv newX newY newIs newBs S 1 W h (by decide) HT.out)
  rw [hN] at CM CH
  have n0 : ¬ ((N : Int) < 0) := by omega
  clear hN
  go_enter Try.func3, Try.ntmps3
  go_wp2_with fail
  refine (specNew_disk w).mono ?_
  rintro e w1 ⟨u1, v1, i1, b1, rfl, O1, B1⟩
  obtain ⟨a1, c1, a2, c2, a3, c3, a4, c4, rfl, rfl, rfl, rfl⟩ := O1.dr.form
  have H1 := hide (And.intro (O1.dr.alloc (.cells #[.slice a1 newX.length c1, .slice a2 newY.length c2, .slice a3 newIs.length c3, .slice a4 newBs.length c4] 28)) (And.intro (B1.alloc B1.size (.cells #[.slice a1 newX.length c1, .slice a2 newY.length c2, .slice a3 newIs.length c3, .slice a4 newBs.length c4] 28)) (AtC.new w1 28 #[.slice a1 newX.length c1, .slice a2 newY.length c2, .slice a3 newIs.length c3, .slice a4 newBs.length c4])))
  clear O1 B1
  go_wp2_with fail
  generalize w1.heap.size = b1 at *
  generalize w1.alloc (.cells #[.slice a1 newX.length c1, .slice a2 newY.length c2, .slice a3 newIs.length c3, .slice a4 newBs.length c4] 28) = W1 at *
  refine (implNew_disk W1).mono ?_
  rintro e w2 ⟨u2, v2, i2, k2, rfl, O2, B2⟩
  obtain ⟨d1, f1, d2, f2, d3, f3, d4, f4, rfl, rfl, rfl, rfl⟩ := O2.dr.form
  have O2b : DO w2 (fun k => W1.heap.size ≤ k ∧ k < w2.heap.size) (.slice d1 newX.length f1) (.slice d2 newY.length f2) (.slice d3 newIs.length f3) (.slice d4 newBs.length f4) newX newY newIs newBs := by
    obtain ⟨S1, S2, S3, ti, tb, e1, e2, e3, e4, e5, e6, e7⟩ := O2
    refine ⟨fun k => S1 k ∧ k < w2.heap.size, _, _, ti, tb, e1, fun k hk => ⟨e2 k hk, hk.elim (fun e => (e1.a.lt k e).2) (fun e => (e1.b.lt k e).2)⟩, e3.bound, e4.bound, fun k hk => ⟨fun e => (e5 k hk.1).1 e.1, fun e => (e5 k hk.1).2 e.1⟩, fun k hk e => e6 k hk.1 e.1, fun k hk => ?_⟩
    rcases hk with hk | hk | hk
    · exact ⟨e7 k (.inl hk.1), hk.2⟩
    · exact ⟨e7 k (.inr (.inl hk.1)), hk.2⟩
    · exact ⟨e7 k (.inr (.inr hk.1)), hk.2⟩
  have H2 := hide (And.intro ((H1.out.1.below B2 (Nat.le_refl _)).alloc (.cells #[.slice d1 newX.length f1, .slice d2 newY.length f2, .slice d3 newIs.length f3, .slice d4 newBs.length f4] 28)) (And.intro ((H1.out.2.1.trans (B2.mono H1.out.2.1.size)).alloc (Nat.le_trans H1.out.2.1.size B2.size) (.cells #[.slice d1 newX.length f1, .slice d2 newY.length f2, .slice d3 newIs.length f3, .slice d4 newBs.length f4] 28)) (And.intro ((H1.out.2.2.over B2).alloc (.cells #[.slice d1 newX.length f1, .slice d2 newY.length f2, .slice d3 newIs.length f3, .slice d4 newBs.length f4] 28)) (And.intro (AtC.new w2 28 #[.slice d1 newX.length f1, .slice d2 newY.length f2, .slice d3 newIs.length f3, .slice d4 newBs.length f4]) (O2b.alloc (.cells #[.slice d1 newX.length f1, .slice d2 newY.length f2, .slice d3 newIs.length f3, .slice d4 newBs.length f4] 28))))))
  have HBW := hide (B2.alloc B2.size (.cells #[.slice d1 newX.length f1, .slice d2 newY.length f2, .slice d3 newIs.length f3, .slice d4 newBs.length f4] 28))
  have sz2 := H1.out.2.1.size
  have sz3 := B2.size
  have hb1 := H1.out.2.2.lt
  have x0 : (w2.alloc (.cells #[.slice d1 newX.length f1, .slice d2 newY.length f2, .slice d3 newIs.length f3, .slice d4 newBs.length f4] 28)).cell? ⟨b1, 0, none⟩ = some (.slice a1 newX.length c1) := H2.out.2.2.1.cell 0
  have x1 : (w2.alloc (.cells #[.slice d1 newX.length f1, .slice d2 newY.length f2, .slice d3 newIs.length f3, .slice d4 newBs.length f4] 28)).cell? ⟨b1, 1, none⟩ = some (.slice a2 newY.length c2) := H2.out.2.2.1.cell 1
  have x2 : (w2.alloc (.cells #[.slice d1 newX.length f1, .slice d2 newY.length f2, .slice d3 newIs.length f3, .slice d4 newBs.length f4] 28)).cell? ⟨b1, 2, none⟩ = some (.slice a3 newIs.length c3) := H2.out.2.2.1.cell 2
  have x3 : (w2.alloc (.cells #[.slice d1 newX.length f1, .slice d2 newY.length f2, .slice d3 newIs.length f3, .slice d4 newBs.length f4] 28)).cell? ⟨b1, 3, none⟩ = some (.slice a4 newBs.length c4) := H2.out.2.2.1.cell 3
  clear O2 B2 O2b
  go_wp2_with fail
  generalize hb2 : w2.heap.size = b2 at *
  generalize w2.alloc (.cells #[.slice d1 newX.length f1, .slice d2 newY.length f2, .slice d3 newIs.length f3, .slice d4 newBs.length f4] 28) = W2 at *
  refine (eqDisk_same _ _ _ _ _ _ _ _ newX newY newIs newBs W2 H2.out.2.2.2.2.dr H2.out.1 HG.out).mono ?_
  rintro e w3 ⟨rfl, B3⟩
  have HBW3 := hide (HBW.out.trans (B3.mono HBW.out.size))
  have H3 := hide (And.intro (H2.out.1.below B3 (Nat.le_refl _)) (And.intro (H2.out.2.1.trans (B3.mono H2.out.2.1.size)) (And.intro (H2.out.2.2.1.over B3) (And.intro (H2.out.2.2.2.1.over B3) (H2.out.2.2.2.2.below B3 (Nat.le_refl _))))))
  have y0 : w3.cell? ⟨b2, 0, none⟩ = some (.slice d1 newX.length f1) := H3.out.2.2.2.1.cell 0
  have y1 : w3.cell? ⟨b2, 1, none⟩ = some (.slice d2 newY.length f2) := H3.out.2.2.2.1.cell 1
  have y2 : w3.cell? ⟨b2, 2, none⟩ = some (.slice d3 newIs.length f3) := H3.out.2.2.2.1.cell 2
  have y3 : w3.cell? ⟨b2, 3, none⟩ = some (.slice d4 newBs.length f4) := H3.out.2.2.2.1.cell 3
  clear B3 H2 x0 x1 x2 x3 hb2
  go_wp2_with fail
  refine (CM.out _ _ _ _ _ w3 H3.out.2.2.2.2).mono ?_
  rintro e w4 ⟨rfl, M4, C4⟩
  have BW4 : Below W1.heap.size W1 w4 := HBW3.out.trans (C4.below HBW3.out.size (fun k hk => hk.1))
  have bel4 : Below w.heap.size w w4 := H3.out.2.1.trans (C4.below H3.out.2.1.size (fun k hk => Nat.le_trans sz2 hk.1))
  have X4 : AtC w4 b2 28 #[.slice d1 newX.length f1, .slice d2 newY.length f2, .slice d3 newIs.length f3, .slice d4 newBs.length f4] := (C4.block b2 H3.out.2.2.2.1.lt (fun e => Nat.lt_irrefl _ e.2)).trans H3.out.2.2.2.1
  have HS : Hid (∀ w', Below w4.heap.size w4 w' → Below W1.heap.size W1 w' ∧ Below w.heap.size w w' ∧ AtC w' b2 28 #[.slice d1 newX.length f1, .slice d2 newY.length f2, .slice d3 newIs.length f3, .slice d4 newBs.length f4] ∧ AtC w' b1 28 #[.slice a1 newX.length c1, .slice a2 newY.length c2, .slice a3 newIs.length c3, .slice a4 newBs.length c4] ∧ DR w' (.slice a1 newX.length c1) (.slice a2 newY.length c2) (.slice a3 newIs.length c3) (.slice a4 newBs.length c4) newX newY newIs newBs ∧ DM w' (fun k => W1.heap.size ≤ k ∧ k < b2) (.slice d1 newX.length f1) (.slice d2 newY.length f2) (.slice d3 newIs.length f3) (.slice d4 newBs.length f4) 1 newX newY newIs newBs) := fun w' hb =>
    have hb2 := BW4.trans (hb.mono BW4.size)
    ⟨hb2, bel4.trans (hb.mono bel4.size), X4.over hb, H1.out.2.2.over hb2, H1.out.1.below hb2 (Nat.le_refl _), DO.below M4 hb (Nat.le_refl _)⟩
  clear BW4 bel4 X4 M4 C4 H3 HBW HBW3 y0 y1 y2 y3 CM H1
  obtain ⟨-, -, X4, -⟩ := HS.out _ (Below.refl _ _)
  have y0 : w4.cell? ⟨b2, 0, none⟩ = some (.slice d1 newX.length f1) := X4.cell 0
  have y1 : w4.cell? ⟨b2, 1, none⟩ = some (.slice d2 newY.length f2) := X4.cell 1
  have y2 : w4.cell? ⟨b2, 2, none⟩ = some (.slice d3 newIs.length f3) := X4.cell 2
  have y3 : w4.cell? ⟨b2, 3, none⟩ = some (.slice d4 newBs.length f4) := X4.cell 3
  clear X4
  go_wp2_with fail
  refine (CH.out _ _ _ _ _ w4 (HS.out _ (Below.refl _ _)).2.2.2.2.2).mono ?_
  rintro e w5 ⟨rfl, B5⟩
  have H5 := hide B5
  clear B5 y0 y1 y2 y3
  go_wp2_with fail
  refine (implNew_disk w5).mono ?_
  rintro e w6 ⟨u6, v6, i6, j6, rfl, O6, B6⟩
  obtain ⟨k1, m1, k2, m2, k3, m3, k4, m4, rfl, rfl, rfl, rfl⟩ := O6.dr.form
  have H6 := hide (And.intro ((H5.out.trans (B6.mono H5.out.size)).alloc (Nat.le_trans H5.out.size B6.size) (.cells #[.slice k1 newX.length m1, .slice k2 newY.length m2, .slice k3 newIs.length m3, .slice k4 newBs.length m4] 28)) (O6.dr.alloc (.cells #[.slice k1 newX.length m1, .slice k2 newY.length m2, .slice k3 newIs.length m3, .slice k4 newBs.length m4] 28)))
  obtain ⟨-, -, -, X6, -⟩ := HS.out _ H6.out.1
  have x0 : (w6.alloc (.cells #[.slice k1 newX.length m1, .slice k2 newY.length m2, .slice k3 newIs.length m3, .slice k4 newBs.length m4] 28)).cell? ⟨b1, 0, none⟩ = some (.slice a1 newX.length c1) := X6.cell 0
  have x1 : (w6.alloc (.cells #[.slice k1 newX.length m1, .slice k2 newY.length m2, .slice k3 newIs.length m3, .slice k4 newBs.length m4] 28)).cell? ⟨b1, 1, none⟩ = some (.slice a2 newY.length c2) := X6.cell 1
  have x2 : (w6.alloc (.cells #[.slice k1 newX.length m1, .slice k2 newY.length m2, .slice k3 newIs.length m3, .slice k4 newBs.length m4] 28)).cell? ⟨b1, 2, none⟩ = some (.slice a3 newIs.length c3) := X6.cell 2
  have x3 : (w6.alloc (.cells #[.slice k1 newX.length m1, .slice k2 newY.length m2, .slice k3 newIs.length m3, .slice k4 newBs.length m4] 28)).cell? ⟨b1, 3, none⟩ = some (.slice a4 newBs.length c4) := X6.cell 3
  clear O6 B6 X6 H5
  go_wp2_with fail
  generalize w6.heap.size = b6 at *
  generalize w6.alloc (.cells #[.slice k1 newX.length m1, .slice k2 newY.length m2, .slice k3 newIs.length m3, .slice k4 newBs.length m4] 28) = W6 at *
  refine (eqDisk_same _ _ _ _ _ _ _ _ newX newY newIs newBs W6 H6.out.2 (HS.out _ H6.out.1).2.2.2.2.1 HG.out).mono ?_
  rintro e w7 ⟨rfl, B7⟩
  have H7 := hide (H6.out.1.trans (B7.mono H6.out.1.size))
  obtain ⟨-, -, X7, -⟩ := HS.out _ H7.out
  have y0 : w7.cell? ⟨b2, 0, none⟩ = some (.slice d1 newX.length f1) := X7.cell 0
  have y1 : w7.cell? ⟨b2, 1, none⟩ = some (.slice d2 newY.length f2) := X7.cell 1
  have y2 : w7.cell? ⟨b2, 2, none⟩ = some (.slice d3 newIs.length f3) := X7.cell 2
  have y3 : w7.cell? ⟨b2, 3, none⟩ = some (.slice d4 newBs.length f4) := X7.cell 3
  clear X7 B7 H6 x0 x1 x2 x3
  go_wp2_with fail
  refine (CH.out _ _ _ _ _ w7 (HS.out _ H7.out).2.2.2.2.2).mono ?_
  rintro e w8 ⟨rfl, B8⟩
  have H8 := hide (HS.out _ (H7.out.trans (B8.mono H7.out.size))).2.1
  clear B8 y0 y1 y2 y3
  go_wp2
  go_ret
  exact ⟨rfl, H8.out⟩
end Go.Proofs.Ytajollmmpdkhbaa.fnExactDiskNew
