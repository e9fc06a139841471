/- Texts of the proof, bundled: LawTn. -/
import Derived.Deep.RegionHeld3
import Derived.Test.YtggjillpfclajaaGreatUTakeIno02
import Derived.Test.YtggjillpfclajaaGreatU14
import Derived.Test.YtggjillpfclajaaGreatU15
import Derived.Test.YtggjillpfclajaaGreatU16
/- The walk of laws.FnExactTakeIno: it returns true at every memory. -/
namespace Go.Proofs.YtggjillpfclajaaGreat.fnExactTakeIno
open Go.RowKit Kit
theorem big_take {m : MD} (h : BigM 1048576 m) : BigM 1048576 (takeI m) := by
  unfold takeI
  split
  · exact h
  · exact ⟨⟨h.d.x, by rw [List.length_set]; exact h.d.y, h.d.i, h.d.p, h.d.b, h.d.s⟩, by rw [List.length_set]; exact h.f, h.l, h.b, h.t⟩
set_option maxRecDepth 100000 in
set_option maxHeartbeats 3200000 in
theorem walk (u v iv bv dv pv : Value) (m : MD) (w : World) (h : MR w u v iv bv dv pv m) (hB : BigM maxLen m) (hw : ∀ (j : Nat) (h : j < m.ds.length), (Lit.int .i64 m.ds[j].id).wf = true) :
    Calls Tryz.prog 4 #[.agg #[u, v, iv, bv, dv, pv, .int .i64 m.nx]] w fun e w' => e = .returned (.bool true) ∧ Below w.heap.size w w' := by
  have HW := hide hw
  clear hw
  have HV := hide h
  have HG := hide hB
  obtain ⟨a1, c1, a2, c2, a3, c3, a4, c4, a5, c5, a6, c6, rfl, rfl, rfl, rfl, rfl, rfl⟩ := h.form
  clear h hB
  go_enter Tryz.func4, Tryz.ntmps4
  go_wp2_with fail
  refine (szMem_L _ _ _ _ _ _ m _ _ (HV.out.alloc _) (by omega) (by omega) HG.out).mono ?_
  rintro e w1 ⟨left, rfl, hL, B1⟩
  have X1 : AtC w1 w.heap.size 31 #[.slice a1 m.xs.length c1, .slice a2 m.ys.length c2, .slice a3 m.is.length c3, .slice a4 m.bs.length c4, .slice a5 m.fs.length c5, .slice a6 m.ds.length c6, .int .i64 m.nx] := (AtC.new w 31 _).over B1
  have b1 : Below w.heap.size w w1 := ((Below.refl _ w).alloc (Nat.le_refl _) _).trans (B1.mono (by simp))
  have x0 : w1.cell? ⟨w.heap.size, 0, none⟩ = some (.slice a1 m.xs.length c1) := X1.cell 0
  have x1 : w1.cell? ⟨w.heap.size, 1, none⟩ = some (.slice a2 m.ys.length c2) := X1.cell 1
  have x2 : w1.cell? ⟨w.heap.size, 2, none⟩ = some (.slice a3 m.is.length c3) := X1.cell 2
  have x3 : w1.cell? ⟨w.heap.size, 3, none⟩ = some (.slice a4 m.bs.length c4) := X1.cell 3
  have x4 : w1.cell? ⟨w.heap.size, 4, none⟩ = some (.slice a5 m.fs.length c5) := X1.cell 4
  have x5 : w1.cell? ⟨w.heap.size, 5, none⟩ = some (.slice a6 m.ds.length c6) := X1.cell 5
  have x6 : w1.cell? ⟨w.heap.size, 6, none⟩ = some (.int .i64 m.nx) := X1.cell 6
  have H1 := hide (And.intro X1 b1)
  have HL := hide hL
  have hL1 : -1 ≤ left := by rcases hL with h | h <;> omega
  clear B1 X1 b1 hL
  by_cases hneg : left < 0
  · go_wp2
    go_ret
    exact ⟨rfl, H1.out.2⟩
  · have HBG := hide (HL.out.resolve_left (by omega)).2.2
    have n1 : decide (left < 0) = false := by simp; omega
    clear HL hneg
    have HBR : Hid (BigM 1048576 (takeI m)) := big_take HBG.out
    have CS : Hid (∀ W u v iv bv dv pv, MR W u v iv bv dv pv m → Calls Tryz.prog 14 #[.agg #[u, v, iv, bv, dv, pv, .int .i64 m.nx]] W fun e w' => ∃ u' v' i' b' d' p', e = .returned (.tuple #[.agg #[u', v', i', b', d', p', .int .i64 ((takeI m)).nx], .int .i64 (ff m.ys : Nat)]) ∧ MO w' (fun k => W.heap.size ≤ k) u' v' i' b' d' p' (takeI m) ∧ Below W.heap.size W w') := fun W u v iv bv dv pv h => by
      rw [takeI_nx]
      exact takeIS_any u v iv bv dv pv m W h HBG.out
    have CI : Hid (∀ W u v iv bv dv pv, MR W u v iv bv dv pv m → Calls Tryz.prog 15 #[.agg #[u, v, iv, bv, dv, pv, .int .i64 m.nx]] W fun e w' => ∃ u' v' i' b' d' p', e = .returned (.tuple #[.agg #[u', v', i', b', d', p', .int .i64 ((takeI m)).nx], .int .i64 (ff m.ys : Nat)]) ∧ MO w' (fun k => W.heap.size ≤ k) u' v' i' b' d' p' (takeI m) ∧ Below W.heap.size W w') := fun W u v iv bv dv pv h => by
      rw [takeI_nx]
      exact takeII_any u v iv bv dv pv m W h HBG.out HW.out
    obtain ⟨R, hR⟩ : ∃ R, (takeI m) = R := ⟨_, rfl⟩
    obtain ⟨NF, hNF⟩ : ∃ n, ff m.ys = n := ⟨_, rfl⟩
    rw [hR, hNF] at CS CI
    rw [hR] at HBR
    have CM0 : Hid (∀ u v iv bv dv pv S W, MO W S u v iv bv dv pv R → Calls Tryz.prog 12 #[.agg #[u, v, iv, bv, dv, pv, .int .i64 R.nx], .int .i64 1] W fun e w' => e = .returned (.int .i64 (cntM 1 R : Nat)) ∧ MO w' S u v iv bv dv pv (mkM 1 R) ∧ Chg S W w') := fun u v iv bv dv pv S W h => markMem_any u v iv bv dv pv R S 1 W h (by decide) (cntM_big HBR.out)
    have CH0 : Hid (∀ u v iv bv dv pv S W, MO W S u v iv bv dv pv (mkM 1 R) → Calls Tryz.prog 13 #[.agg #[u, v, iv, bv, dv, pv, .int .i64 R.nx], .int .i64 1] W fun e w' => e = .returned (.int .i64 (cntM 1 R : Nat)) ∧ Below W.heap.size W w') := fun u v iv bv dv pv S W h => heldMem_any u v iv bv dv pv R S 1 W h (by decide) (cntM_big HBR.out)
    obtain ⟨NM, hNM⟩ : ∃ n, cntM 1 R = n := ⟨_, rfl⟩
    have CM := CM0
    have CH := CH0
    rw [hNM] at CM CH
    have nNM : ¬ ((NM : Int) < 0) := by omega
    obtain ⟨ND, hND⟩ : ∃ n, cntM 1 m = n := ⟨_, rfl⟩
    have CX : Hid (∀ S W u v iv bv dv pv, MO W S u v iv bv dv pv m → Calls Tryz.prog 12 #[.agg #[u, v, iv, bv, dv, pv, .int .i64 m.nx], .int .i64 1] W fun e w' => e = .returned (.int .i64 (ND : Nat)) ∧ MO w' S u v iv bv dv pv (mkM 1 m) ∧ Chg S W w') := fun S W u v iv bv dv pv h => by
      have := markMem_any u v iv bv dv pv m S 1 W h (by decide) (cntM_big HBG.out)
      rw [hND] at this
      exact this
    have nND : ¬ ((ND : Int) < 0) := by omega
    clear hR hNM hND hNF CM0 CH0
    go_wp2_with fail
    refine (toMem_any _ _ _ _ _ _ m w1 (HV.out.below H1.out.2 (Nat.le_refl _)) HBG.out).mono ?_
    rintro e w2 ⟨u1, u2, u3, u4, u5, u6, rfl, O2, B2⟩
    obtain ⟨s1, t1, s2, t2, s3, t3, s4, t4, s5, t5, s6, t6, rfl, rfl, rfl, rfl, rfl, rfl⟩ := O2.mr.form
    have H2 := hide (And.intro (H1.out.1.over B2) (H1.out.2.trans (B2.mono H1.out.2.size)))
    have R2 := hide O2.mr
    clear B2 O2 x0 x1 x2 x3 x4 x5 x6 n1 H1
    go_wp2_with fail
    refine (CS.out w2 _ _ _ _ _ _ R2.out).mono ?_
    rintro e w3 ⟨v1, v2, v3, v4, v5, v6, rfl, O3, B3⟩
    obtain ⟨p1, q1, p2, q2, p3, q3, p4, q4, p5, q5, p6, q6, rfl, rfl, rfl, rfl, rfl, rfl⟩ := O3.mr.form
    have X3 := (H2.out.1.over B3).alloc (.cells #[.slice p1 R.xs.length q1, .slice p2 R.ys.length q2, .slice p3 R.is.length q3, .slice p4 R.bs.length q4, .slice p5 R.fs.length q5, .slice p6 R.ds.length q6, .int .i64 R.nx] 40)
    have b3 := (H2.out.2.trans (B3.mono H2.out.2.size)).alloc (Nat.le_trans H2.out.2.size B3.size) (.cells #[.slice p1 R.xs.length q1, .slice p2 R.ys.length q2, .slice p3 R.is.length q3, .slice p4 R.bs.length q4, .slice p5 R.fs.length q5, .slice p6 R.ds.length q6, .int .i64 R.nx] 40)
    have H3 := hide (And.intro X3 (And.intro b3 (And.intro (AtC.new w3 40 #[.slice p1 R.xs.length q1, .slice p2 R.ys.length q2, .slice p3 R.is.length q3, .slice p4 R.bs.length q4, .slice p5 R.fs.length q5, .slice p6 R.ds.length q6, .int .i64 R.nx]) (O3.mr.alloc (.cells #[.slice p1 R.xs.length q1, .slice p2 R.ys.length q2, .slice p3 R.is.length q3, .slice p4 R.bs.length q4, .slice p5 R.fs.length q5, .slice p6 R.ds.length q6, .int .i64 R.nx] 40)))))
    have x0 : (w3.alloc (.cells #[.slice p1 R.xs.length q1, .slice p2 R.ys.length q2, .slice p3 R.is.length q3, .slice p4 R.bs.length q4, .slice p5 R.fs.length q5, .slice p6 R.ds.length q6, .int .i64 R.nx] 40)).cell? ⟨w.heap.size, 0, none⟩ = some (.slice a1 m.xs.length c1) := X3.cell 0
    have x1 : (w3.alloc (.cells #[.slice p1 R.xs.length q1, .slice p2 R.ys.length q2, .slice p3 R.is.length q3, .slice p4 R.bs.length q4, .slice p5 R.fs.length q5, .slice p6 R.ds.length q6, .int .i64 R.nx] 40)).cell? ⟨w.heap.size, 1, none⟩ = some (.slice a2 m.ys.length c2) := X3.cell 1
    have x2 : (w3.alloc (.cells #[.slice p1 R.xs.length q1, .slice p2 R.ys.length q2, .slice p3 R.is.length q3, .slice p4 R.bs.length q4, .slice p5 R.fs.length q5, .slice p6 R.ds.length q6, .int .i64 R.nx] 40)).cell? ⟨w.heap.size, 2, none⟩ = some (.slice a3 m.is.length c3) := X3.cell 2
    have x3 : (w3.alloc (.cells #[.slice p1 R.xs.length q1, .slice p2 R.ys.length q2, .slice p3 R.is.length q3, .slice p4 R.bs.length q4, .slice p5 R.fs.length q5, .slice p6 R.ds.length q6, .int .i64 R.nx] 40)).cell? ⟨w.heap.size, 3, none⟩ = some (.slice a4 m.bs.length c4) := X3.cell 3
    have x4 : (w3.alloc (.cells #[.slice p1 R.xs.length q1, .slice p2 R.ys.length q2, .slice p3 R.is.length q3, .slice p4 R.bs.length q4, .slice p5 R.fs.length q5, .slice p6 R.ds.length q6, .int .i64 R.nx] 40)).cell? ⟨w.heap.size, 4, none⟩ = some (.slice a5 m.fs.length c5) := X3.cell 4
    have x5 : (w3.alloc (.cells #[.slice p1 R.xs.length q1, .slice p2 R.ys.length q2, .slice p3 R.is.length q3, .slice p4 R.bs.length q4, .slice p5 R.fs.length q5, .slice p6 R.ds.length q6, .int .i64 R.nx] 40)).cell? ⟨w.heap.size, 5, none⟩ = some (.slice a6 m.ds.length c6) := X3.cell 5
    have x6 : (w3.alloc (.cells #[.slice p1 R.xs.length q1, .slice p2 R.ys.length q2, .slice p3 R.is.length q3, .slice p4 R.bs.length q4, .slice p5 R.fs.length q5, .slice p6 R.ds.length q6, .int .i64 R.nx] 40)).cell? ⟨w.heap.size, 6, none⟩ = some (.int .i64 m.nx) := X3.cell 6
    clear B3 O3 X3 b3 H2 R2
    go_wp2_with fail
    generalize w3.heap.size = bw at *
    generalize w3.alloc (.cells #[.slice p1 R.xs.length q1, .slice p2 R.ys.length q2, .slice p3 R.is.length q3, .slice p4 R.bs.length q4, .slice p5 R.fs.length q5, .slice p6 R.ds.length q6, .int .i64 R.nx] 40) = W3 at *
    refine (toMem_any _ _ _ _ _ _ m W3 (HV.out.below H3.out.2.1 (Nat.le_refl _)) HBG.out).mono ?_
    rintro e w4 ⟨u1, u2, u3, u4, u5, u6, rfl, O4, B4⟩
    obtain ⟨d1, f1, d2, f2, d3, f3, d4, f4, d5, f5, d6, f6, rfl, rfl, rfl, rfl, rfl, rfl⟩ := O4.mr.form
    have O4b := O4.bound
    have H4 := hide (And.intro (B4.alloc B4.size (.cells #[.slice d1 m.xs.length f1, .slice d2 m.ys.length f2, .slice d3 m.is.length f3, .slice d4 m.bs.length f4, .slice d5 m.fs.length f5, .slice d6 m.ds.length f6, .int .i64 m.nx] 40)) (And.intro (AtC.new w4 40 #[.slice d1 m.xs.length f1, .slice d2 m.ys.length f2, .slice d3 m.is.length f3, .slice d4 m.bs.length f4, .slice d5 m.fs.length f5, .slice d6 m.ds.length f6, .int .i64 m.nx]) (O4b.alloc (.cells #[.slice d1 m.xs.length f1, .slice d2 m.ys.length f2, .slice d3 m.is.length f3, .slice d4 m.bs.length f4, .slice d5 m.fs.length f5, .slice d6 m.ds.length f6, .int .i64 m.nx] 40))))
    have y0 : (w4.alloc (.cells #[.slice d1 m.xs.length f1, .slice d2 m.ys.length f2, .slice d3 m.is.length f3, .slice d4 m.bs.length f4, .slice d5 m.fs.length f5, .slice d6 m.ds.length f6, .int .i64 m.nx] 40)).cell? ⟨w4.heap.size, 0, none⟩ = some (.slice d1 m.xs.length f1) := (AtC.new w4 40 #[.slice d1 m.xs.length f1, .slice d2 m.ys.length f2, .slice d3 m.is.length f3, .slice d4 m.bs.length f4, .slice d5 m.fs.length f5, .slice d6 m.ds.length f6, .int .i64 m.nx]).cell 0
    have y1 : (w4.alloc (.cells #[.slice d1 m.xs.length f1, .slice d2 m.ys.length f2, .slice d3 m.is.length f3, .slice d4 m.bs.length f4, .slice d5 m.fs.length f5, .slice d6 m.ds.length f6, .int .i64 m.nx] 40)).cell? ⟨w4.heap.size, 1, none⟩ = some (.slice d2 m.ys.length f2) := (AtC.new w4 40 #[.slice d1 m.xs.length f1, .slice d2 m.ys.length f2, .slice d3 m.is.length f3, .slice d4 m.bs.length f4, .slice d5 m.fs.length f5, .slice d6 m.ds.length f6, .int .i64 m.nx]).cell 1
    have y2 : (w4.alloc (.cells #[.slice d1 m.xs.length f1, .slice d2 m.ys.length f2, .slice d3 m.is.length f3, .slice d4 m.bs.length f4, .slice d5 m.fs.length f5, .slice d6 m.ds.length f6, .int .i64 m.nx] 40)).cell? ⟨w4.heap.size, 2, none⟩ = some (.slice d3 m.is.length f3) := (AtC.new w4 40 #[.slice d1 m.xs.length f1, .slice d2 m.ys.length f2, .slice d3 m.is.length f3, .slice d4 m.bs.length f4, .slice d5 m.fs.length f5, .slice d6 m.ds.length f6, .int .i64 m.nx]).cell 2
    have y3 : (w4.alloc (.cells #[.slice d1 m.xs.length f1, .slice d2 m.ys.length f2, .slice d3 m.is.length f3, .slice d4 m.bs.length f4, .slice d5 m.fs.length f5, .slice d6 m.ds.length f6, .int .i64 m.nx] 40)).cell? ⟨w4.heap.size, 3, none⟩ = some (.slice d4 m.bs.length f4) := (AtC.new w4 40 #[.slice d1 m.xs.length f1, .slice d2 m.ys.length f2, .slice d3 m.is.length f3, .slice d4 m.bs.length f4, .slice d5 m.fs.length f5, .slice d6 m.ds.length f6, .int .i64 m.nx]).cell 3
    have y4 : (w4.alloc (.cells #[.slice d1 m.xs.length f1, .slice d2 m.ys.length f2, .slice d3 m.is.length f3, .slice d4 m.bs.length f4, .slice d5 m.fs.length f5, .slice d6 m.ds.length f6, .int .i64 m.nx] 40)).cell? ⟨w4.heap.size, 4, none⟩ = some (.slice d5 m.fs.length f5) := (AtC.new w4 40 #[.slice d1 m.xs.length f1, .slice d2 m.ys.length f2, .slice d3 m.is.length f3, .slice d4 m.bs.length f4, .slice d5 m.fs.length f5, .slice d6 m.ds.length f6, .int .i64 m.nx]).cell 4
    have y5 : (w4.alloc (.cells #[.slice d1 m.xs.length f1, .slice d2 m.ys.length f2, .slice d3 m.is.length f3, .slice d4 m.bs.length f4, .slice d5 m.fs.length f5, .slice d6 m.ds.length f6, .int .i64 m.nx] 40)).cell? ⟨w4.heap.size, 5, none⟩ = some (.slice d6 m.ds.length f6) := (AtC.new w4 40 #[.slice d1 m.xs.length f1, .slice d2 m.ys.length f2, .slice d3 m.is.length f3, .slice d4 m.bs.length f4, .slice d5 m.fs.length f5, .slice d6 m.ds.length f6, .int .i64 m.nx]).cell 5
    have y6 : (w4.alloc (.cells #[.slice d1 m.xs.length f1, .slice d2 m.ys.length f2, .slice d3 m.is.length f3, .slice d4 m.bs.length f4, .slice d5 m.fs.length f5, .slice d6 m.ds.length f6, .int .i64 m.nx] 40)).cell? ⟨w4.heap.size, 6, none⟩ = some (.int .i64 m.nx) := (AtC.new w4 40 #[.slice d1 m.xs.length f1, .slice d2 m.ys.length f2, .slice d3 m.is.length f3, .slice d4 m.bs.length f4, .slice d5 m.fs.length f5, .slice d6 m.ds.length f6, .int .i64 m.nx]).cell 6
    have z4 : (w4.alloc (.cells #[.slice d1 m.xs.length f1, .slice d2 m.ys.length f2, .slice d3 m.is.length f3, .slice d4 m.bs.length f4, .slice d5 m.fs.length f5, .slice d6 m.ds.length f6, .int .i64 m.nx] 40)).heap.size = w4.heap.size + 1 := by simp
    have z3 : W3.heap.size ≤ w4.heap.size := B4.size
    clear B4 O4 O4b x0 x1 x2 x3 x4 x5 x6
    go_wp2_with fail
    generalize hhx : w4.heap.size = hx at *
    generalize w4.alloc (.cells #[.slice d1 m.xs.length f1, .slice d2 m.ys.length f2, .slice d3 m.is.length f3, .slice d4 m.bs.length f4, .slice d5 m.fs.length f5, .slice d6 m.ds.length f6, .int .i64 m.nx] 40) = W4 at *
    refine (CI.out W4 _ _ _ _ _ _ H4.out.2.2.mr).mono ?_
    rintro e w5 ⟨v1, v2, v3, v4, v5, v6, rfl, O5, B5⟩
    obtain ⟨g1, k1, g2, k2, g3, k3, g4, k4, g5, k5, g6, k6, rfl, rfl, rfl, rfl, rfl, rfl⟩ := O5.mr.form
    have O5b := O5.bound
    have b5 : Below W4.heap.size W4 (w5.alloc (.cells #[.slice g1 R.xs.length k1, .slice g2 R.ys.length k2, .slice g3 R.is.length k3, .slice g4 R.bs.length k4, .slice g5 R.fs.length k5, .slice g6 R.ds.length k6, .int .i64 R.nx] 40)) := B5.alloc B5.size (.cells #[.slice g1 R.xs.length k1, .slice g2 R.ys.length k2, .slice g3 R.is.length k3, .slice g4 R.bs.length k4, .slice g5 R.fs.length k5, .slice g6 R.ds.length k6, .int .i64 R.nx] 40)
    have HS5 : Hid (∀ W, Below (w5.alloc (.cells #[.slice g1 R.xs.length k1, .slice g2 R.ys.length k2, .slice g3 R.is.length k3, .slice g4 R.bs.length k4, .slice g5 R.fs.length k5, .slice g6 R.ds.length k6, .int .i64 R.nx] 40)).heap.size (w5.alloc (.cells #[.slice g1 R.xs.length k1, .slice g2 R.ys.length k2, .slice g3 R.is.length k3, .slice g4 R.bs.length k4, .slice g5 R.fs.length k5, .slice g6 R.ds.length k6, .int .i64 R.nx] 40)) W → Below W3.heap.size W3 W ∧ AtC W hx 40 #[.slice d1 m.xs.length f1, .slice d2 m.ys.length f2, .slice d3 m.is.length f3, .slice d4 m.bs.length f4, .slice d5 m.fs.length f5, .slice d6 m.ds.length f6, .int .i64 m.nx] ∧ MO W (fun q => W3.heap.size ≤ q ∧ q < hx) (.slice d1 m.xs.length f1) (.slice d2 m.ys.length f2) (.slice d3 m.is.length f3) (.slice d4 m.bs.length f4) (.slice d5 m.fs.length f5) (.slice d6 m.ds.length f6) m ∧ AtC W w5.heap.size 40 #[.slice g1 R.xs.length k1, .slice g2 R.ys.length k2, .slice g3 R.is.length k3, .slice g4 R.bs.length k4, .slice g5 R.fs.length k5, .slice g6 R.ds.length k6, .int .i64 R.nx] ∧ MO W (fun q => W4.heap.size ≤ q ∧ q < w5.heap.size) (.slice g1 R.xs.length k1) (.slice g2 R.ys.length k2) (.slice g3 R.is.length k3) (.slice g4 R.bs.length k4) (.slice g5 R.fs.length k5) (.slice g6 R.ds.length k6) R) := fun W b => by
      have bb := b5.trans (b.mono b5.size)
      exact ⟨H4.out.1.trans (bb.mono H4.out.1.size), H4.out.2.1.over bb, H4.out.2.2.below bb (Nat.le_refl _), (AtC.new w5 40 _).over b, (O5b.alloc _).below b (Nat.le_refl _)⟩
    have z5 : (w5.alloc (.cells #[.slice g1 R.xs.length k1, .slice g2 R.ys.length k2, .slice g3 R.is.length k3, .slice g4 R.bs.length k4, .slice g5 R.fs.length k5, .slice g6 R.ds.length k6, .int .i64 R.nx] 40)).heap.size = w5.heap.size + 1 := by simp
    have z6 : W4.heap.size ≤ w5.heap.size := B5.size
    have A5 := HS5.out _ (Below.refl _ _)
    have W5b := H3.out.2.2.1.over A5.1
    have r0 : (w5.alloc (.cells #[.slice g1 R.xs.length k1, .slice g2 R.ys.length k2, .slice g3 R.is.length k3, .slice g4 R.bs.length k4, .slice g5 R.fs.length k5, .slice g6 R.ds.length k6, .int .i64 R.nx] 40)).cell? ⟨bw, 0, none⟩ = some (.slice p1 R.xs.length q1) := W5b.cell 0
    have r1 : (w5.alloc (.cells #[.slice g1 R.xs.length k1, .slice g2 R.ys.length k2, .slice g3 R.is.length k3, .slice g4 R.bs.length k4, .slice g5 R.fs.length k5, .slice g6 R.ds.length k6, .int .i64 R.nx] 40)).cell? ⟨bw, 1, none⟩ = some (.slice p2 R.ys.length q2) := W5b.cell 1
    have r2 : (w5.alloc (.cells #[.slice g1 R.xs.length k1, .slice g2 R.ys.length k2, .slice g3 R.is.length k3, .slice g4 R.bs.length k4, .slice g5 R.fs.length k5, .slice g6 R.ds.length k6, .int .i64 R.nx] 40)).cell? ⟨bw, 2, none⟩ = some (.slice p3 R.is.length q3) := W5b.cell 2
    have r3 : (w5.alloc (.cells #[.slice g1 R.xs.length k1, .slice g2 R.ys.length k2, .slice g3 R.is.length k3, .slice g4 R.bs.length k4, .slice g5 R.fs.length k5, .slice g6 R.ds.length k6, .int .i64 R.nx] 40)).cell? ⟨bw, 3, none⟩ = some (.slice p4 R.bs.length q4) := W5b.cell 3
    have r4 : (w5.alloc (.cells #[.slice g1 R.xs.length k1, .slice g2 R.ys.length k2, .slice g3 R.is.length k3, .slice g4 R.bs.length k4, .slice g5 R.fs.length k5, .slice g6 R.ds.length k6, .int .i64 R.nx] 40)).cell? ⟨bw, 4, none⟩ = some (.slice p5 R.fs.length q5) := W5b.cell 4
    have r5 : (w5.alloc (.cells #[.slice g1 R.xs.length k1, .slice g2 R.ys.length k2, .slice g3 R.is.length k3, .slice g4 R.bs.length k4, .slice g5 R.fs.length k5, .slice g6 R.ds.length k6, .int .i64 R.nx] 40)).cell? ⟨bw, 5, none⟩ = some (.slice p6 R.ds.length q6) := W5b.cell 5
    have r6 : (w5.alloc (.cells #[.slice g1 R.xs.length k1, .slice g2 R.ys.length k2, .slice g3 R.is.length k3, .slice g4 R.bs.length k4, .slice g5 R.fs.length k5, .slice g6 R.ds.length k6, .int .i64 R.nx] 40)).cell? ⟨bw, 6, none⟩ = some (.int .i64 R.nx) := W5b.cell 6
    have m0 : (w5.alloc (.cells #[.slice g1 R.xs.length k1, .slice g2 R.ys.length k2, .slice g3 R.is.length k3, .slice g4 R.bs.length k4, .slice g5 R.fs.length k5, .slice g6 R.ds.length k6, .int .i64 R.nx] 40)).cell? ⟨w5.heap.size, 0, none⟩ = some (.slice g1 R.xs.length k1) := A5.2.2.2.1.cell 0
    have m1 : (w5.alloc (.cells #[.slice g1 R.xs.length k1, .slice g2 R.ys.length k2, .slice g3 R.is.length k3, .slice g4 R.bs.length k4, .slice g5 R.fs.length k5, .slice g6 R.ds.length k6, .int .i64 R.nx] 40)).cell? ⟨w5.heap.size, 1, none⟩ = some (.slice g2 R.ys.length k2) := A5.2.2.2.1.cell 1
    have m2 : (w5.alloc (.cells #[.slice g1 R.xs.length k1, .slice g2 R.ys.length k2, .slice g3 R.is.length k3, .slice g4 R.bs.length k4, .slice g5 R.fs.length k5, .slice g6 R.ds.length k6, .int .i64 R.nx] 40)).cell? ⟨w5.heap.size, 2, none⟩ = some (.slice g3 R.is.length k3) := A5.2.2.2.1.cell 2
    have m3 : (w5.alloc (.cells #[.slice g1 R.xs.length k1, .slice g2 R.ys.length k2, .slice g3 R.is.length k3, .slice g4 R.bs.length k4, .slice g5 R.fs.length k5, .slice g6 R.ds.length k6, .int .i64 R.nx] 40)).cell? ⟨w5.heap.size, 3, none⟩ = some (.slice g4 R.bs.length k4) := A5.2.2.2.1.cell 3
    have m4 : (w5.alloc (.cells #[.slice g1 R.xs.length k1, .slice g2 R.ys.length k2, .slice g3 R.is.length k3, .slice g4 R.bs.length k4, .slice g5 R.fs.length k5, .slice g6 R.ds.length k6, .int .i64 R.nx] 40)).cell? ⟨w5.heap.size, 4, none⟩ = some (.slice g5 R.fs.length k5) := A5.2.2.2.1.cell 4
    have m5 : (w5.alloc (.cells #[.slice g1 R.xs.length k1, .slice g2 R.ys.length k2, .slice g3 R.is.length k3, .slice g4 R.bs.length k4, .slice g5 R.fs.length k5, .slice g6 R.ds.length k6, .int .i64 R.nx] 40)).cell? ⟨w5.heap.size, 5, none⟩ = some (.slice g6 R.ds.length k6) := A5.2.2.2.1.cell 5
    have m6 : (w5.alloc (.cells #[.slice g1 R.xs.length k1, .slice g2 R.ys.length k2, .slice g3 R.is.length k3, .slice g4 R.bs.length k4, .slice g5 R.fs.length k5, .slice g6 R.ds.length k6, .int .i64 R.nx] 40)).cell? ⟨w5.heap.size, 6, none⟩ = some (.int .i64 R.nx) := A5.2.2.2.1.cell 6
    clear B5 O5 O5b b5 A5 W5b y0 y1 y2 y3 y4 y5 y6
    go_wp2_with fail
    generalize hhg : w5.heap.size = hg at *
    generalize w5.alloc (.cells #[.slice g1 R.xs.length k1, .slice g2 R.ys.length k2, .slice g3 R.is.length k3, .slice g4 R.bs.length k4, .slice g5 R.fs.length k5, .slice g6 R.ds.length k6, .int .i64 R.nx] 40) = W5 at *
    refine (eqMem_same _ _ _ _ _ _ _ _ _ _ _ _ R W5 (HS5.out _ (Below.refl _ _)).2.2.2.2.mr (H3.out.2.2.2.below (HS5.out _ (Below.refl _ _)).1 (Nat.le_refl _)) HBR.out).mono ?_
    rintro e w6 ⟨rfl, B6⟩
    have HS6 : Hid (∀ W, Below w6.heap.size w6 W → Below W3.heap.size W3 W ∧ AtC W hx 40 #[.slice d1 m.xs.length f1, .slice d2 m.ys.length f2, .slice d3 m.is.length f3, .slice d4 m.bs.length f4, .slice d5 m.fs.length f5, .slice d6 m.ds.length f6, .int .i64 m.nx] ∧ MO W (fun q => W3.heap.size ≤ q ∧ q < hx) (.slice d1 m.xs.length f1) (.slice d2 m.ys.length f2) (.slice d3 m.is.length f3) (.slice d4 m.bs.length f4) (.slice d5 m.fs.length f5) (.slice d6 m.ds.length f6) m ∧ AtC W hg 40 #[.slice g1 R.xs.length k1, .slice g2 R.ys.length k2, .slice g3 R.is.length k3, .slice g4 R.bs.length k4, .slice g5 R.fs.length k5, .slice g6 R.ds.length k6, .int .i64 R.nx] ∧ MO W (fun q => W4.heap.size ≤ q ∧ q < hg) (.slice g1 R.xs.length k1) (.slice g2 R.ys.length k2) (.slice g3 R.is.length k3) (.slice g4 R.bs.length k4) (.slice g5 R.fs.length k5) (.slice g6 R.ds.length k6) R) := fun W b => HS5.out W (B6.trans (b.mono B6.size))
    have HCL : Hid (∀ w', Below w6.heap.size w6 w' → w'.cell? ⟨w.heap.size, 0, none⟩ = some (.slice a1 m.xs.length c1) ∧ w'.cell? ⟨w.heap.size, 1, none⟩ = some (.slice a2 m.ys.length c2) ∧ w'.cell? ⟨w.heap.size, 2, none⟩ = some (.slice a3 m.is.length c3) ∧ w'.cell? ⟨w.heap.size, 3, none⟩ = some (.slice a4 m.bs.length c4) ∧ w'.cell? ⟨w.heap.size, 4, none⟩ = some (.slice a5 m.fs.length c5) ∧ w'.cell? ⟨w.heap.size, 5, none⟩ = some (.slice a6 m.ds.length c6) ∧ w'.cell? ⟨w.heap.size, 6, none⟩ = some (.int .i64 m.nx) ∧ w'.cell? ⟨hx, 0, none⟩ = some (.slice d1 m.xs.length f1) ∧ w'.cell? ⟨hx, 1, none⟩ = some (.slice d2 m.ys.length f2) ∧ w'.cell? ⟨hx, 2, none⟩ = some (.slice d3 m.is.length f3) ∧ w'.cell? ⟨hx, 3, none⟩ = some (.slice d4 m.bs.length f4) ∧ w'.cell? ⟨hx, 4, none⟩ = some (.slice d5 m.fs.length f5) ∧ w'.cell? ⟨hx, 5, none⟩ = some (.slice d6 m.ds.length f6) ∧ w'.cell? ⟨hx, 6, none⟩ = some (.int .i64 m.nx)) := fun w' b => by
      have q := HS6.out w' b
      have qa := H3.out.1.over q.1
      exact ⟨qa.cell 0, qa.cell 1, qa.cell 2, qa.cell 3, qa.cell 4, qa.cell 5, qa.cell 6, q.2.1.cell 0, q.2.1.cell 1, q.2.1.cell 2, q.2.1.cell 3, q.2.1.cell 4, q.2.1.cell 5, q.2.1.cell 6⟩
    obtain ⟨x0, x1, x2, x3, x4, x5, x6, y0, y1, y2, y3, y4, y5, y6⟩ := HCL.out _ (Below.refl _ _)
    clear B6 HS5 r0 r1 r2 r3 r4 r5 r6 m0 m1 m2 m3 m4 m5 m6
    go_wp2_with fail
    go_region_held3 (fun w' => w'.cell? ⟨w.heap.size, 0, none⟩ = some (.slice a1 m.xs.length c1) ∧ w'.cell? ⟨w.heap.size, 1, none⟩ = some (.slice a2 m.ys.length c2) ∧ w'.cell? ⟨w.heap.size, 2, none⟩ = some (.slice a3 m.is.length c3) ∧ w'.cell? ⟨w.heap.size, 3, none⟩ = some (.slice a4 m.bs.length c4) ∧ w'.cell? ⟨w.heap.size, 4, none⟩ = some (.slice a5 m.fs.length c5) ∧ w'.cell? ⟨w.heap.size, 5, none⟩ = some (.slice a6 m.ds.length c6) ∧ w'.cell? ⟨w.heap.size, 6, none⟩ = some (.int .i64 m.nx) ∧ w'.cell? ⟨hx, 0, none⟩ = some (.slice d1 m.xs.length f1) ∧ w'.cell? ⟨hx, 1, none⟩ = some (.slice d2 m.ys.length f2) ∧ w'.cell? ⟨hx, 2, none⟩ = some (.slice d3 m.is.length f3) ∧ w'.cell? ⟨hx, 3, none⟩ = some (.slice d4 m.bs.length f4) ∧ w'.cell? ⟨hx, 4, none⟩ = some (.slice d5 m.fs.length f5) ∧ w'.cell? ⟨hx, 5, none⟩ = some (.slice d6 m.ds.length f6) ∧ w'.cell? ⟨hx, 6, none⟩ = some (.int .i64 m.nx)) (first | exact HCL.out _ (Below.refl _ _).drew | exact HCL.out _ (of_drew B7) | exact HCL.out _ ((of_drew B7).trans (B8.mono (of_drew B7).size))) (first | (go_at_call 9; refine (toMem_any _ _ _ _ _ _ m _ (HV.out.below (H3.out.2.1.trans ((HS6.out _ (Below.refl _ _).drew).1.mono H3.out.2.1.size)) (Nat.le_refl _)) HBG.out).mono ?_; rintro e w7 ⟨u1, u2, u3, u4, u5, u6, rfl, O7, B7⟩; obtain ⟨h1, j1, h2, j2, h3, j3, h4, j4, h5, j5, h6, j6, rfl, rfl, rfl, rfl, rfl, rfl⟩ := O7.mr.form) | (go_at_call 11; refine (eqMem_same _ _ _ _ _ _ _ _ _ _ _ _ m _ (HS6.out _ (of_drew B7)).2.2.1.mr O7.mr HBG.out).mono ?_; rintro e w8 ⟨rfl, B8⟩))
    have HB8 := hide ((of_drew B7).trans (B8.mono (of_drew B7).size))
    have HS8 : Hid (∀ W, Below w8.heap.size w8 W → Below W3.heap.size W3 W ∧ AtC W hx 40 #[.slice d1 m.xs.length f1, .slice d2 m.ys.length f2, .slice d3 m.is.length f3, .slice d4 m.bs.length f4, .slice d5 m.fs.length f5, .slice d6 m.ds.length f6, .int .i64 m.nx] ∧ MO W (fun q => W3.heap.size ≤ q ∧ q < hx) (.slice d1 m.xs.length f1) (.slice d2 m.ys.length f2) (.slice d3 m.is.length f3) (.slice d4 m.bs.length f4) (.slice d5 m.fs.length f5) (.slice d6 m.ds.length f6) m ∧ AtC W hg 40 #[.slice g1 R.xs.length k1, .slice g2 R.ys.length k2, .slice g3 R.is.length k3, .slice g4 R.bs.length k4, .slice g5 R.fs.length k5, .slice g6 R.ds.length k6, .int .i64 R.nx] ∧ MO W (fun q => W4.heap.size ≤ q ∧ q < hg) (.slice g1 R.xs.length k1) (.slice g2 R.ys.length k2) (.slice g3 R.is.length k3) (.slice g4 R.bs.length k4) (.slice g5 R.fs.length k5) (.slice g6 R.ds.length k6) R) := fun W b => HS6.out W (HB8.out.trans (b.mono HB8.out.size))
    have X8 := (HS8.out _ (Below.refl _ _)).2.1
    clear x0 x1 x2 x3 x4 x5 x6 y0 y1 y2 y3 y4 y5 y6
    have y0 : w8.cell? ⟨hx, 0, none⟩ = some (.slice d1 m.xs.length f1) := X8.cell 0
    have y1 : w8.cell? ⟨hx, 1, none⟩ = some (.slice d2 m.ys.length f2) := X8.cell 1
    have y2 : w8.cell? ⟨hx, 2, none⟩ = some (.slice d3 m.is.length f3) := X8.cell 2
    have y3 : w8.cell? ⟨hx, 3, none⟩ = some (.slice d4 m.bs.length f4) := X8.cell 3
    have y4 : w8.cell? ⟨hx, 4, none⟩ = some (.slice d5 m.fs.length f5) := X8.cell 4
    have y5 : w8.cell? ⟨hx, 5, none⟩ = some (.slice d6 m.ds.length f6) := X8.cell 5
    have y6 : w8.cell? ⟨hx, 6, none⟩ = some (.int .i64 m.nx) := X8.cell 6
    clear B7 B8 O7 HB8 HCL HS6 X8
    go_wp2_with fail
    refine (CX.out _ w8 _ _ _ _ _ _ (HS8.out _ (Below.refl _ _)).2.2.1).mono ?_
    rintro e w9 ⟨rfl, -, C9⟩
    have HS9 : Hid (∀ W, Below w9.heap.size w9 W → Below W3.heap.size W3 W ∧ AtC W hg 40 #[.slice g1 R.xs.length k1, .slice g2 R.ys.length k2, .slice g3 R.is.length k3, .slice g4 R.bs.length k4, .slice g5 R.fs.length k5, .slice g6 R.ds.length k6, .int .i64 R.nx] ∧ MO W (fun q => W4.heap.size ≤ q ∧ q < hg) (.slice g1 R.xs.length k1) (.slice g2 R.ys.length k2) (.slice g3 R.is.length k3) (.slice g4 R.bs.length k4) (.slice g5 R.fs.length k5) (.slice g6 R.ds.length k6) R) := fun W b => by
      obtain ⟨q1, -, -, q4, q5⟩ := HS8.out _ (Below.refl _ _)
      have kk : Below W3.heap.size W3 w9 := q1.trans (C9.below q1.size (fun k hk => hk.1))
      exact ⟨kk.trans (b.mono kk.size), AtC.over (w := w9) (b := hg) (T := 40) (cs := #[.slice g1 R.xs.length k1, .slice g2 R.ys.length k2, .slice g3 R.is.length k3, .slice g4 R.bs.length k4, .slice g5 R.fs.length k5, .slice g6 R.ds.length k6, .int .i64 R.nx]) ((C9.block hg q4.lt (fun e => by omega)).trans q4) b, (q5.chg C9 (fun k hk e => by omega)).below b (Nat.le_refl _)⟩
    clear y0 y1 y2 y3 y4 y5 y6
    have Q := HS9.out _ (Below.refl _ _)
    have Qw := H3.out.2.2.1.over Q.1
    have r0 : w9.cell? ⟨bw, 0, none⟩ = some (.slice p1 R.xs.length q1) := Qw.cell 0
    have r1 : w9.cell? ⟨bw, 1, none⟩ = some (.slice p2 R.ys.length q2) := Qw.cell 1
    have r2 : w9.cell? ⟨bw, 2, none⟩ = some (.slice p3 R.is.length q3) := Qw.cell 2
    have r3 : w9.cell? ⟨bw, 3, none⟩ = some (.slice p4 R.bs.length q4) := Qw.cell 3
    have r4 : w9.cell? ⟨bw, 4, none⟩ = some (.slice p5 R.fs.length q5) := Qw.cell 4
    have r5 : w9.cell? ⟨bw, 5, none⟩ = some (.slice p6 R.ds.length q6) := Qw.cell 5
    have r6 : w9.cell? ⟨bw, 6, none⟩ = some (.int .i64 R.nx) := Qw.cell 6
    have m0 : w9.cell? ⟨hg, 0, none⟩ = some (.slice g1 R.xs.length k1) := Q.2.1.cell 0
    have m1 : w9.cell? ⟨hg, 1, none⟩ = some (.slice g2 R.ys.length k2) := Q.2.1.cell 1
    have m2 : w9.cell? ⟨hg, 2, none⟩ = some (.slice g3 R.is.length k3) := Q.2.1.cell 2
    have m3 : w9.cell? ⟨hg, 3, none⟩ = some (.slice g4 R.bs.length k4) := Q.2.1.cell 3
    have m4 : w9.cell? ⟨hg, 4, none⟩ = some (.slice g5 R.fs.length k5) := Q.2.1.cell 4
    have m5 : w9.cell? ⟨hg, 5, none⟩ = some (.slice g6 R.ds.length k6) := Q.2.1.cell 5
    have m6 : w9.cell? ⟨hg, 6, none⟩ = some (.int .i64 R.nx) := Q.2.1.cell 6
    clear Q Qw
    clear C9 HS8
    go_wp2_with fail
    refine (eqMem_same _ _ _ _ _ _ _ _ _ _ _ _ R w9 (HS9.out _ (Below.refl _ _)).2.2.mr (H3.out.2.2.2.below (HS9.out _ (Below.refl _ _)).1 (Nat.le_refl _)) HBR.out).mono ?_
    rintro e w10 ⟨rfl, B10⟩
    have HS10 : Hid (∀ W, Below w10.heap.size w10 W → Below W3.heap.size W3 W ∧ AtC W hg 40 #[.slice g1 R.xs.length k1, .slice g2 R.ys.length k2, .slice g3 R.is.length k3, .slice g4 R.bs.length k4, .slice g5 R.fs.length k5, .slice g6 R.ds.length k6, .int .i64 R.nx] ∧ MO W (fun q => W4.heap.size ≤ q ∧ q < hg) (.slice g1 R.xs.length k1) (.slice g2 R.ys.length k2) (.slice g3 R.is.length k3) (.slice g4 R.bs.length k4) (.slice g5 R.fs.length k5) (.slice g6 R.ds.length k6) R) := fun W b => HS9.out W (B10.trans (b.mono B10.size))
    clear B10 HS9 r0 r1 r2 r3 r4 r5 r6 m0 m1 m2 m3 m4 m5 m6
    have Q := HS10.out _ (Below.refl _ _)
    have m0 : w10.cell? ⟨hg, 0, none⟩ = some (.slice g1 R.xs.length k1) := Q.2.1.cell 0
    have m1 : w10.cell? ⟨hg, 1, none⟩ = some (.slice g2 R.ys.length k2) := Q.2.1.cell 1
    have m2 : w10.cell? ⟨hg, 2, none⟩ = some (.slice g3 R.is.length k3) := Q.2.1.cell 2
    have m3 : w10.cell? ⟨hg, 3, none⟩ = some (.slice g4 R.bs.length k4) := Q.2.1.cell 3
    have m4 : w10.cell? ⟨hg, 4, none⟩ = some (.slice g5 R.fs.length k5) := Q.2.1.cell 4
    have m5 : w10.cell? ⟨hg, 5, none⟩ = some (.slice g6 R.ds.length k6) := Q.2.1.cell 5
    have m6 : w10.cell? ⟨hg, 6, none⟩ = some (.int .i64 R.nx) := Q.2.1.cell 6
    clear Q
    go_wp2_with fail
    refine (CM.out _ _ _ _ _ _ _ w10 (HS10.out _ (Below.refl _ _)).2.2).mono ?_
    rintro e w11 ⟨rfl, M11, C11⟩
    have HS11 : Hid (∀ W, Below w11.heap.size w11 W → Below W3.heap.size W3 W ∧ AtC W hg 40 #[.slice g1 R.xs.length k1, .slice g2 R.ys.length k2, .slice g3 R.is.length k3, .slice g4 R.bs.length k4, .slice g5 R.fs.length k5, .slice g6 R.ds.length k6, .int .i64 R.nx] ∧ MO W (fun q => W4.heap.size ≤ q ∧ q < hg) (.slice g1 R.xs.length k1) (.slice g2 R.ys.length k2) (.slice g3 R.is.length k3) (.slice g4 R.bs.length k4) (.slice g5 R.fs.length k5) (.slice g6 R.ds.length k6) (mkM 1 R)) := fun W b => by
      obtain ⟨q1, q4, -⟩ := HS10.out _ (Below.refl _ _)
      have kk : Below W3.heap.size W3 w11 := q1.trans (C11.below q1.size (fun k hk => by omega))
      exact ⟨kk.trans (b.mono kk.size), AtC.over (w := w11) (b := hg) (T := 40) (cs := #[.slice g1 R.xs.length k1, .slice g2 R.ys.length k2, .slice g3 R.is.length k3, .slice g4 R.bs.length k4, .slice g5 R.fs.length k5, .slice g6 R.ds.length k6, .int .i64 R.nx]) ((C11.block hg q4.lt (fun e => by omega)).trans q4) b, M11.below b (Nat.le_refl _)⟩
    clear M11 C11 HS10 m0 m1 m2 m3 m4 m5 m6
    have Q := HS11.out _ (Below.refl _ _)
    have m0 : w11.cell? ⟨hg, 0, none⟩ = some (.slice g1 R.xs.length k1) := Q.2.1.cell 0
    have m1 : w11.cell? ⟨hg, 1, none⟩ = some (.slice g2 R.ys.length k2) := Q.2.1.cell 1
    have m2 : w11.cell? ⟨hg, 2, none⟩ = some (.slice g3 R.is.length k3) := Q.2.1.cell 2
    have m3 : w11.cell? ⟨hg, 3, none⟩ = some (.slice g4 R.bs.length k4) := Q.2.1.cell 3
    have m4 : w11.cell? ⟨hg, 4, none⟩ = some (.slice g5 R.fs.length k5) := Q.2.1.cell 4
    have m5 : w11.cell? ⟨hg, 5, none⟩ = some (.slice g6 R.ds.length k6) := Q.2.1.cell 5
    have m6 : w11.cell? ⟨hg, 6, none⟩ = some (.int .i64 R.nx) := Q.2.1.cell 6
    clear Q
    go_wp2_with fail
    refine (CH.out _ _ _ _ _ _ _ w11 (HS11.out _ (Below.refl _ _)).2.2).mono ?_
    rintro e w12 ⟨rfl, B12⟩
    have HS12 : Hid (∀ W, Below w12.heap.size w12 W → Below W3.heap.size W3 W ∧ AtC W hg 40 #[.slice g1 R.xs.length k1, .slice g2 R.ys.length k2, .slice g3 R.is.length k3, .slice g4 R.bs.length k4, .slice g5 R.fs.length k5, .slice g6 R.ds.length k6, .int .i64 R.nx] ∧ MO W (fun q => W4.heap.size ≤ q ∧ q < hg) (.slice g1 R.xs.length k1) (.slice g2 R.ys.length k2) (.slice g3 R.is.length k3) (.slice g4 R.bs.length k4) (.slice g5 R.fs.length k5) (.slice g6 R.ds.length k6) (mkM 1 R)) := fun W b => HS11.out W (B12.trans (b.mono B12.size))
    clear B12 HS11 m0 m1 m2 m3 m4 m5 m6
    have Q := H3.out.1.over (HS12.out _ (Below.refl _ _)).1
    have x0 : w12.cell? ⟨w.heap.size, 0, none⟩ = some (.slice a1 m.xs.length c1) := Q.cell 0
    have x1 : w12.cell? ⟨w.heap.size, 1, none⟩ = some (.slice a2 m.ys.length c2) := Q.cell 1
    have x2 : w12.cell? ⟨w.heap.size, 2, none⟩ = some (.slice a3 m.is.length c3) := Q.cell 2
    have x3 : w12.cell? ⟨w.heap.size, 3, none⟩ = some (.slice a4 m.bs.length c4) := Q.cell 3
    have x4 : w12.cell? ⟨w.heap.size, 4, none⟩ = some (.slice a5 m.fs.length c5) := Q.cell 4
    have x5 : w12.cell? ⟨w.heap.size, 5, none⟩ = some (.slice a6 m.ds.length c6) := Q.cell 5
    have x6 : w12.cell? ⟨w.heap.size, 6, none⟩ = some (.int .i64 m.nx) := Q.cell 6
    clear Q
    go_wp2_with fail
    refine (toMem_any _ _ _ _ _ _ m w12 (HV.out.below (H3.out.2.1.trans ((HS12.out _ (Below.refl _ _)).1.mono H3.out.2.1.size)) (Nat.le_refl _)) HBG.out).mono ?_
    rintro e w13 ⟨u1, u2, u3, u4, u5, u6, rfl, O13, B13⟩
    obtain ⟨h1, j1, h2, j2, h3, j3, h4, j4, h5, j5, h6, j6, rfl, rfl, rfl, rfl, rfl, rfl⟩ := O13.mr.form
    have R13 := hide O13.mr
    have H13 := hide B13
    clear B13 O13 x0 x1 x2 x3 x4 x5 x6
    go_wp2_with fail
    refine (CI.out w13 _ _ _ _ _ _ R13.out).mono ?_
    rintro e w14 ⟨v1, v2, v3, v4, v5, v6, rfl, O14, B14⟩
    obtain ⟨i1, l1, i2, l2, i3, l3, i4, l4, i5, l5, i6, l6, rfl, rfl, rfl, rfl, rfl, rfl⟩ := O14.mr.form
    have b14 : Below w12.heap.size w12 (w14.alloc (.cells #[.slice i1 R.xs.length l1, .slice i2 R.ys.length l2, .slice i3 R.is.length l3, .slice i4 R.bs.length l4, .slice i5 R.fs.length l5, .slice i6 R.ds.length l6, .int .i64 R.nx] 40)) := (H13.out.trans (B14.mono H13.out.size)).alloc (Nat.le_trans H13.out.size B14.size) (.cells #[.slice i1 R.xs.length l1, .slice i2 R.ys.length l2, .slice i3 R.is.length l3, .slice i4 R.bs.length l4, .slice i5 R.fs.length l5, .slice i6 R.ds.length l6, .int .i64 R.nx] 40)
    have HS14 : Hid (∀ W, Below (w14.alloc (.cells #[.slice i1 R.xs.length l1, .slice i2 R.ys.length l2, .slice i3 R.is.length l3, .slice i4 R.bs.length l4, .slice i5 R.fs.length l5, .slice i6 R.ds.length l6, .int .i64 R.nx] 40)).heap.size (w14.alloc (.cells #[.slice i1 R.xs.length l1, .slice i2 R.ys.length l2, .slice i3 R.is.length l3, .slice i4 R.bs.length l4, .slice i5 R.fs.length l5, .slice i6 R.ds.length l6, .int .i64 R.nx] 40)) W → (Below W3.heap.size W3 W ∧ AtC W hg 40 #[.slice g1 R.xs.length k1, .slice g2 R.ys.length k2, .slice g3 R.is.length k3, .slice g4 R.bs.length k4, .slice g5 R.fs.length k5, .slice g6 R.ds.length k6, .int .i64 R.nx] ∧ MO W (fun q => W4.heap.size ≤ q ∧ q < hg) (.slice g1 R.xs.length k1) (.slice g2 R.ys.length k2) (.slice g3 R.is.length k3) (.slice g4 R.bs.length k4) (.slice g5 R.fs.length k5) (.slice g6 R.ds.length k6) (mkM 1 R)) ∧ MR W (.slice i1 R.xs.length l1) (.slice i2 R.ys.length l2) (.slice i3 R.is.length l3) (.slice i4 R.bs.length l4) (.slice i5 R.fs.length l5) (.slice i6 R.ds.length l6) R) := fun W b => ⟨HS12.out W (b14.trans (b.mono b14.size)), (O14.mr.alloc _).below b (Nat.le_refl _)⟩
    have Q := H3.out.2.2.1.over (HS14.out _ (Below.refl _ _)).1.1
    have r0 : (w14.alloc (.cells #[.slice i1 R.xs.length l1, .slice i2 R.ys.length l2, .slice i3 R.is.length l3, .slice i4 R.bs.length l4, .slice i5 R.fs.length l5, .slice i6 R.ds.length l6, .int .i64 R.nx] 40)).cell? ⟨bw, 0, none⟩ = some (.slice p1 R.xs.length q1) := Q.cell 0
    have r1 : (w14.alloc (.cells #[.slice i1 R.xs.length l1, .slice i2 R.ys.length l2, .slice i3 R.is.length l3, .slice i4 R.bs.length l4, .slice i5 R.fs.length l5, .slice i6 R.ds.length l6, .int .i64 R.nx] 40)).cell? ⟨bw, 1, none⟩ = some (.slice p2 R.ys.length q2) := Q.cell 1
    have r2 : (w14.alloc (.cells #[.slice i1 R.xs.length l1, .slice i2 R.ys.length l2, .slice i3 R.is.length l3, .slice i4 R.bs.length l4, .slice i5 R.fs.length l5, .slice i6 R.ds.length l6, .int .i64 R.nx] 40)).cell? ⟨bw, 2, none⟩ = some (.slice p3 R.is.length q3) := Q.cell 2
    have r3 : (w14.alloc (.cells #[.slice i1 R.xs.length l1, .slice i2 R.ys.length l2, .slice i3 R.is.length l3, .slice i4 R.bs.length l4, .slice i5 R.fs.length l5, .slice i6 R.ds.length l6, .int .i64 R.nx] 40)).cell? ⟨bw, 3, none⟩ = some (.slice p4 R.bs.length q4) := Q.cell 3
    have r4 : (w14.alloc (.cells #[.slice i1 R.xs.length l1, .slice i2 R.ys.length l2, .slice i3 R.is.length l3, .slice i4 R.bs.length l4, .slice i5 R.fs.length l5, .slice i6 R.ds.length l6, .int .i64 R.nx] 40)).cell? ⟨bw, 4, none⟩ = some (.slice p5 R.fs.length q5) := Q.cell 4
    have r5 : (w14.alloc (.cells #[.slice i1 R.xs.length l1, .slice i2 R.ys.length l2, .slice i3 R.is.length l3, .slice i4 R.bs.length l4, .slice i5 R.fs.length l5, .slice i6 R.ds.length l6, .int .i64 R.nx] 40)).cell? ⟨bw, 5, none⟩ = some (.slice p6 R.ds.length q6) := Q.cell 5
    have r6 : (w14.alloc (.cells #[.slice i1 R.xs.length l1, .slice i2 R.ys.length l2, .slice i3 R.is.length l3, .slice i4 R.bs.length l4, .slice i5 R.fs.length l5, .slice i6 R.ds.length l6, .int .i64 R.nx] 40)).cell? ⟨bw, 6, none⟩ = some (.int .i64 R.nx) := Q.cell 6
    clear Q B14 O14 b14 R13 H13 HS12
    go_wp2_with fail
    generalize w14.heap.size = bh at *
    generalize w14.alloc (.cells #[.slice i1 R.xs.length l1, .slice i2 R.ys.length l2, .slice i3 R.is.length l3, .slice i4 R.bs.length l4, .slice i5 R.fs.length l5, .slice i6 R.ds.length l6, .int .i64 R.nx] 40) = W14 at *
    refine (eqMem_same _ _ _ _ _ _ _ _ _ _ _ _ R W14 (HS14.out _ (Below.refl _ _)).2 (H3.out.2.2.2.below (HS14.out _ (Below.refl _ _)).1.1 (Nat.le_refl _)) HBR.out).mono ?_
    rintro e w15 ⟨rfl, B15⟩
    have HS15 : Hid (∀ W, Below w15.heap.size w15 W → Below W3.heap.size W3 W ∧ AtC W hg 40 #[.slice g1 R.xs.length k1, .slice g2 R.ys.length k2, .slice g3 R.is.length k3, .slice g4 R.bs.length k4, .slice g5 R.fs.length k5, .slice g6 R.ds.length k6, .int .i64 R.nx] ∧ MO W (fun q => W4.heap.size ≤ q ∧ q < hg) (.slice g1 R.xs.length k1) (.slice g2 R.ys.length k2) (.slice g3 R.is.length k3) (.slice g4 R.bs.length k4) (.slice g5 R.fs.length k5) (.slice g6 R.ds.length k6) (mkM 1 R)) := fun W b => (HS14.out W (B15.trans (b.mono B15.size))).1
    clear B15 HS14 r0 r1 r2 r3 r4 r5 r6
    have Q := HS15.out _ (Below.refl _ _)
    have m0 : w15.cell? ⟨hg, 0, none⟩ = some (.slice g1 R.xs.length k1) := Q.2.1.cell 0
    have m1 : w15.cell? ⟨hg, 1, none⟩ = some (.slice g2 R.ys.length k2) := Q.2.1.cell 1
    have m2 : w15.cell? ⟨hg, 2, none⟩ = some (.slice g3 R.is.length k3) := Q.2.1.cell 2
    have m3 : w15.cell? ⟨hg, 3, none⟩ = some (.slice g4 R.bs.length k4) := Q.2.1.cell 3
    have m4 : w15.cell? ⟨hg, 4, none⟩ = some (.slice g5 R.fs.length k5) := Q.2.1.cell 4
    have m5 : w15.cell? ⟨hg, 5, none⟩ = some (.slice g6 R.ds.length k6) := Q.2.1.cell 5
    have m6 : w15.cell? ⟨hg, 6, none⟩ = some (.int .i64 R.nx) := Q.2.1.cell 6
    clear Q
    go_wp2_with fail
    refine (CH.out _ _ _ _ _ _ _ w15 (HS15.out _ (Below.refl _ _)).2.2).mono ?_
    rintro e w16 ⟨rfl, B16⟩
    have HF := hide (H3.out.2.1.trans ((HS15.out _ B16).1.mono H3.out.2.1.size))
    clear B16 HS15 m0 m1 m2 m3 m4 m5 m6
    go_wp2
    go_ret
    exact ⟨rfl, HF.out⟩
end Go.Proofs.YtggjillpfclajaaGreat.fnExactTakeIno
