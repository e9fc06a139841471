/- The walk of laws.FnExactSettled: it returns true at every memory. -/
import Derived.Test.YtgjbenbodegnjaaSt
import Derived.Test.YtgjbenbodegnjaaSd
import Derived.Test.YtgjbenbodegnjaaQm
namespace Go.Proofs.Ytgjbenbodegnjaa.fnExactSettled
open Go.RowKit Kit
set_option maxRecDepth 100000 in
set_option maxHeartbeats 3200000 in
theorem walk (u v iv bv dv pv : Value) (m : MD) (w : World) (h : MR w u v iv bv dv pv m) (hB : BigM maxLen m) :
    Calls Try.prog 3 #[.agg #[u, v, iv, bv, dv, pv, .int .i64 m.nx]] w fun e w' => e = .returned (.bool true) ∧ Below w.heap.size w w' := by
  have HV := hide h
  have HG := hide hB
  obtain ⟨a1, c1, a2, c2, a3, c3, a4, c4, a5, c5, a6, c6, rfl, rfl, rfl, rfl, rfl, rfl⟩ := h.form
  clear h hB
  go_enter Try.func3, Try.ntmps3
  go_wp2_with fail
  refine (szMem_L _ _ _ _ _ _ m _ _ (HV.out.alloc _) (by omega) (by omega) HG.out).mono ?_
  rintro e w1 ⟨left, rfl, hL, B1⟩
  have X1 : AtC w1 w.heap.size 31 #[.slice a1 m.xs.length c1, .slice a2 m.ys.length c2, .slice a3 m.is.length c3, .slice a4 m.bs.length c4, .slice a5 m.fs.length c5, .slice a6 m.ds.length c6, .int .i64 m.nx] := (AtC.new w 31 _).over B1
  have b1 : Below w.heap.size w w1 := ((Below.refl _ w).alloc (Nat.le_refl _) _).trans (B1.mono (by simp))
  have x0 : w1.cell? ⟨w.heap.size, 0, none⟩ = some (.slice a1 m.xs.length c1) := X1.cell 0
  have x1 : w1.cell? ⟨w.heap.size, 1, none⟩ = some (.slice a2 m.ys.length c2) := X1.cell 1
  have x2 : w1.cell? ⟨w.heap.size, 2, none⟩ = some (.slice a3 m.is.length c3) := X1.cell 2
  have x3 : w1.cell? ⟨w.heap.size, 3, none⟩ = some (.slice a4 m.bs.length c4) := X1.cell 3
  have x4 : w1.cell? ⟨w.heap.size, 4, none⟩ = some (.slice a5 m.fs.length c5) := X1.cell 4
  have x5 : w1.cell? ⟨w.heap.size, 5, none⟩ = some (.slice a6 m.ds.length c6) := X1.cell 5
  have x6 : w1.cell? ⟨w.heap.size, 6, none⟩ = some (.int .i64 m.nx) := X1.cell 6
  have H1 := hide (And.intro X1 b1)
  have HL := hide hL
  have hL1 : -1 ≤ left := by rcases hL with h | h <;> omega
  clear B1 X1 b1 hL
  by_cases hneg : left < 0
  · go_wp2
    go_ret
    exact ⟨rfl, H1.out.2⟩
  · have HBG := hide (HL.out.resolve_left (by omega)).2.2
    have n1 : decide (left < 0) = false := by simp; omega
    have CS : Hid (∀ W u v iv bv dv pv, MR W u v iv bv dv pv m → Calls Try.prog 5 #[.agg #[u, v, iv, bv, dv, pv, .int .i64 m.nx]] W fun e w' => e = .returned (.bool (setl m.fs m.ds.length)) ∧ Below W.heap.size W w') := fun W u v iv bv dv pv h => specSettled_any u v iv bv dv pv m W h HBG.out.f
    have CI : Hid (∀ W u v iv bv dv pv, MR W u v iv bv dv pv m → Calls Try.prog 7 #[.agg #[u, v, iv, bv, dv, pv, .int .i64 m.nx]] W fun e w' => e = .returned (.bool (setl m.fs m.ds.length)) ∧ Below W.heap.size W w') := fun W u v iv bv dv pv h => implSettled_any u v iv bv dv pv m W h HBG.out.f
    obtain ⟨R, hR⟩ : ∃ R, setl m.fs m.ds.length = R := ⟨_, rfl⟩
    rw [hR] at CS CI
    clear HL hneg hR
    go_wp2_with fail
    refine (toMem_any _ _ _ _ _ _ m w1 (HV.out.below H1.out.2 (Nat.le_refl _)) HBG.out).mono ?_
    rintro e w2 ⟨u1, u2, u3, u4, u5, u6, rfl, O2, B2⟩
    obtain ⟨s1, t1, s2, t2, s3, t3, s4, t4, s5, t5, s6, t6, rfl, rfl, rfl, rfl, rfl, rfl⟩ := O2.mr.form
    have H2 := hide (And.intro (H1.out.1.over B2) (H1.out.2.trans (B2.mono H1.out.2.size)))
    have R2 := hide O2.mr
    clear B2 O2 x0 x1 x2 x3 x4 x5 x6 n1 H1
    go_wp2_with fail
    refine (CS.out w2 _ _ _ _ _ _ R2.out).mono ?_
    rintro e w3 ⟨rfl, B3⟩
    have X3 := H2.out.1.over B3
    have H3 := hide (And.intro X3 (H2.out.2.trans (B3.mono H2.out.2.size)))
    have x0 : w3.cell? ⟨w.heap.size, 0, none⟩ = some (.slice a1 m.xs.length c1) := X3.cell 0
    have x1 : w3.cell? ⟨w.heap.size, 1, none⟩ = some (.slice a2 m.ys.length c2) := X3.cell 1
    have x2 : w3.cell? ⟨w.heap.size, 2, none⟩ = some (.slice a3 m.is.length c3) := X3.cell 2
    have x3 : w3.cell? ⟨w.heap.size, 3, none⟩ = some (.slice a4 m.bs.length c4) := X3.cell 3
    have x4 : w3.cell? ⟨w.heap.size, 4, none⟩ = some (.slice a5 m.fs.length c5) := X3.cell 4
    have x5 : w3.cell? ⟨w.heap.size, 5, none⟩ = some (.slice a6 m.ds.length c6) := X3.cell 5
    have x6 : w3.cell? ⟨w.heap.size, 6, none⟩ = some (.int .i64 m.nx) := X3.cell 6
    clear B3 X3 H2 R2
    go_wp2_with fail
    refine (toMem_any _ _ _ _ _ _ m w3 (HV.out.below H3.out.2 (Nat.le_refl _)) HBG.out).mono ?_
    rintro e w4 ⟨u1, u2, u3, u4, u5, u6, rfl, O4, B4⟩
    obtain ⟨d1, f1, d2, f2, d3, f3, d4, f4, d5, f5, d6, f6, rfl, rfl, rfl, rfl, rfl, rfl⟩ := O4.mr.form
    have H4 := hide (And.intro (B4.alloc B4.size (.cells #[.slice d1 m.xs.length f1, .slice d2 m.ys.length f2, .slice d3 m.is.length f3, .slice d4 m.bs.length f4, .slice d5 m.fs.length f5, .slice d6 m.ds.length f6, .int .i64 m.nx] 41)) (And.intro (AtC.new w4 41 #[.slice d1 m.xs.length f1, .slice d2 m.ys.length f2, .slice d3 m.is.length f3, .slice d4 m.bs.length f4, .slice d5 m.fs.length f5, .slice d6 m.ds.length f6, .int .i64 m.nx]) (O4.mr.alloc (.cells #[.slice d1 m.xs.length f1, .slice d2 m.ys.length f2, .slice d3 m.is.length f3, .slice d4 m.bs.length f4, .slice d5 m.fs.length f5, .slice d6 m.ds.length f6, .int .i64 m.nx] 41))))
    have y0 : (w4.alloc (.cells #[.slice d1 m.xs.length f1, .slice d2 m.ys.length f2, .slice d3 m.is.length f3, .slice d4 m.bs.length f4, .slice d5 m.fs.length f5, .slice d6 m.ds.length f6, .int .i64 m.nx] 41)).cell? ⟨w4.heap.size, 0, none⟩ = some (.slice d1 m.xs.length f1) := (AtC.new w4 41 #[.slice d1 m.xs.length f1, .slice d2 m.ys.length f2, .slice d3 m.is.length f3, .slice d4 m.bs.length f4, .slice d5 m.fs.length f5, .slice d6 m.ds.length f6, .int .i64 m.nx]).cell 0
    have y1 : (w4.alloc (.cells #[.slice d1 m.xs.length f1, .slice d2 m.ys.length f2, .slice d3 m.is.length f3, .slice d4 m.bs.length f4, .slice d5 m.fs.length f5, .slice d6 m.ds.length f6, .int .i64 m.nx] 41)).cell? ⟨w4.heap.size, 1, none⟩ = some (.slice d2 m.ys.length f2) := (AtC.new w4 41 #[.slice d1 m.xs.length f1, .slice d2 m.ys.length f2, .slice d3 m.is.length f3, .slice d4 m.bs.length f4, .slice d5 m.fs.length f5, .slice d6 m.ds.length f6, .int .i64 m.nx]).cell 1
    have y2 : (w4.alloc (.cells #[.slice d1 m.xs.length f1, .slice d2 m.ys.length f2, .slice d3 m.is.length f3, .slice d4 m.bs.length f4, .slice d5 m.fs.length f5, .slice d6 m.ds.length f6, .int .i64 m.nx] 41)).cell? ⟨w4.heap.size, 2, none⟩ = some (.slice d3 m.is.length f3) := (AtC.new w4 41 #[.slice d1 m.xs.length f1, .slice d2 m.ys.length f2, .slice d3 m.is.length f3, .slice d4 m.bs.length f4, .slice d5 m.fs.length f5, .slice d6 m.ds.length f6, .int .i64 m.nx]).cell 2
    have y3 : (w4.alloc (.cells #[.slice d1 m.xs.length f1, .slice d2 m.ys.length f2, .slice d3 m.is.length f3, .slice d4 m.bs.length f4, .slice d5 m.fs.length f5, .slice d6 m.ds.length f6, .int .i64 m.nx] 41)).cell? ⟨w4.heap.size, 3, none⟩ = some (.slice d4 m.bs.length f4) := (AtC.new w4 41 #[.slice d1 m.xs.length f1, .slice d2 m.ys.length f2, .slice d3 m.is.length f3, .slice d4 m.bs.length f4, .slice d5 m.fs.length f5, .slice d6 m.ds.length f6, .int .i64 m.nx]).cell 3
    have y4 : (w4.alloc (.cells #[.slice d1 m.xs.length f1, .slice d2 m.ys.length f2, .slice d3 m.is.length f3, .slice d4 m.bs.length f4, .slice d5 m.fs.length f5, .slice d6 m.ds.length f6, .int .i64 m.nx] 41)).cell? ⟨w4.heap.size, 4, none⟩ = some (.slice d5 m.fs.length f5) := (AtC.new w4 41 #[.slice d1 m.xs.length f1, .slice d2 m.ys.length f2, .slice d3 m.is.length f3, .slice d4 m.bs.length f4, .slice d5 m.fs.length f5, .slice d6 m.ds.length f6, .int .i64 m.nx]).cell 4
    have y5 : (w4.alloc (.cells #[.slice d1 m.xs.length f1, .slice d2 m.ys.length f2, .slice d3 m.is.length f3, .slice d4 m.bs.length f4, .slice d5 m.fs.length f5, .slice d6 m.ds.length f6, .int .i64 m.nx] 41)).cell? ⟨w4.heap.size, 5, none⟩ = some (.slice d6 m.ds.length f6) := (AtC.new w4 41 #[.slice d1 m.xs.length f1, .slice d2 m.ys.length f2, .slice d3 m.is.length f3, .slice d4 m.bs.length f4, .slice d5 m.fs.length f5, .slice d6 m.ds.length f6, .int .i64 m.nx]).cell 5
    have y6 : (w4.alloc (.cells #[.slice d1 m.xs.length f1, .slice d2 m.ys.length f2, .slice d3 m.is.length f3, .slice d4 m.bs.length f4, .slice d5 m.fs.length f5, .slice d6 m.ds.length f6, .int .i64 m.nx] 41)).cell? ⟨w4.heap.size, 6, none⟩ = some (.int .i64 m.nx) := (AtC.new w4 41 #[.slice d1 m.xs.length f1, .slice d2 m.ys.length f2, .slice d3 m.is.length f3, .slice d4 m.bs.length f4, .slice d5 m.fs.length f5, .slice d6 m.ds.length f6, .int .i64 m.nx]).cell 6
    clear B4 O4 x0 x1 x2 x3 x4 x5 x6
    go_wp2_with fail
    generalize w4.heap.size = hx at *
    generalize w4.alloc (.cells #[.slice d1 m.xs.length f1, .slice d2 m.ys.length f2, .slice d3 m.is.length f3, .slice d4 m.bs.length f4, .slice d5 m.fs.length f5, .slice d6 m.ds.length f6, .int .i64 m.nx] 41) = W4 at *
    refine (CI.out W4 _ _ _ _ _ _ H4.out.2.2).mono ?_
    rintro e w5 ⟨rfl, B5⟩
    have HS : Hid (∀ W, Below w5.heap.size w5 W → Below w3.heap.size w3 W ∧ AtC W hx 41 #[.slice d1 m.xs.length f1, .slice d2 m.ys.length f2, .slice d3 m.is.length f3, .slice d4 m.bs.length f4, .slice d5 m.fs.length f5, .slice d6 m.ds.length f6, .int .i64 m.nx] ∧ MR W (.slice d1 m.xs.length f1) (.slice d2 m.ys.length f2) (.slice d3 m.is.length f3) (.slice d4 m.bs.length f4) (.slice d5 m.fs.length f5) (.slice d6 m.ds.length f6) m) := fun W bb => by
      have q := B5.trans (bb.mono B5.size)
      exact ⟨H4.out.1.trans (q.mono H4.out.1.size), H4.out.2.1.over q, H4.out.2.2.below q (Nat.le_refl _)⟩
    have HCL : Hid (∀ w', Below w5.heap.size w5 w' → w'.cell? ⟨w.heap.size, 0, none⟩ = some (.slice a1 m.xs.length c1) ∧ w'.cell? ⟨w.heap.size, 1, none⟩ = some (.slice a2 m.ys.length c2) ∧ w'.cell? ⟨w.heap.size, 2, none⟩ = some (.slice a3 m.is.length c3) ∧ w'.cell? ⟨w.heap.size, 3, none⟩ = some (.slice a4 m.bs.length c4) ∧ w'.cell? ⟨w.heap.size, 4, none⟩ = some (.slice a5 m.fs.length c5) ∧ w'.cell? ⟨w.heap.size, 5, none⟩ = some (.slice a6 m.ds.length c6) ∧ w'.cell? ⟨w.heap.size, 6, none⟩ = some (.int .i64 m.nx) ∧ w'.cell? ⟨hx, 0, none⟩ = some (.slice d1 m.xs.length f1) ∧ w'.cell? ⟨hx, 1, none⟩ = some (.slice d2 m.ys.length f2) ∧ w'.cell? ⟨hx, 2, none⟩ = some (.slice d3 m.is.length f3) ∧ w'.cell? ⟨hx, 3, none⟩ = some (.slice d4 m.bs.length f4) ∧ w'.cell? ⟨hx, 4, none⟩ = some (.slice d5 m.fs.length f5) ∧ w'.cell? ⟨hx, 5, none⟩ = some (.slice d6 m.ds.length f6) ∧ w'.cell? ⟨hx, 6, none⟩ = some (.int .i64 m.nx)) := fun w' bb => by
      have q := HS.out w' bb
      have qa := H3.out.1.over q.1
      exact ⟨qa.cell 0, qa.cell 1, qa.cell 2, qa.cell 3, qa.cell 4, qa.cell 5, qa.cell 6, q.2.1.cell 0, q.2.1.cell 1, q.2.1.cell 2, q.2.1.cell 3, q.2.1.cell 4, q.2.1.cell 5, q.2.1.cell 6⟩
    obtain ⟨x0, x1, x2, x3, x4, x5, x6, y0, y1, y2, y3, y4, y5, y6⟩ := HCL.out _ (Below.refl _ _)
    clear B5
    go_wp2_with fail
    go_region_held3 (fun w' => w'.cell? ⟨w.heap.size, 0, none⟩ = some (.slice a1 m.xs.length c1) ∧ w'.cell? ⟨w.heap.size, 1, none⟩ = some (.slice a2 m.ys.length c2) ∧ w'.cell? ⟨w.heap.size, 2, none⟩ = some (.slice a3 m.is.length c3) ∧ w'.cell? ⟨w.heap.size, 3, none⟩ = some (.slice a4 m.bs.length c4) ∧ w'.cell? ⟨w.heap.size, 4, none⟩ = some (.slice a5 m.fs.length c5) ∧ w'.cell? ⟨w.heap.size, 5, none⟩ = some (.slice a6 m.ds.length c6) ∧ w'.cell? ⟨w.heap.size, 6, none⟩ = some (.int .i64 m.nx) ∧ w'.cell? ⟨hx, 0, none⟩ = some (.slice d1 m.xs.length f1) ∧ w'.cell? ⟨hx, 1, none⟩ = some (.slice d2 m.ys.length f2) ∧ w'.cell? ⟨hx, 2, none⟩ = some (.slice d3 m.is.length f3) ∧ w'.cell? ⟨hx, 3, none⟩ = some (.slice d4 m.bs.length f4) ∧ w'.cell? ⟨hx, 4, none⟩ = some (.slice d5 m.fs.length f5) ∧ w'.cell? ⟨hx, 5, none⟩ = some (.slice d6 m.ds.length f6) ∧ w'.cell? ⟨hx, 6, none⟩ = some (.int .i64 m.nx)) (first | exact HCL.out _ (Below.refl _ _).drew | exact HCL.out _ (of_drew B7) | exact HCL.out _ ((of_drew B7).trans (B8.mono (of_drew B7).size))) (first | (go_at_call 6; refine (toMem_any _ _ _ _ _ _ m _ (HV.out.below (H3.out.2.trans ((HS.out _ (Below.refl _ _).drew).1.mono H3.out.2.size)) (Nat.le_refl _)) HBG.out).mono ?_; rintro e w7 ⟨u1, u2, u3, u4, u5, u6, rfl, O7, B7⟩; obtain ⟨h1, j1, h2, j2, h3, j3, h4, j4, h5, j5, h6, j6, rfl, rfl, rfl, rfl, rfl, rfl⟩ := O7.mr.form) | (go_at_call 8; refine (eqMem_same _ _ _ _ _ _ _ _ _ _ _ _ m _ (HS.out _ (of_drew B7)).2.2 O7.mr HBG.out).mono ?_; rintro e w8 ⟨rfl, B8⟩))
    have HF := hide (H3.out.2.trans ((HS.out _ ((of_drew B7).trans (B8.mono (of_drew B7).size))).1.mono H3.out.2.size))
    clear B7 B8 O7
    go_wp2
    go_ret
    exact ⟨rfl, HF.out⟩
end Go.Proofs.Ytgjbenbodegnjaa.fnExactSettled
