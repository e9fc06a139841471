
/- laws.markMem and laws.heldMem by their contracts. -/
import Derived.Test.YtggjillpfclajaaGreatMh
namespace Go.Proofs.YtggjillpfclajaaGreat.Kit
open Go.RowKit
/-- The mark behind those of a memory. -/
def cntF (k : Nat) (m : MD) : Nat := cntD k m.xs m.ys m.is m.bs + m.fs.length
def cntM (k : Nat) (m : MD) : Nat := cnt szDp (cntF k m) m.ds
/-- A memory that is marked from k on. -/
def mkM (k : Nat) (m : MD) : MD := ⟨marksB k m.xs.length, marksB (k + m.xs.length) m.ys.length, mkL szI mkI (k + m.xs.length + m.ys.length) m.is, mkL szB mkB (cnt szI (k + m.xs.length + m.ys.length) m.is) m.bs, marksB (cntD k m.xs m.ys m.is m.bs) m.fs.length, mkL szDp mkDp (cntF k m) m.ds, m.nx⟩
theorem cntM_ge (k : Nat) (m : MD) : cntD k m.xs m.ys m.is m.bs ≤ cntM k m ∧ cntF k m ≤ cntM k m := by
  have h := cnt_ge (sz := szDp) (cntF k m) m.ds
  exact ⟨Nat.le_trans (Nat.le_add_right _ _) h, h⟩
end Go.Proofs.YtggjillpfclajaaGreat.Kit
namespace Go.Proofs.YtggjillpfclajaaGreat
open Go.RowKit Kit
set_option maxRecDepth 100000 in
set_option maxHeartbeats 1600000 in
theorem markMem_any (u v iv bv dv pv : Value) (m : MD) (S : Nat → Prop) (k : Nat) (w : World) (h : MO w S u v iv bv dv pv m) (hk0 : 1 ≤ k) (hk : cntM k m ≤ 100000000000000) :
    Calls Tryz.prog 12 #[.agg #[u, v, iv, bv, dv, pv, .int .i64 m.nx], .int .i64 k] w fun e w' => e = .returned (.int .i64 (cntM k m : Nat)) ∧ MO w' S u v iv bv dv pv (mkM k m) ∧ Chg S w w' := by
  obtain ⟨a1, c1, a2, c2, a3, c3, a4, c4, a5, c5, a6, c6, rfl, rfl, rfl, rfl, rfl, rfl⟩ := h.mr.form
  obtain ⟨S1, S2, S3, ts, h1, h2, h3, h4, h5, h6, h7⟩ := h.bound
  have hc1 := (cntM_ge k m).1
  have hc2 := (cntM_ge k m).2
  obtain ⟨K1, hK1⟩ : ∃ K, cntD k m.xs m.ys m.is m.bs = K := ⟨_, rfl⟩
  have hF : cntF k m = K1 + m.fs.length := by unfold cntF; rw [hK1]
  have CM : Hid (∀ W, DO W S1 (.slice a1 m.xs.length c1) (.slice a2 m.ys.length c2) (.slice a3 m.is.length c3) (.slice a4 m.bs.length c4) m.xs m.ys m.is m.bs → Calls Tryz.prog 38 #[.agg #[.slice a1 m.xs.length c1, .slice a2 m.ys.length c2, .slice a3 m.is.length c3, .slice a4 m.bs.length c4], .int .i64 k] W fun e w' => e = .returned (.int .i64 (K1 : Nat)) ∧ DM w' S1 (.slice a1 m.xs.length c1) (.slice a2 m.ys.length c2) (.slice a3 m.is.length c3) (.slice a4 m.bs.length c4) k m.xs m.ys m.is m.bs ∧ Chg S1 W w') := fun W hW => by
    have := markDisk_any _ _ _ _ m.xs m.ys m.is m.bs S1 k W hW hk0 (Nat.le_trans hc1 hk)
    rw [hK1] at this
    exact this
  have CD : Hid (∀ ts W, GN KDep W S3 (.slice a6 m.ds.length c6) ts m.ds → Calls Tryz.prog 40 #[.slice a6 m.ds.length c6, .int .i64 ((K1 + m.fs.length : Nat) : Int)] W fun e w' => ∃ ts', e = .returned (.int .i64 (cntM k m : Nat)) ∧ GN KDep w' S3 (.slice a6 m.ds.length c6) ts' (mkL szDp mkDp (cntF k m) m.ds) ∧ Chg S3 W w') := fun ts W hW => by
    have := markDepS_any _ ts m.ds S3 (cntF k m) W hW hk
    rw [← hF]
    exact this
  have hb1 : K1 ≤ 100000000000000 := by omega
  have hb2 : K1 + m.fs.length ≤ 100000000000000 := by omega
  have hlow : ∀ q, S1 q ∨ S2 q ∨ S3 q → q < w.heap.size := fun q hq => (h7 q hq).2
  have hSS : ∀ q, S1 q ∨ S2 q ∨ S3 q → S q := fun q hq => (h7 q hq).1
  have H1 := hide (h1.alloc (.cells #[.slice a1 m.xs.length c1, .slice a2 m.ys.length c2, .slice a3 m.is.length c3, .slice a4 m.bs.length c4, .slice a5 m.fs.length c5, .slice a6 m.ds.length c6, .int .i64 m.nx] 40))
  have H2 := hide (And.intro (h2.alloc (.cells #[.slice a1 m.xs.length c1, .slice a2 m.ys.length c2, .slice a3 m.is.length c3, .slice a4 m.bs.length c4, .slice a5 m.fs.length c5, .slice a6 m.ds.length c6, .int .i64 m.nx] 40)) h3)
  have H3 := hide (h4.alloc (.cells #[.slice a1 m.xs.length c1, .slice a2 m.ys.length c2, .slice a3 m.is.length c3, .slice a4 m.bs.length c4, .slice a5 m.fs.length c5, .slice a6 m.ds.length c6, .int .i64 m.nx] 40))
  have HD := hide (And.intro h5 (And.intro h6 (And.intro hlow hSS)))
  have HK1 := hide hK1
  clear h h1 h2 h3 h4 h5 h6 h7 hlow hSS hc1 hc2 hK1 hF hk
  go_enter Tryz.func12, Tryz.ntmps12
  go_wp2_with fail
  refine (CM.out _ H1.out).mono ?_
  rintro e w1 ⟨rfl, D1, C1⟩
  have K0 : AtC w1 w.heap.size 40 #[.slice a1 m.xs.length c1, .slice a2 m.ys.length c2, .slice a3 m.is.length c3, .slice a4 m.bs.length c4, .slice a5 m.fs.length c5, .slice a6 m.ds.length c6, .int .i64 m.nx] := (C1.block _ (by simp) (fun e => by have := HD.out.2.2.1 _ (.inl e); omega)).trans (AtC.new w 40 _)
  have O2 : ROwns w1 0 4 (.slice a5 m.fs.length c5) (fc m.fs) := H2.out.1.of_heap fun q hq => C1.block q (H2.out.1.lt q hq).2 (fun e => (HD.out.1 q e).1 (H2.out.2 q hq))
  have G3 : GN KDep w1 S3 (.slice a6 m.ds.length c6) ts m.ds := H3.out.chg C1 (fun q hq e => (HD.out.1 q e).2 hq)
  have p4 : w1.cell? ⟨w.heap.size, 4, none⟩ = some (.slice a5 m.fs.length c5) := K0.cell 4
  have HX := hide (And.intro D1 (And.intro C1 (And.intro O2 (And.intro G3 K0))))
  clear D1 C1 O2 G3 K0
  go_wp2_with fail
  refine (markB_any _ m.fs 0 K1 _ HX.out.2.2.1 (by omega) (by omega)).mono ?_
  rintro e w2 ⟨rfl, R2, G2⟩
  have C2 : Chg S2 w1 w2 := Chg.of_grown G2 (fun q hq => H2.out.2 q hq)
  have D2 := HX.out.1.chg C2 (fun q hq e => (HD.out.1 q hq).1 e)
  have G3 : GN KDep w2 S3 (.slice a6 m.ds.length c6) ts m.ds := HX.out.2.2.2.1.chg C2 (fun q hq e => HD.out.2.1 q e hq)
  have K0 := (C2.block _ HX.out.2.2.2.2.lt (fun e => by have := HD.out.2.2.1 _ (.inr (.inl e)); omega)).trans HX.out.2.2.2.2
  have p5 : w2.cell? ⟨w.heap.size, 5, none⟩ = some (.slice a6 m.ds.length c6) := AtC.cell K0 5
  have HY := hide (And.intro D2 (And.intro R2 (And.intro C2 G3)))
  clear D2 R2 G2 C2 G3 K0 p4
  go_wp2_with fail
  refine (CD.out ts _ HY.out.2.2.2).mono ?_
  rintro e w3 ⟨ts3, rfl, G3, C3⟩
  have HZ := hide (And.intro G3 C3)
  clear G3 C3 p5
  go_wp2
  go_ret
  have R3 : ROwns w3 0 4 (.slice a5 m.fs.length c5) (fc (mkM k m).fs) := by
    show ROwns w3 0 4 (.slice a5 m.fs.length c5) (fc (marksB (cntD k m.xs m.ys m.is m.bs) m.fs.length))
    rw [HK1.out]
    exact HY.out.2.1.of_heap (fun q hq => HZ.out.2.block q (HY.out.2.1.lt q hq).2 (fun e => HD.out.2.1 q (H2.out.2 q hq) e))
  refine ⟨rfl, ⟨S1, S2, S3, ts3, HY.out.1.chg HZ.out.2 (fun q hq e => (HD.out.1 q hq).2 e), R3, H2.out.2, HZ.out.1, HD.out.1, HD.out.2.1, HD.out.2.2.2⟩, ?_⟩
  have c0 : Chg S w w1 := (Chg.of_below ((Below.refl _ w).alloc (Nat.le_refl _) _)).trans (HX.out.2.1.mono fun q hq => HD.out.2.2.2 q (.inl hq))
  exact (c0.trans (HY.out.2.2.1.mono fun q hq => HD.out.2.2.2 q (.inr (.inl hq)))).trans (HZ.out.2.mono fun q hq => HD.out.2.2.2 q (.inr (.inr hq)))
set_option maxRecDepth 100000 in
set_option maxHeartbeats 1600000 in
theorem heldMem_any (u v iv bv dv pv : Value) (m : MD) (S : Nat → Prop) (k : Nat) (w : World) (h : MO w S u v iv bv dv pv (mkM k m)) (hk0 : 1 ≤ k) (hk : cntM k m ≤ 100000000000000) :
    Calls Tryz.prog 13 #[.agg #[u, v, iv, bv, dv, pv, .int .i64 m.nx], .int .i64 k] w fun e w' => e = .returned (.int .i64 (cntM k m : Nat)) ∧ Below w.heap.size w w' := by
  obtain ⟨S1, S2, S3, ts, h1, h2, -, h4, -⟩ := h
  obtain ⟨a1, c1, a2, c2, a3, c3, a4, c4, rfl, rfl, rfl, rfl⟩ := h1.dr.form
  obtain ⟨a5, c5, rfl⟩ := h2.rfl.form
  obtain ⟨a6, c6, rfl⟩ := h4.form
  have hc1 := (cntM_ge k m).1
  have hc2 := (cntM_ge k m).2
  obtain ⟨K1, hK1⟩ : ∃ K, cntD k m.xs m.ys m.is m.bs = K := ⟨_, rfl⟩
  have hF : cntF k m = K1 + m.fs.length := by unfold cntF; rw [hK1]
  have H1 : Hid (∀ W, Below w.heap.size w W → Calls Tryz.prog 41 #[.agg #[.slice a1 (mkM k m).xs.length c1, .slice a2 (mkM k m).ys.length c2, .slice a3 (mkM k m).is.length c3, .slice a4 (mkM k m).bs.length c4], .int .i64 k] W fun e w' => e = .returned (.int .i64 (K1 : Nat)) ∧ Below W.heap.size W w') := fun W hW => by
    have := heldDisk_any _ _ _ _ m.xs m.ys m.is m.bs S1 k W (h1.below hW (Nat.le_refl _)) hk0 (Nat.le_trans hc1 hk)
    rw [hK1] at this
    exact this
  have H2 : Hid (∀ W, Below w.heap.size w W → ROwns W 0 4 (.slice a5 (mkM k m).fs.length c5) (fc (marksB K1 m.fs.length))) := fun W hW => by
    rw [← hK1]
    exact h2.below hW (Nat.le_refl _)
  have H3 : Hid (∀ W, Below w.heap.size w W → Calls Tryz.prog 43 #[.slice a6 (mkM k m).ds.length c6, .int .i64 ((K1 + m.fs.length : Nat) : Int)] W fun e w' => e = .returned (.int .i64 (cntM k m : Nat)) ∧ Below W.heap.size W w') := fun W hW => by
    have := heldDepS_any _ ts m.ds S3 (cntF k m) W (h4.below hW (Nat.le_refl _)) hk
    rw [← hF]
    exact this
  have hb1 : K1 ≤ 100000000000000 := by omega
  have hb2 : K1 + m.fs.length ≤ 100000000000000 := by omega
  clear h1 h2 h4 hc1 hc2 hK1 hF hk
  obtain ⟨N, hN⟩ : ∃ N, cntM k m = N := ⟨_, rfl⟩
  rw [hN] at H3 ⊢
  obtain ⟨n1, q1⟩ : ∃ n, (mkM k m).xs.length = n := ⟨_, rfl⟩
  obtain ⟨n2, q2⟩ : ∃ n, (mkM k m).ys.length = n := ⟨_, rfl⟩
  obtain ⟨n3, q3⟩ : ∃ n, (mkM k m).is.length = n := ⟨_, rfl⟩
  obtain ⟨n4, q4⟩ : ∃ n, (mkM k m).bs.length = n := ⟨_, rfl⟩
  obtain ⟨n5, q5⟩ : ∃ n, (mkM k m).fs.length = n := ⟨_, rfl⟩
  obtain ⟨n6, q6⟩ : ∃ n, (mkM k m).ds.length = n := ⟨_, rfl⟩
  rw [q1, q2, q3, q4] at H1
  rw [q5] at H2
  rw [q6] at H3
  rw [q1, q2, q3, q4, q5, q6]
  clear q1 q2 q3 q4 q5 q6 hN
  have B0 : Below w.heap.size w (w.alloc (.cells #[.slice a1 n1 c1, .slice a2 n2 c2, .slice a3 n3 c3, .slice a4 n4 c4, .slice a5 n5 c5, .slice a6 n6 c6, .int .i64 m.nx] 40)) := (Below.refl _ w).alloc (Nat.le_refl _) _
  have HB0 := hide B0
  have nN : ¬ ((N : Int) < 0) := by omega
  have nK : ¬ ((K1 : Int) < 0) := by omega
  have nF : ¬ (((K1 + m.fs.length : Nat) : Int) < 0) := by omega
  clear B0
  go_enter Tryz.func13, Tryz.ntmps13
  go_wp2_with fail
  refine (H1.out _ HB0.out).mono ?_
  rintro e w1 ⟨rfl, B1⟩
  have K0 : AtC w1 w.heap.size 40 #[.slice a1 n1 c1, .slice a2 n2 c2, .slice a3 n3 c3, .slice a4 n4 c4, .slice a5 n5 c5, .slice a6 n6 c6, .int .i64 m.nx] := (AtC.new w 40 _).over B1
  have p4 : w1.cell? ⟨w.heap.size, 4, none⟩ = some (.slice a5 n5 c5) := K0.cell 4
  have HB1 := hide (HB0.out.trans (B1.mono HB0.out.size))
  have HK0 := hide K0
  clear B1 K0
  go_wp2_with fail
  refine (heldB_any _ m.fs.length 0 K1 _ (H2.out _ HB1.out) (by omega) (by omega)).mono ?_
  rintro e w2 ⟨rfl, B2⟩
  have K0 := HK0.out.over B2
  have p5 : w2.cell? ⟨w.heap.size, 5, none⟩ = some (.slice a6 n6 c6) := K0.cell 5
  have HB2 := hide (HB1.out.trans (B2.mono HB1.out.size))
  clear B2 K0 p4
  go_wp2_with fail
  refine (H3.out _ HB2.out).mono ?_
  rintro e w3 ⟨rfl, B3⟩
  have HB3 := hide (HB2.out.trans (B3.mono HB2.out.size))
  clear B3 p5
  go_wp2
  go_ret
  exact ⟨rfl, HB3.out⟩
end Go.Proofs.YtggjillpfclajaaGreat
