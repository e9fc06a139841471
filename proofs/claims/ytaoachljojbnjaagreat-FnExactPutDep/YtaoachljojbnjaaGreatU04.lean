/- Texts of the proof, bundled: Mh, Mn, Bg, Qs, Qd, Qm, Td, Tm, Sd. -/
import Derived.Deep.RegionHeld3
import Derived.Test.YtaoachljojbnjaaGreatU03
import Derived.Test.YtaoachljojbnjaaGreatU01
import Derived.Test.YtaoachljojbnjaaGreatU02
/- laws.heldDepS by its contract. -/
namespace Go.Proofs.YtaoachljojbnjaaGreat
open Go.RowKit Kit
set_option maxRecDepth 100000 in
set_option maxHeartbeats 3200000 in
theorem heldDepS_any (v : Value) (ts : List Row) (xs : List Dp) (S : Nat → Prop) (k : Nat) (w : World) (h : GN KDep w S v ts (mkL szDp mkDp k xs)) (hk : cnt szDp k xs ≤ 100000000000000) :
    Calls Tryz.prog 40 #[v, .int .i64 k] w fun e w' => e = .returned (.int .i64 (cnt szDp k xs : Nat)) ∧ Below w.heap.size w w' := by
  have hlen : k + xs.length ≤ cnt szDp k xs := cnt_len (fun x => by simp [szDp]; omega) k xs
  obtain ⟨a1, c1, rfl⟩ := h.form
  rw [mkL_length] at *
  have HG := hide h
  have HK := hide hk
  clear h
  go_enter Tryz.func40, Tryz.ntmps40
  go_wp2
  go_loopw [1, 5] (fun x i wr => ∃ j : Nat, j ≤ xs.length ∧ i = .int .i64 j ∧ x = .int .i64 (cnt szDp k (xs.take j) : Nat) ∧ Hid (Below w.heap.size w wr)) (fun _ i _ => xs.length - (intOf i).toNat)
  case atStart => exact ⟨0, Nat.zero_le _, rfl, rfl, Below.refl _ _⟩
  case round =>
    obtain ⟨j, hj, rfl, rfl, HC⟩ := hrel
    by_cases hlt : j < xs.length
    · have hl2 : ts.length = xs.length := by rw [HG.out.len, mkL_length]
      have hj2 : j < ts.length := by omega
      have hin := HG.out.inn j hj2 (by rw [mkL_length]; exact hlt)
      rw [mkL_at k j xs hlt] at hin
      obtain ⟨p, hrow, hO⟩ := hin
      obtain ⟨g, c2, e1, -, -, k5, -⟩ := HG.out.row.at j hj2
      simp only [Value.slice.injEq] at e1
      obtain ⟨rfl, -, rfl⟩ := e1
      have hcle := cnt_le (sz := szDp) k xs j hlt
      have hcs := cnt_succ (sz := szDp) k xs j hlt
      obtain ⟨n, hn⟩ : ∃ n, xs[j].bl.length = n := ⟨_, rfl⟩
      have hszj : szDp xs[j] = 10 + n := by rw [← hn]; rfl
      rw [hszj] at hcle hcs
      obtain ⟨K, hK⟩ : ∃ K : Nat, cnt szDp k (xs.take j) = K := ⟨_, rfl⟩
      rw [hK] at hcle hcs hrow hO ⊢
      have hK1 : K + (10 + n) ≤ 100000000000000 := Nat.le_trans hcle hk
      have hO2 : ROwns w 0 3 p (ic (marksI (K + 10) n)) := by rw [← hn]; exact hO
      obtain ⟨pa, pc, hpf⟩ := hO2.rints.form
      rw [marks_lengthI] at hpf
      subst hpf
      obtain ⟨d0, -⟩ := HG.out.row.deps j hj2 hrow rfl
      obtain ⟨z1, e1⟩ : ∃ z : Int, (K : Int) + 1 = z := ⟨_, rfl⟩
      obtain ⟨z2, e2⟩ : ∃ z : Int, z1 + 1 = z := ⟨_, rfl⟩
      obtain ⟨z3, e3⟩ : ∃ z : Int, z2 + 1 = z := ⟨_, rfl⟩
      obtain ⟨z4, e4⟩ : ∃ z : Int, z3 + 1 = z := ⟨_, rfl⟩
      obtain ⟨z5, e5⟩ : ∃ z : Int, z4 + 1 = z := ⟨_, rfl⟩
      obtain ⟨z6, e6⟩ : ∃ z : Int, z5 + 1 = z := ⟨_, rfl⟩
      obtain ⟨z7, e7⟩ : ∃ z : Int, z6 + 1 = z := ⟨_, rfl⟩
      obtain ⟨z8, e8⟩ : ∃ z : Int, z7 + 1 = z := ⟨_, rfl⟩
      obtain ⟨z9, e9⟩ : ∃ z : Int, z8 + 1 = z := ⟨_, rfl⟩
      obtain ⟨z10, e10⟩ : ∃ z : Int, z9 + 1 = z := ⟨_, rfl⟩
      have t1 : z1 = ((K + 1 : Nat) : Int) := by omega
      have t2 : z2 = ((K + 2 : Nat) : Int) := by omega
      have t3 : z3 = ((K + 3 : Nat) : Int) := by omega
      have t4 : z4 = ((K + 4 : Nat) : Int) := by omega
      have t5 : z5 = ((K + 5 : Nat) : Int) := by omega
      have t6 : z6 = ((K + 6 : Nat) : Int) := by omega
      have t7 : z7 = ((K + 7 : Nat) : Int) := by omega
      have t8 : z8 = ((K + 8 : Nat) : Int) := by omega
      have t9 : z9 = ((K + 9 : Nat) : Int) := by omega
      have t10 : z10 = ((K + 10 : Nat) : Int) := by omega
      have HS : Hid (∀ w', Below w.heap.size w w' → w'.cell? ⟨g, j * 11, none⟩ = some (.int .i64 (K : Int)) ∧ w'.cell? ⟨g, j * 11 + 1, none⟩ = some (.int .i64 z1) ∧ w'.cell? ⟨g, j * 11 + 2, none⟩ = some (.int .i64 z2) ∧ w'.cell? ⟨g, j * 11 + 3, none⟩ = some (.int .i64 z3) ∧ w'.cell? ⟨g, j * 11 + 4, none⟩ = some (.int .i64 z4) ∧ w'.cell? ⟨g, j * 11 + 5, none⟩ = some (.int .i64 z5) ∧ w'.cell? ⟨g, j * 11 + 6, none⟩ = some (.string (mkT z6.toNat)) ∧ w'.cell? ⟨g, j * 11 + 7, none⟩ = some (.bool (z7 % 3 == 0)) ∧ w'.cell? ⟨g, j * 11 + 8, none⟩ = some (.bool (z8 % 3 == 0)) ∧ w'.cell? ⟨g, j * 11 + 9, none⟩ = some (.int .i64 z9) ∧ w'.cell? ⟨g, j * 11 + 10, none⟩ = some (.slice pa n pc)) := fun w' hb => by
        have d1 := d0.below hb k5
        simp only [DCells, mkDp] at d1
        rw [mk3_toInt t7, mk3_toInt t8, t1, t2, t3, t4, t5, t6, t9, Int.toNat_natCast]
        exact d1
      have HO : Hid (∀ w', Below w.heap.size w w' → ROwns w' 0 3 (.slice pa n pc) (ic (marksI (K + 10) n))) := fun w' hb => hO2.below hb (Nat.le_refl _)
      have HCS := hide hcs
      have HZ10 := hide t10
      have j0 : (0 : Int) ≤ (j : Int) := by omega
      have j1 : (j : Int) < (xs.length : Int) := by omega
      have hsz := HC.out.size
      obtain ⟨r0, r1, r2, r3, r4, r5, r6, r7, r8, r9, r10⟩ := HS.out _ HC.out
      clear hcle hszj hK hrow hO hO2 hcs hl2 hj2 hn d0 t1 t2 t3 t4 t5 t6 t7 t8 t9 t10
      go_wp2_with fail
      go_region_held3 (fun w' => w'.cell? ⟨g, j * 11, none⟩ = some (.int .i64 (K : Int)) ∧ w'.cell? ⟨g, j * 11 + 1, none⟩ = some (.int .i64 z1) ∧ w'.cell? ⟨g, j * 11 + 2, none⟩ = some (.int .i64 z2) ∧ w'.cell? ⟨g, j * 11 + 3, none⟩ = some (.int .i64 z3) ∧ w'.cell? ⟨g, j * 11 + 4, none⟩ = some (.int .i64 z4) ∧ w'.cell? ⟨g, j * 11 + 5, none⟩ = some (.int .i64 z5) ∧ w'.cell? ⟨g, j * 11 + 6, none⟩ = some (.string (mkT z6.toNat)) ∧ w'.cell? ⟨g, j * 11 + 7, none⟩ = some (.bool (z7 % 3 == 0)) ∧ w'.cell? ⟨g, j * 11 + 8, none⟩ = some (.bool (z8 % 3 == 0)) ∧ w'.cell? ⟨g, j * 11 + 9, none⟩ = some (.int .i64 z9) ∧ w'.cell? ⟨g, j * 11 + 10, none⟩ = some (.slice pa n pc)) (first | exact HS.out _ HC.out.drew | exact HS.out _ (HC.out.trans ((of_drew B6).mono hsz))) ((go_at_call 58; refine (markText_int z6 _ (by omega) (by omega)).mono ?_; rintro e w6 ⟨rfl, B6⟩))
      have HB2 := hide (HC.out.trans ((of_drew B6).mono hsz))
      clear B6 r0 r1 r2 r3 r4 r5 r6 r7 r8 r9 r10
      obtain ⟨-, -, -, -, -, -, -, r7, r8, r9, r10⟩ := HS.out _ HB2.out
      go_wp2_with (go_at_call 62; rw [HZ10.out]; refine (heldI_any _ n 0 (K + 10) _ (HO.out _ HB2.out) (by omega) (by omega)).mono ?_; rintro e w7 ⟨rfl, B7⟩; have H1 := hide (HB2.out.trans (B7.mono HB2.out.size)); clear B7; have hK3 : ¬ (((K + 10 + n : Nat) : Int) < 0) := by omega)
      go_roundw
      case rel => exact ⟨j + 1, by omega, by go_num, by rw [HCS.out]; go_num, H1.out⟩
      case measure => simp [intOf]; omega
    · have hjl : j = xs.length := by omega
      have HJ := hide hjl
      clear hjl
      go_wp2
      go_ret
      exact ⟨by rw [HJ.out, cnt_all]; rfl, HC.out⟩
end Go.Proofs.YtaoachljojbnjaaGreat
/- laws.markMem and laws.heldMem by their contracts. -/
namespace Go.Proofs.YtaoachljojbnjaaGreat.Kit
open Go.RowKit
/-- The mark behind those of a memory. -/
def cntF (k : Nat) (m : MD) : Nat := cntD k m.xs m.ys m.is m.bs + m.fs.length
def cntM (k : Nat) (m : MD) : Nat := cnt szDp (cntF k m) m.ds
/-- A memory that is marked from k on. -/
def mkM (k : Nat) (m : MD) : MD := ⟨marksB k m.xs.length, marksB (k + m.xs.length) m.ys.length, mkL szI mkI (k + m.xs.length + m.ys.length) m.is, mkL szB mkB (cnt szI (k + m.xs.length + m.ys.length) m.is) m.bs, marksB (cntD k m.xs m.ys m.is m.bs) m.fs.length, mkL szDp mkDp (cntF k m) m.ds, m.nx⟩
theorem cntM_ge (k : Nat) (m : MD) : cntD k m.xs m.ys m.is m.bs ≤ cntM k m ∧ cntF k m ≤ cntM k m := by
  have h := cnt_ge (sz := szDp) (cntF k m) m.ds
  exact ⟨Nat.le_trans (Nat.le_add_right _ _) h, h⟩
end Go.Proofs.YtaoachljojbnjaaGreat.Kit
namespace Go.Proofs.YtaoachljojbnjaaGreat
open Go.RowKit Kit
set_option maxRecDepth 100000 in
set_option maxHeartbeats 1600000 in
theorem markMem_any (u v iv bv dv pv : Value) (m : MD) (S : Nat → Prop) (k : Nat) (w : World) (h : MO w S u v iv bv dv pv m) (hk0 : 1 ≤ k) (hk : cntM k m ≤ 100000000000000) :
    Calls Tryz.prog 12 #[.agg #[u, v, iv, bv, dv, pv, .int .i64 m.nx], .int .i64 k] w fun e w' => e = .returned (.int .i64 (cntM k m : Nat)) ∧ MO w' S u v iv bv dv pv (mkM k m) ∧ Chg S w w' := by
  obtain ⟨a1, c1, a2, c2, a3, c3, a4, c4, a5, c5, a6, c6, rfl, rfl, rfl, rfl, rfl, rfl⟩ := h.mr.form
  obtain ⟨S1, S2, S3, ts, h1, h2, h3, h4, h5, h6, h7⟩ := h.bound
  have hc1 := (cntM_ge k m).1
  have hc2 := (cntM_ge k m).2
  obtain ⟨K1, hK1⟩ : ∃ K, cntD k m.xs m.ys m.is m.bs = K := ⟨_, rfl⟩
  have hF : cntF k m = K1 + m.fs.length := by unfold cntF; rw [hK1]
  have CM : Hid (∀ W, DO W S1 (.slice a1 m.xs.length c1) (.slice a2 m.ys.length c2) (.slice a3 m.is.length c3) (.slice a4 m.bs.length c4) m.xs m.ys m.is m.bs → Calls Tryz.prog 34 #[.agg #[.slice a1 m.xs.length c1, .slice a2 m.ys.length c2, .slice a3 m.is.length c3, .slice a4 m.bs.length c4], .int .i64 k] W fun e w' => e = .returned (.int .i64 (K1 : Nat)) ∧ DM w' S1 (.slice a1 m.xs.length c1) (.slice a2 m.ys.length c2) (.slice a3 m.is.length c3) (.slice a4 m.bs.length c4) k m.xs m.ys m.is m.bs ∧ Chg S1 W w') := fun W hW => by
    have := markDisk_any _ _ _ _ m.xs m.ys m.is m.bs S1 k W hW hk0 (Nat.le_trans hc1 hk)
    rw [hK1] at this
    exact this
  have CD : Hid (∀ ts W, GN KDep W S3 (.slice a6 m.ds.length c6) ts m.ds → Calls Tryz.prog 36 #[.slice a6 m.ds.length c6, .int .i64 ((K1 + m.fs.length : Nat) : Int)] W fun e w' => ∃ ts', e = .returned (.int .i64 (cntM k m : Nat)) ∧ GN KDep w' S3 (.slice a6 m.ds.length c6) ts' (mkL szDp mkDp (cntF k m) m.ds) ∧ Chg S3 W w') := fun ts W hW => by
    have := markDepS_any _ ts m.ds S3 (cntF k m) W hW hk
    rw [← hF]
    exact this
  have hb1 : K1 ≤ 100000000000000 := by omega
  have hb2 : K1 + m.fs.length ≤ 100000000000000 := by omega
  have hlow : ∀ q, S1 q ∨ S2 q ∨ S3 q → q < w.heap.size := fun q hq => (h7 q hq).2
  have hSS : ∀ q, S1 q ∨ S2 q ∨ S3 q → S q := fun q hq => (h7 q hq).1
  have H1 := hide (h1.alloc (.cells #[.slice a1 m.xs.length c1, .slice a2 m.ys.length c2, .slice a3 m.is.length c3, .slice a4 m.bs.length c4, .slice a5 m.fs.length c5, .slice a6 m.ds.length c6, .int .i64 m.nx] 44))
  have H2 := hide (And.intro (h2.alloc (.cells #[.slice a1 m.xs.length c1, .slice a2 m.ys.length c2, .slice a3 m.is.length c3, .slice a4 m.bs.length c4, .slice a5 m.fs.length c5, .slice a6 m.ds.length c6, .int .i64 m.nx] 44)) h3)
  have H3 := hide (h4.alloc (.cells #[.slice a1 m.xs.length c1, .slice a2 m.ys.length c2, .slice a3 m.is.length c3, .slice a4 m.bs.length c4, .slice a5 m.fs.length c5, .slice a6 m.ds.length c6, .int .i64 m.nx] 44))
  have HD := hide (And.intro h5 (And.intro h6 (And.intro hlow hSS)))
  have HK1 := hide hK1
  clear h h1 h2 h3 h4 h5 h6 h7 hlow hSS hc1 hc2 hK1 hF hk
  go_enter Tryz.func12, Tryz.ntmps12
  go_wp2_with fail
  refine (CM.out _ H1.out).mono ?_
  rintro e w1 ⟨rfl, D1, C1⟩
  have K0 : AtC w1 w.heap.size 44 #[.slice a1 m.xs.length c1, .slice a2 m.ys.length c2, .slice a3 m.is.length c3, .slice a4 m.bs.length c4, .slice a5 m.fs.length c5, .slice a6 m.ds.length c6, .int .i64 m.nx] := (C1.block _ (by simp) (fun e => by have := HD.out.2.2.1 _ (.inl e); omega)).trans (AtC.new w 44 _)
  have O2 : ROwns w1 0 4 (.slice a5 m.fs.length c5) (fc m.fs) := H2.out.1.of_heap fun q hq => C1.block q (H2.out.1.lt q hq).2 (fun e => (HD.out.1 q e).1 (H2.out.2 q hq))
  have G3 : GN KDep w1 S3 (.slice a6 m.ds.length c6) ts m.ds := H3.out.chg C1 (fun q hq e => (HD.out.1 q e).2 hq)
  have p4 : w1.cell? ⟨w.heap.size, 4, none⟩ = some (.slice a5 m.fs.length c5) := K0.cell 4
  have HX := hide (And.intro D1 (And.intro C1 (And.intro O2 (And.intro G3 K0))))
  clear D1 C1 O2 G3 K0
  go_wp2_with fail
  refine (markB_any _ m.fs 0 K1 _ HX.out.2.2.1 (by omega) (by omega)).mono ?_
  rintro e w2 ⟨rfl, R2, G2⟩
  have C2 : Chg S2 w1 w2 := Chg.of_grown G2 (fun q hq => H2.out.2 q hq)
  have D2 := HX.out.1.chg C2 (fun q hq e => (HD.out.1 q hq).1 e)
  have G3 : GN KDep w2 S3 (.slice a6 m.ds.length c6) ts m.ds := HX.out.2.2.2.1.chg C2 (fun q hq e => HD.out.2.1 q e hq)
  have K0 := (C2.block _ HX.out.2.2.2.2.lt (fun e => by have := HD.out.2.2.1 _ (.inr (.inl e)); omega)).trans HX.out.2.2.2.2
  have p5 : w2.cell? ⟨w.heap.size, 5, none⟩ = some (.slice a6 m.ds.length c6) := AtC.cell K0 5
  have HY := hide (And.intro D2 (And.intro R2 (And.intro C2 G3)))
  clear D2 R2 G2 C2 G3 K0 p4
  go_wp2_with fail
  refine (CD.out ts _ HY.out.2.2.2).mono ?_
  rintro e w3 ⟨ts3, rfl, G3, C3⟩
  have HZ := hide (And.intro G3 C3)
  clear G3 C3 p5
  go_wp2
  go_ret
  have R3 : ROwns w3 0 4 (.slice a5 m.fs.length c5) (fc (mkM k m).fs) := by
    show ROwns w3 0 4 (.slice a5 m.fs.length c5) (fc (marksB (cntD k m.xs m.ys m.is m.bs) m.fs.length))
    rw [HK1.out]
    exact HY.out.2.1.of_heap (fun q hq => HZ.out.2.block q (HY.out.2.1.lt q hq).2 (fun e => HD.out.2.1 q (H2.out.2 q hq) e))
  refine ⟨rfl, ⟨S1, S2, S3, ts3, HY.out.1.chg HZ.out.2 (fun q hq e => (HD.out.1 q hq).2 e), R3, H2.out.2, HZ.out.1, HD.out.1, HD.out.2.1, HD.out.2.2.2⟩, ?_⟩
  have c0 : Chg S w w1 := (Chg.of_below ((Below.refl _ w).alloc (Nat.le_refl _) _)).trans (HX.out.2.1.mono fun q hq => HD.out.2.2.2 q (.inl hq))
  exact (c0.trans (HY.out.2.2.1.mono fun q hq => HD.out.2.2.2 q (.inr (.inl hq)))).trans (HZ.out.2.mono fun q hq => HD.out.2.2.2 q (.inr (.inr hq)))
set_option maxRecDepth 100000 in
set_option maxHeartbeats 1600000 in
theorem heldMem_any (u v iv bv dv pv : Value) (m : MD) (S : Nat → Prop) (k : Nat) (w : World) (h : MO w S u v iv bv dv pv (mkM k m)) (hk0 : 1 ≤ k) (hk : cntM k m ≤ 100000000000000) :
    Calls Tryz.prog 14 #[.agg #[u, v, iv, bv, dv, pv, .int .i64 m.nx], .int .i64 k] w fun e w' => e = .returned (.int .i64 (cntM k m : Nat)) ∧ Below w.heap.size w w' := by
  obtain ⟨S1, S2, S3, ts, h1, h2, -, h4, -⟩ := h
  obtain ⟨a1, c1, a2, c2, a3, c3, a4, c4, rfl, rfl, rfl, rfl⟩ := h1.dr.form
  obtain ⟨a5, c5, rfl⟩ := h2.rfl.form
  obtain ⟨a6, c6, rfl⟩ := h4.form
  have hc1 := (cntM_ge k m).1
  have hc2 := (cntM_ge k m).2
  obtain ⟨K1, hK1⟩ : ∃ K, cntD k m.xs m.ys m.is m.bs = K := ⟨_, rfl⟩
  have hF : cntF k m = K1 + m.fs.length := by unfold cntF; rw [hK1]
  have H1 : Hid (∀ W, Below w.heap.size w W → Calls Tryz.prog 38 #[.agg #[.slice a1 (mkM k m).xs.length c1, .slice a2 (mkM k m).ys.length c2, .slice a3 (mkM k m).is.length c3, .slice a4 (mkM k m).bs.length c4], .int .i64 k] W fun e w' => e = .returned (.int .i64 (K1 : Nat)) ∧ Below W.heap.size W w') := fun W hW => by
    have := heldDisk_any _ _ _ _ m.xs m.ys m.is m.bs S1 k W (h1.below hW (Nat.le_refl _)) hk0 (Nat.le_trans hc1 hk)
    rw [hK1] at this
    exact this
  have H2 : Hid (∀ W, Below w.heap.size w W → ROwns W 0 4 (.slice a5 (mkM k m).fs.length c5) (fc (marksB K1 m.fs.length))) := fun W hW => by
    rw [← hK1]
    exact h2.below hW (Nat.le_refl _)
  have H3 : Hid (∀ W, Below w.heap.size w W → Calls Tryz.prog 40 #[.slice a6 (mkM k m).ds.length c6, .int .i64 ((K1 + m.fs.length : Nat) : Int)] W fun e w' => e = .returned (.int .i64 (cntM k m : Nat)) ∧ Below W.heap.size W w') := fun W hW => by
    have := heldDepS_any _ ts m.ds S3 (cntF k m) W (h4.below hW (Nat.le_refl _)) hk
    rw [← hF]
    exact this
  have hb1 : K1 ≤ 100000000000000 := by omega
  have hb2 : K1 + m.fs.length ≤ 100000000000000 := by omega
  clear h1 h2 h4 hc1 hc2 hK1 hF hk
  obtain ⟨N, hN⟩ : ∃ N, cntM k m = N := ⟨_, rfl⟩
  rw [hN] at H3 ⊢
  obtain ⟨n1, q1⟩ : ∃ n, (mkM k m).xs.length = n := ⟨_, rfl⟩
  obtain ⟨n2, q2⟩ : ∃ n, (mkM k m).ys.length = n := ⟨_, rfl⟩
  obtain ⟨n3, q3⟩ : ∃ n, (mkM k m).is.length = n := ⟨_, rfl⟩
  obtain ⟨n4, q4⟩ : ∃ n, (mkM k m).bs.length = n := ⟨_, rfl⟩
  obtain ⟨n5, q5⟩ : ∃ n, (mkM k m).fs.length = n := ⟨_, rfl⟩
  obtain ⟨n6, q6⟩ : ∃ n, (mkM k m).ds.length = n := ⟨_, rfl⟩
  rw [q1, q2, q3, q4] at H1
  rw [q5] at H2
  rw [q6] at H3
  rw [q1, q2, q3, q4, q5, q6]
  clear q1 q2 q3 q4 q5 q6 hN
  have B0 : Below w.heap.size w (w.alloc (.cells #[.slice a1 n1 c1, .slice a2 n2 c2, .slice a3 n3 c3, .slice a4 n4 c4, .slice a5 n5 c5, .slice a6 n6 c6, .int .i64 m.nx] 44)) := (Below.refl _ w).alloc (Nat.le_refl _) _
  have HB0 := hide B0
  have nN : ¬ ((N : Int) < 0) := by omega
  have nK : ¬ ((K1 : Int) < 0) := by omega
  have nF : ¬ (((K1 + m.fs.length : Nat) : Int) < 0) := by omega
  clear B0
  go_enter Tryz.func14, Tryz.ntmps14
  go_wp2_with fail
  refine (H1.out _ HB0.out).mono ?_
  rintro e w1 ⟨rfl, B1⟩
  have K0 : AtC w1 w.heap.size 44 #[.slice a1 n1 c1, .slice a2 n2 c2, .slice a3 n3 c3, .slice a4 n4 c4, .slice a5 n5 c5, .slice a6 n6 c6, .int .i64 m.nx] := (AtC.new w 44 _).over B1
  have p4 : w1.cell? ⟨w.heap.size, 4, none⟩ = some (.slice a5 n5 c5) := K0.cell 4
  have HB1 := hide (HB0.out.trans (B1.mono HB0.out.size))
  have HK0 := hide K0
  clear B1 K0
  go_wp2_with fail
  refine (heldB_any _ m.fs.length 0 K1 _ (H2.out _ HB1.out) (by omega) (by omega)).mono ?_
  rintro e w2 ⟨rfl, B2⟩
  have K0 := HK0.out.over B2
  have p5 : w2.cell? ⟨w.heap.size, 5, none⟩ = some (.slice a6 n6 c6) := K0.cell 5
  have HB2 := hide (HB1.out.trans (B2.mono HB1.out.size))
  clear B2 K0 p4
  go_wp2_with fail
  refine (H3.out _ HB2.out).mono ?_
  rintro e w3 ⟨rfl, B3⟩
  have HB3 := hide (HB2.out.trans (B3.mono HB2.out.size))
  clear B3 p5
  go_wp2
  go_ret
  exact ⟨rfl, HB3.out⟩
end Go.Proofs.YtaoachljojbnjaaGreat
/- Marks of what is not too big are small. No Go function is spoken of. -/
namespace Go.Proofs.YtaoachljojbnjaaGreat.Kit
open Go.RowKit
theorem cnt_big {α : Type} {sz : α → Nat} {M : Nat} (k : Nat) (l : List α) (h : ∀ (j : Nat) (h : j < l.length), sz l[j] ≤ M) : cnt sz k l ≤ k + l.length * M := by
  induction l generalizing k with
  | nil => simp [cnt]
  | cons x r ih =>
    have h0 := h 0 (by simp)
    have := ih (k + sz x) (fun j hj => h (j + 1) (by simpa using hj))
    simp only [cnt, List.length_cons, Nat.add_mul] at this ⊢
    simp only [List.getElem_cons_zero] at h0
    omega
/-- Marks of a disk that is not too big are small. -/
theorem cntD_big {xs ys : List Bool} {is : List Ino} {bs : List Blk} (h : Big 1048576 xs ys is bs) : cntD 1 xs ys is bs ≤ 10000000000000 := by
  have h1 := cnt_big (sz := szI) (M := 1048578) (1 + xs.length + ys.length) is (fun j hj => by have := h.p j hj; unfold szI; omega)
  have h2 := cnt_big (sz := szB) (M := 2097154) (cnt szI (1 + xs.length + ys.length) is) bs (fun j hj => by have := (h.s j hj).1; unfold szB; omega)
  have h3 : is.length * 1048578 ≤ 1048576 * 1048578 := Nat.mul_le_mul_right _ h.i
  have h4 : bs.length * 2097154 ≤ 1048576 * 2097154 := Nat.mul_le_mul_right _ h.b
  have := h.x
  have := h.y
  unfold cntD
  omega
theorem cntM_big {m : MD} (h : BigM 1048576 m) : cntM 1 m ≤ 100000000000000 := by
  have h1 := cnt_big (sz := szDp) (M := 1048586) (cntF 1 m) m.ds (fun j hj => by have := h.b j hj; unfold szDp; omega)
  have h3 : m.ds.length * 1048586 ≤ 1048576 * 1048586 := Nat.mul_le_mul_right _ h.l
  have := cntD_big h.d
  have := h.f
  unfold cntM
  unfold cntF at h1 ⊢
  omega
end Go.Proofs.YtaoachljojbnjaaGreat.Kit
/- laws.eqInodeS, laws.eqBlockS and laws.eqDisk of the same parts, by their contracts. -/
namespace Go.Proofs.YtaoachljojbnjaaGreat
open Go.RowKit Kit
set_option maxRecDepth 100000 in
set_option maxHeartbeats 1600000 in
theorem eqInoS_same (va vb : Value) (l : List Ino) (w : World) (ha : R3 KI w va l) (hb : R3 KI w vb l) (hl : l.length ≤ 1048576) (hp : ∀ (j : Nat) (h : j < l.length), l[j].2.2.length ≤ 1048576) :
    Calls Tryz.prog 53 #[va, vb] w fun e w' => e = .returned (.bool true) ∧ Below w.heap.size w w' := by
  obtain ⟨a1, c1, rfl, -, ha'⟩ := ha.ino
  obtain ⟨a2, c2, rfl, -, hb'⟩ := hb.ino
  have HA := hide ha'
  have HB := hide hb'
  have HP := hide hp
  clear ha hb hp ha' hb'
  go_enter Tryz.func53, Tryz.ntmps53
  go_wp2
  go_loopw [5] (fun i wr => ∃ j : Nat, j ≤ l.length ∧ i = .int .i64 j ∧ Below w.heap.size w wr) (fun i _ => l.length - (intOf i).toNat)
  case atStart => exact ⟨0, Nat.zero_le _, rfl, Below.refl _ _⟩
  case round =>
    obtain ⟨j, hj, rfl, hb⟩ := hrel
    by_cases hlt : j < l.length
    · obtain ⟨g1, o1, p1, rfl, hg1, m1, m2, m3, hr1⟩ := HA.out j hlt
      obtain ⟨g2, o2, p2, rfl, hg2, n1, n2, n3, hr2⟩ := HB.out j hlt
      have hpl := HP.out j hlt
      obtain ⟨x, hx⟩ : ∃ x, l[j] = x := ⟨_, rfl⟩
      obtain ⟨y, s, z⟩ := x
      rw [hx] at m1 m2 n1 n2 hr1 hr2 hpl
      obtain ⟨pa, pc, rfl⟩ := hr1.form
      obtain ⟨pb, pd, rfl⟩ := hr2.form
      simp only at m1 m2 m3 n1 n2 n3 hr1 hr2 hpl
      have HS : Hid (∀ w', Below w.heap.size w w' → w'.cell? ⟨g1, o1 + j * 3, none⟩ = some (.int .i64 y) ∧ w'.cell? ⟨g1, o1 + j * 3 + 1, none⟩ = some (.int .i64 s) ∧ w'.cell? ⟨g1, o1 + j * 3 + 2, none⟩ = some (.slice pa z.length pc) ∧ w'.cell? ⟨g2, o2 + j * 3, none⟩ = some (.int .i64 y) ∧ w'.cell? ⟨g2, o2 + j * 3 + 1, none⟩ = some (.int .i64 s) ∧ w'.cell? ⟨g2, o2 + j * 3 + 2, none⟩ = some (.slice pb z.length pd)) := fun w' hb =>
        ⟨(hb.cell (p := ⟨g1, o1 + j * 3, none⟩) hg1).trans m1, (hb.cell (p := ⟨g1, o1 + j * 3 + 1, none⟩) hg1).trans m2, (hb.cell (p := ⟨g1, o1 + j * 3 + 2, none⟩) hg1).trans m3, (hb.cell (p := ⟨g2, o2 + j * 3, none⟩) hg2).trans n1, (hb.cell (p := ⟨g2, o2 + j * 3 + 1, none⟩) hg2).trans n2, (hb.cell (p := ⟨g2, o2 + j * 3 + 2, none⟩) hg2).trans n3⟩
      have HR : Hid (∀ w', Below w.heap.size w w' → RInts w' (.slice pa z.length pc) z ∧ RInts w' (.slice pb z.length pd) z) := fun w' hb => ⟨hr1.below hb (Nat.le_refl _), hr2.below hb (Nat.le_refl _)⟩
      have HPL : Hid (z.length ≤ 1000000000) := Nat.le_trans hpl (by decide)
      clear hx m1 m2 m3 n1 n2 n3 hr1 hr2 hpl
      obtain ⟨r1, r2, r3, r4, r5, r6⟩ := HS.out _ hb
      have j0 : (0 : Int) ≤ (j : Int) := by omega
      have j1 : (j : Int) < (l.length : Int) := by omega
      have hsz := hb.size
      have HBB := hide hb
      clear hb
      go_wp2_with fail
      go_region_held3 (fun w' => w'.cell? ⟨g1, o1 + j * 3, none⟩ = some (.int .i64 y) ∧ w'.cell? ⟨g1, o1 + j * 3 + 1, none⟩ = some (.int .i64 s) ∧ w'.cell? ⟨g1, o1 + j * 3 + 2, none⟩ = some (.slice pa z.length pc) ∧ w'.cell? ⟨g2, o2 + j * 3, none⟩ = some (.int .i64 y) ∧ w'.cell? ⟨g2, o2 + j * 3 + 1, none⟩ = some (.int .i64 s) ∧ w'.cell? ⟨g2, o2 + j * 3 + 2, none⟩ = some (.slice pb z.length pd)) (first | exact HS.out _ HBB.out.drew | exact HS.out _ (HBB.out.trans ((of_drew B6).mono hsz))) ((go_at_call 76; refine (eqN_sameI _ _ _ _ z _ (HR.out _ HBB.out.drew).1 (HR.out _ HBB.out.drew).2 HPL.out).mono ?_; rintro e w6 ⟨rfl, B6⟩))
      have HB2 := hide (HBB.out.trans ((of_drew B6).mono hsz))
      clear B6
      go_wp2
      go_roundw
      case rel => exact ⟨j + 1, by omega, by go_num, HB2.out⟩
      case measure => simp [intOf]; omega
    · have HBB := hide hb
      clear hb
      go_wp2
      go_ret
      exact ⟨rfl, HBB.out⟩
set_option maxRecDepth 100000 in
set_option maxHeartbeats 1600000 in
theorem eqBlkS_same (va vb : Value) (l : List Blk) (w : World) (ha : R3 KB w va l) (hb : R3 KB w vb l) (hl : l.length ≤ 1048576) (hp : ∀ (j : Nat) (h : j < l.length), l[j].2.1.length ≤ 1048576) :
    Calls Tryz.prog 54 #[va, vb] w fun e w' => e = .returned (.bool true) ∧ Below w.heap.size w w' := by
  obtain ⟨a1, c1, rfl, -, ha'⟩ := ha.blk
  obtain ⟨a2, c2, rfl, -, hb'⟩ := hb.blk
  have HA := hide ha'
  have HB := hide hb'
  have HP := hide hp
  clear ha hb hp ha' hb'
  go_enter Tryz.func54, Tryz.ntmps54
  go_wp2
  go_loopw [5] (fun i wr => ∃ j : Nat, j ≤ l.length ∧ i = .int .i64 j ∧ Below w.heap.size w wr) (fun i _ => l.length - (intOf i).toNat)
  case atStart => exact ⟨0, Nat.zero_le _, rfl, Below.refl _ _⟩
  case round =>
    obtain ⟨j, hj, rfl, hb⟩ := hrel
    by_cases hlt : j < l.length
    · obtain ⟨g1, o1, p1, rfl, hg1, m1, m2, m3, hr1⟩ := HA.out j hlt
      obtain ⟨g2, o2, p2, rfl, hg2, n1, n2, n3, hr2⟩ := HB.out j hlt
      have hpl := HP.out j hlt
      obtain ⟨x, hx⟩ : ∃ x, l[j] = x := ⟨_, rfl⟩
      obtain ⟨y, s, z⟩ := x
      rw [hx] at m1 m3 n1 n3 hr1 hr2 hpl
      obtain ⟨pa, pc, rfl⟩ := hr1.form
      obtain ⟨pb, pd, rfl⟩ := hr2.form
      simp only at m1 m2 m3 n1 n2 n3 hr1 hr2 hpl
      have HS : Hid (∀ w', Below w.heap.size w w' → w'.cell? ⟨g1, o1 + j * 3, none⟩ = some (.bool y) ∧ w'.cell? ⟨g1, o1 + j * 3 + 1, none⟩ = some (.slice pa s.length pc) ∧ w'.cell? ⟨g1, o1 + j * 3 + 2, none⟩ = some (.string z) ∧ w'.cell? ⟨g2, o2 + j * 3, none⟩ = some (.bool y) ∧ w'.cell? ⟨g2, o2 + j * 3 + 1, none⟩ = some (.slice pb s.length pd) ∧ w'.cell? ⟨g2, o2 + j * 3 + 2, none⟩ = some (.string z)) := fun w' hb =>
        ⟨(hb.cell (p := ⟨g1, o1 + j * 3, none⟩) hg1).trans m1, (hb.cell (p := ⟨g1, o1 + j * 3 + 1, none⟩) hg1).trans m2, (hb.cell (p := ⟨g1, o1 + j * 3 + 2, none⟩) hg1).trans m3, (hb.cell (p := ⟨g2, o2 + j * 3, none⟩) hg2).trans n1, (hb.cell (p := ⟨g2, o2 + j * 3 + 1, none⟩) hg2).trans n2, (hb.cell (p := ⟨g2, o2 + j * 3 + 2, none⟩) hg2).trans n3⟩
      have HR : Hid (∀ w', Below w.heap.size w w' → RSl w' (.slice pa s.length pc) s ∧ RSl w' (.slice pb s.length pd) s) := fun w' hb => ⟨hr1.below hb (Nat.le_refl _), hr2.below hb (Nat.le_refl _)⟩
      have HPL := hide hpl
      clear hx m1 m2 m3 n1 n2 n3 hr1 hr2 hpl
      obtain ⟨r1, r2, r3, r4, r5, r6⟩ := HS.out _ hb
      have j0 : (0 : Int) ≤ (j : Int) := by omega
      have j1 : (j : Int) < (l.length : Int) := by omega
      have hsz := hb.size
      have HBB := hide hb
      clear hb
      go_wp2_with fail
      go_region_held3 (fun w' => w'.cell? ⟨g1, o1 + j * 3, none⟩ = some (.bool y) ∧ w'.cell? ⟨g1, o1 + j * 3 + 1, none⟩ = some (.slice pa s.length pc) ∧ w'.cell? ⟨g1, o1 + j * 3 + 2, none⟩ = some (.string z) ∧ w'.cell? ⟨g2, o2 + j * 3, none⟩ = some (.bool y) ∧ w'.cell? ⟨g2, o2 + j * 3 + 1, none⟩ = some (.slice pb s.length pd) ∧ w'.cell? ⟨g2, o2 + j * 3 + 2, none⟩ = some (.string z)) (first | exact HS.out _ HBB.out.drew | exact HS.out _ (HBB.out.trans ((of_drew B6).mono hsz))) ((go_at_call 77; refine (eqB_sameK _ _ _ _ s _ (HR.out _ HBB.out.drew).1 (HR.out _ HBB.out.drew).2 HPL.out).mono ?_; rintro e w6 ⟨rfl, B6⟩))
      have HB2 := hide (HBB.out.trans ((of_drew B6).mono hsz))
      clear B6
      go_wp2
      go_roundw
      case rel => exact ⟨j + 1, by omega, by go_num, HB2.out⟩
      case measure => simp [intOf]; omega
    · have HBB := hide hb
      clear hb
      go_wp2
      go_ret
      exact ⟨rfl, HBB.out⟩
set_option maxRecDepth 100000 in
set_option maxHeartbeats 1600000 in
theorem eqDisk_same (u v iv bv u' v' i' b' : Value) (xs ys : List Bool) (is : List Ino) (bs : List Blk) (w : World) (h : DR w u v iv bv xs ys is bs) (h' : DR w u' v' i' b' xs ys is bs) (hB : Big 1048576 xs ys is bs) :
    Calls Tryz.prog 30 #[.agg #[u, v, iv, bv], .agg #[u', v', i', b']] w fun e w' => e = .returned (.bool true) ∧ Below w.heap.size w w' := by
  have H := hide h
  have H' := hide h'
  have HG := hide hB
  obtain ⟨a1, c1, a2, c2, a3, c3, a4, c4, rfl, rfl, rfl, rfl⟩ := h.form
  obtain ⟨d1, k1, d2, k2, d3, k3, d4, k4, rfl, rfl, rfl, rfl⟩ := h'.form
  clear h hB h'
  go_enter Tryz.func30, Tryz.ntmps30
  go_wp2_with fail
  refine (eqN_sameB _ _ _ _ xs ys _ ((H.out.a.alloc _).alloc _) ((H.out.b.alloc _).alloc _) ((H'.out.a.alloc _).alloc _) ((H'.out.b.alloc _).alloc _) (Nat.le_trans HG.out.x (by decide)) (Nat.le_trans HG.out.y (by decide))).mono ?_
  rintro e w1 ⟨rfl, B1⟩
  have BW : Below w.heap.size w w1 := (((Below.refl _ w).alloc (Nat.le_refl _) _).alloc (by simp) _).trans (B1.mono (by simp; omega))
  have K0 : AtC w1 w.heap.size 41 #[.slice a1 xs.length c1, .slice a2 ys.length c2, .slice a3 is.length c3, .slice a4 bs.length c4] := ((AtC.new w 41 _).alloc _).over B1
  have K1 : AtC w1 (w.heap.size + 1) 41 #[.slice d1 xs.length k1, .slice d2 ys.length k2, .slice d3 is.length k3, .slice d4 bs.length k4] := by
    have := (AtC.new (w.alloc (Obj.cells #[.slice a1 xs.length c1, .slice a2 ys.length c2, .slice a3 is.length c3, .slice a4 bs.length c4] 41)) 41 #[.slice d1 xs.length k1, .slice d2 ys.length k2, .slice d3 is.length k3, .slice d4 bs.length k4]).over B1
    simpa using this
  have p2 : w1.cell? ⟨w.heap.size, 2, none⟩ = some (.slice a3 is.length c3) := K0.cell 2
  have q2 : w1.cell? ⟨w.heap.size + 1, 2, none⟩ = some (.slice d3 is.length k3) := K1.cell 2
  have HBW := hide BW
  have HK0 := hide K0
  have HK1 := hide K1
  clear B1 BW K0 K1
  go_wp2_with fail
  refine (eqInoS_same _ _ is _ (H.out.i.below HBW.out (Nat.le_refl _)) (H'.out.i.below HBW.out (Nat.le_refl _)) HG.out.i HG.out.p).mono ?_
  rintro e w2 ⟨rfl, B2⟩
  have BW2 := HBW.out.trans (B2.mono HBW.out.size)
  have K0 := HK0.out.over B2
  have K1 := HK1.out.over B2
  have p3 : w2.cell? ⟨w.heap.size, 3, none⟩ = some (.slice a4 bs.length c4) := K0.cell 3
  have q3 : w2.cell? ⟨w.heap.size + 1, 3, none⟩ = some (.slice d4 bs.length k4) := K1.cell 3
  have HBW2 := hide BW2
  clear B2 BW2 K0 K1 HBW
  go_wp2_with fail
  refine (eqBlkS_same _ _ bs _ (H.out.k.below HBW2.out (Nat.le_refl _)) (H'.out.k.below HBW2.out (Nat.le_refl _)) HG.out.b (fun j hj => (HG.out.s j hj).1)).mono ?_
  rintro e w3 ⟨rfl, B3⟩
  have HBW3 := hide (HBW2.out.trans (B3.mono HBW2.out.size))
  clear B3
  go_wp2
  go_ret
  exact ⟨rfl, HBW3.out⟩
end Go.Proofs.YtaoachljojbnjaaGreat
/- laws.eqDep, laws.eqDepS and laws.eqMem of the same parts, by their contracts. -/
namespace Go.Proofs.YtaoachljojbnjaaGreat
open Go.RowKit Kit
set_option maxRecDepth 100000 in
set_option maxHeartbeats 1600000 in
theorem eqDep_same (id kd io pt bk sl : Int) (nm : ByteArray) (bt ot : Bool) (af : Int) (bl : List Int) (p q : Value) (w : World) (h1 : RInts w p bl) (h2 : RInts w q bl) (hl : bl.length ≤ 1000000000) :
    Calls Tryz.prog 11 #[.agg #[.int .i64 id, .int .i64 kd, .int .i64 io, .int .i64 pt, .int .i64 bk, .int .i64 sl, .string nm, .bool bt, .bool ot, .int .i64 af, p], .agg #[.int .i64 id, .int .i64 kd, .int .i64 io, .int .i64 pt, .int .i64 bk, .int .i64 sl, .string nm, .bool bt, .bool ot, .int .i64 af, q]] w fun e w' => e = .returned (.bool true) ∧ Below w.heap.size w w' := by
  have H1 := hide h1
  have H2 := hide h2
  obtain ⟨pa, pc, rfl⟩ := h1.form
  obtain ⟨pb, pd, rfl⟩ := h2.form
  clear h1 h2
  go_enter Tryz.func11, Tryz.ntmps11
  go_wp2_with fail
  refine (eqI_same _ _ bl _ ((H1.out.alloc _).alloc _) ((H2.out.alloc _).alloc _) hl).mono ?_
  rintro e w1 ⟨rfl, B1⟩
  have HB : Hid (Below w.heap.size w w1) := (((Below.refl _ w).alloc (Nat.le_refl _) _).alloc (by simp) _).trans (B1.mono (by simp; omega))
  clear B1
  go_wp2
  go_ret
  exact ⟨rfl, HB.out⟩
set_option maxRecDepth 100000 in
set_option maxHeartbeats 3200000 in
theorem eqDepS_same (va vb : Value) (l : List Dp) (w : World) (ha : RN KDep w va l) (hb : RN KDep w vb l) (hl : l.length ≤ 1048576) (hp : ∀ (j : Nat) (h : j < l.length), l[j].bl.length ≤ 1048576) :
    Calls Tryz.prog 32 #[va, vb] w fun e w' => e = .returned (.bool true) ∧ Below w.heap.size w w' := by
  obtain ⟨a1, c1, rfl, -, ha'⟩ := ha.dep
  obtain ⟨a2, c2, rfl, -, hb'⟩ := hb.dep
  have HA := hide ha'
  have HB := hide hb'
  have HP := hide hp
  clear ha hb hp ha' hb'
  go_enter Tryz.func32, Tryz.ntmps32
  go_wp2
  go_loopw [5] (fun i wr => ∃ j : Nat, j ≤ l.length ∧ i = .int .i64 j ∧ Below w.heap.size w wr) (fun i _ => l.length - (intOf i).toNat)
  case atStart => exact ⟨0, Nat.zero_le _, rfl, Below.refl _ _⟩
  case round =>
    obtain ⟨j, hj, rfl, hb⟩ := hrel
    by_cases hlt : j < l.length
    · obtain ⟨g1, o1, p1, rfl, hg1, m1, hr1⟩ := HA.out j hlt
      obtain ⟨g2, o2, p2, rfl, hg2, m2, hr2⟩ := HB.out j hlt
      have hpl := HP.out j hlt
      obtain ⟨x, hx⟩ : ∃ x, l[j] = x := ⟨_, rfl⟩
      obtain ⟨id, kd, io, pt, bk, sl, nm, bt, ot, af, bl⟩ := x
      rw [hx] at m1 m2 hr1 hr2 hpl
      simp only at hr1 hr2 hpl
      obtain ⟨pa, pc, rfl⟩ := hr1.form
      obtain ⟨pb, pd, rfl⟩ := hr2.form
      have HS : Hid (∀ w', Below w.heap.size w w' → w'.cell? ⟨g1, o1 + j * 11, none⟩ = some (.int .i64 id) ∧ w'.cell? ⟨g1, o1 + j * 11 + 1, none⟩ = some (.int .i64 kd) ∧ w'.cell? ⟨g1, o1 + j * 11 + 2, none⟩ = some (.int .i64 io) ∧ w'.cell? ⟨g1, o1 + j * 11 + 3, none⟩ = some (.int .i64 pt) ∧ w'.cell? ⟨g1, o1 + j * 11 + 4, none⟩ = some (.int .i64 bk) ∧ w'.cell? ⟨g1, o1 + j * 11 + 5, none⟩ = some (.int .i64 sl) ∧ w'.cell? ⟨g1, o1 + j * 11 + 6, none⟩ = some (.string nm) ∧ w'.cell? ⟨g1, o1 + j * 11 + 7, none⟩ = some (.bool bt) ∧ w'.cell? ⟨g1, o1 + j * 11 + 8, none⟩ = some (.bool ot) ∧ w'.cell? ⟨g1, o1 + j * 11 + 9, none⟩ = some (.int .i64 af) ∧ w'.cell? ⟨g1, o1 + j * 11 + 10, none⟩ = some (.slice pa bl.length pc) ∧ w'.cell? ⟨g2, o2 + j * 11, none⟩ = some (.int .i64 id) ∧ w'.cell? ⟨g2, o2 + j * 11 + 1, none⟩ = some (.int .i64 kd) ∧ w'.cell? ⟨g2, o2 + j * 11 + 2, none⟩ = some (.int .i64 io) ∧ w'.cell? ⟨g2, o2 + j * 11 + 3, none⟩ = some (.int .i64 pt) ∧ w'.cell? ⟨g2, o2 + j * 11 + 4, none⟩ = some (.int .i64 bk) ∧ w'.cell? ⟨g2, o2 + j * 11 + 5, none⟩ = some (.int .i64 sl) ∧ w'.cell? ⟨g2, o2 + j * 11 + 6, none⟩ = some (.string nm) ∧ w'.cell? ⟨g2, o2 + j * 11 + 7, none⟩ = some (.bool bt) ∧ w'.cell? ⟨g2, o2 + j * 11 + 8, none⟩ = some (.bool ot) ∧ w'.cell? ⟨g2, o2 + j * 11 + 9, none⟩ = some (.int .i64 af) ∧ w'.cell? ⟨g2, o2 + j * 11 + 10, none⟩ = some (.slice pb bl.length pd)) := fun w' hb => by
        have n1 := m1.below hb hg1
        have n2 := m2.below hb hg2
        simp only [DCells] at n1 n2
        exact ⟨n1.1, n1.2.1, n1.2.2.1, n1.2.2.2.1, n1.2.2.2.2.1, n1.2.2.2.2.2.1, n1.2.2.2.2.2.2.1, n1.2.2.2.2.2.2.2.1, n1.2.2.2.2.2.2.2.2.1, n1.2.2.2.2.2.2.2.2.2.1, n1.2.2.2.2.2.2.2.2.2.2, n2.1, n2.2.1, n2.2.2.1, n2.2.2.2.1, n2.2.2.2.2.1, n2.2.2.2.2.2.1, n2.2.2.2.2.2.2.1, n2.2.2.2.2.2.2.2.1, n2.2.2.2.2.2.2.2.2.1, n2.2.2.2.2.2.2.2.2.2.1, n2.2.2.2.2.2.2.2.2.2.2⟩
      have HR : Hid (∀ w', Below w.heap.size w w' → RInts w' (.slice pa bl.length pc) bl ∧ RInts w' (.slice pb bl.length pd) bl) := fun w' hb => ⟨hr1.below hb (Nat.le_refl _), hr2.below hb (Nat.le_refl _)⟩
      have HPL : Hid (bl.length ≤ 1000000000) := Nat.le_trans hpl (by decide)
      clear hx m1 m2 hr1 hr2 hpl
      have hh := HS.out _ hb
      obtain ⟨r0, r1, r2, r3, r4, r5, r6, r7, r8, r9, r10, r11, r12, r13, r14, r15, r16, r17, r18, r19, r20, r21⟩ := hh
      have j0 : (0 : Int) ≤ (j : Int) := by omega
      have j1 : (j : Int) < (l.length : Int) := by omega
      have hsz := hb.size
      have HBB := hide hb
      clear hb
      go_wp2_with fail
      go_region_held3 (fun w' => w'.cell? ⟨g1, o1 + j * 11, none⟩ = some (.int .i64 id) ∧ w'.cell? ⟨g1, o1 + j * 11 + 1, none⟩ = some (.int .i64 kd) ∧ w'.cell? ⟨g1, o1 + j * 11 + 2, none⟩ = some (.int .i64 io) ∧ w'.cell? ⟨g1, o1 + j * 11 + 3, none⟩ = some (.int .i64 pt) ∧ w'.cell? ⟨g1, o1 + j * 11 + 4, none⟩ = some (.int .i64 bk) ∧ w'.cell? ⟨g1, o1 + j * 11 + 5, none⟩ = some (.int .i64 sl) ∧ w'.cell? ⟨g1, o1 + j * 11 + 6, none⟩ = some (.string nm) ∧ w'.cell? ⟨g1, o1 + j * 11 + 7, none⟩ = some (.bool bt) ∧ w'.cell? ⟨g1, o1 + j * 11 + 8, none⟩ = some (.bool ot) ∧ w'.cell? ⟨g1, o1 + j * 11 + 9, none⟩ = some (.int .i64 af) ∧ w'.cell? ⟨g1, o1 + j * 11 + 10, none⟩ = some (.slice pa bl.length pc) ∧ w'.cell? ⟨g2, o2 + j * 11, none⟩ = some (.int .i64 id) ∧ w'.cell? ⟨g2, o2 + j * 11 + 1, none⟩ = some (.int .i64 kd) ∧ w'.cell? ⟨g2, o2 + j * 11 + 2, none⟩ = some (.int .i64 io) ∧ w'.cell? ⟨g2, o2 + j * 11 + 3, none⟩ = some (.int .i64 pt) ∧ w'.cell? ⟨g2, o2 + j * 11 + 4, none⟩ = some (.int .i64 bk) ∧ w'.cell? ⟨g2, o2 + j * 11 + 5, none⟩ = some (.int .i64 sl) ∧ w'.cell? ⟨g2, o2 + j * 11 + 6, none⟩ = some (.string nm) ∧ w'.cell? ⟨g2, o2 + j * 11 + 7, none⟩ = some (.bool bt) ∧ w'.cell? ⟨g2, o2 + j * 11 + 8, none⟩ = some (.bool ot) ∧ w'.cell? ⟨g2, o2 + j * 11 + 9, none⟩ = some (.int .i64 af) ∧ w'.cell? ⟨g2, o2 + j * 11 + 10, none⟩ = some (.slice pb bl.length pd)) (first | exact HS.out _ HBB.out.drew | exact HS.out _ (HBB.out.trans ((of_drew B6).mono hsz))) ((go_at_call 11; refine (eqDep_same id kd io pt bk sl nm bt ot af bl _ _ _ (HR.out _ HBB.out.drew).1 (HR.out _ HBB.out.drew).2 HPL.out).mono ?_; rintro e w6 ⟨rfl, B6⟩))
      have HB2 := hide (HBB.out.trans ((of_drew B6).mono hsz))
      clear B6
      go_wp2
      go_roundw
      case rel => exact ⟨j + 1, by omega, by go_num, HB2.out⟩
      case measure => simp [intOf]; omega
    · have HBB := hide hb
      clear hb
      go_wp2
      go_ret
      exact ⟨rfl, HBB.out⟩
end Go.Proofs.YtaoachljojbnjaaGreat
/- laws.eqMem of the same parts, by its contract. -/
namespace Go.Proofs.YtaoachljojbnjaaGreat
open Go.RowKit Kit
set_option maxRecDepth 100000 in
set_option maxHeartbeats 1600000 in
theorem eqMem_same (u v iv bv dv pv u' v' i' b' d' p' : Value) (m : MD) (w : World) (h : MR w u v iv bv dv pv m) (h' : MR w u' v' i' b' d' p' m) (hB : BigM 1048576 m) :
    Calls Tryz.prog 10 #[.agg #[u, v, iv, bv, dv, pv, .int .i64 m.nx], .agg #[u', v', i', b', d', p', .int .i64 m.nx]] w fun e w' => e = .returned (.bool true) ∧ Below w.heap.size w w' := by
  have H := hide h
  have H' := hide h'
  have HG := hide hB
  obtain ⟨a1, c1, a2, c2, a3, c3, a4, c4, a5, c5, a6, c6, rfl, rfl, rfl, rfl, rfl, rfl⟩ := h.form
  obtain ⟨d1, k1, d2, k2, d3, k3, d4, k4, d5, k5, d6, k6, rfl, rfl, rfl, rfl, rfl, rfl⟩ := h'.form
  clear h hB h'
  go_enter Tryz.func10, Tryz.ntmps10
  go_wp2_with fail
  refine (eqDisk_same _ _ _ _ _ _ _ _ m.xs m.ys m.is m.bs _ ((H.out.d.alloc _).alloc _) ((H'.out.d.alloc _).alloc _) HG.out.d).mono ?_
  rintro e w1 ⟨rfl, B1⟩
  have BW : Below w.heap.size w w1 := (((Below.refl _ w).alloc (Nat.le_refl _) _).alloc (by simp) _).trans (B1.mono (by simp; omega))
  have K0 : AtC w1 w.heap.size 44 #[.slice a1 m.xs.length c1, .slice a2 m.ys.length c2, .slice a3 m.is.length c3, .slice a4 m.bs.length c4, .slice a5 m.fs.length c5, .slice a6 m.ds.length c6, .int .i64 m.nx] := ((AtC.new w 44 _).alloc _).over B1
  have K1 : AtC w1 (w.heap.size + 1) 44 #[.slice d1 m.xs.length k1, .slice d2 m.ys.length k2, .slice d3 m.is.length k3, .slice d4 m.bs.length k4, .slice d5 m.fs.length k5, .slice d6 m.ds.length k6, .int .i64 m.nx] := by
    have := (AtC.new (w.alloc (Obj.cells #[.slice a1 m.xs.length c1, .slice a2 m.ys.length c2, .slice a3 m.is.length c3, .slice a4 m.bs.length c4, .slice a5 m.fs.length c5, .slice a6 m.ds.length c6, .int .i64 m.nx] 44)) 44 #[.slice d1 m.xs.length k1, .slice d2 m.ys.length k2, .slice d3 m.is.length k3, .slice d4 m.bs.length k4, .slice d5 m.fs.length k5, .slice d6 m.ds.length k6, .int .i64 m.nx]).over B1
    simpa using this
  have p2 : w1.cell? ⟨w.heap.size, 4, none⟩ = some (.slice a5 m.fs.length c5) := K0.cell 4
  have q2 : w1.cell? ⟨w.heap.size + 1, 4, none⟩ = some (.slice d5 m.fs.length k5) := K1.cell 4
  have HBW := hide BW
  have HK0 := hide K0
  have HK1 := hide K1
  clear B1 BW K0 K1
  go_wp2_with fail
  refine (eqB_sameB _ _ m.fs _ (H.out.f.below HBW.out (Nat.le_refl _)) (H'.out.f.below HBW.out (Nat.le_refl _)) (Nat.le_trans HG.out.f (by decide))).mono ?_
  rintro e w2 ⟨rfl, B2⟩
  have BW2 := HBW.out.trans (B2.mono HBW.out.size)
  have K0 := HK0.out.over B2
  have K1 := HK1.out.over B2
  have p3 : w2.cell? ⟨w.heap.size, 5, none⟩ = some (.slice a6 m.ds.length c6) := K0.cell 5
  have q3 : w2.cell? ⟨w.heap.size + 1, 5, none⟩ = some (.slice d6 m.ds.length k6) := K1.cell 5
  have HBW2 := hide BW2
  have HL0 := hide K0
  have HL1 := hide K1
  clear B2 BW2 K0 K1 HBW HK0 HK1
  go_wp2_with fail
  refine (eqDepS_same _ _ m.ds _ (H.out.p.below HBW2.out (Nat.le_refl _)) (H'.out.p.below HBW2.out (Nat.le_refl _)) HG.out.l HG.out.b).mono ?_
  rintro e w3 ⟨rfl, B3⟩
  have K0 := HL0.out.over B3
  have K1 := HL1.out.over B3
  have p4 : w3.cell? ⟨w.heap.size, 6, none⟩ = some (.int .i64 m.nx) := K0.cell 6
  have q4 : w3.cell? ⟨w.heap.size + 1, 6, none⟩ = some (.int .i64 m.nx) := K1.cell 6
  have HBW3 := hide (HBW2.out.trans (B3.mono HBW2.out.size))
  clear B3 K0 K1 p2 q2 p3 q3
  go_wp2
  go_ret
  exact ⟨rfl, HBW3.out⟩
end Go.Proofs.YtaoachljojbnjaaGreat
/- laws.toDep, laws.toDepS and laws.toMem by their contracts. -/
namespace Go.Proofs.YtaoachljojbnjaaGreat.Kit
open Go.RowKit
theorem made_n (Z : Row) (hZ : 0 < Z.length) (n : Nat) : (madeCells Z.toArray (n * Z.length)).toList = (List.replicate n Z).flatten := by
  have he : Even Z.length (List.replicate n Z) := fun t ht => by rw [List.eq_of_mem_replicate ht]
  apply List.ext_getElem?
  intro j
  by_cases hj : j < n * Z.length
  · have e : (madeCells Z.toArray (n * Z.length)).toList[j]? = some (Z.toArray[j % Z.length]!) := by simp [madeCells, hj]
    have hq : j / Z.length < n := (Nat.div_lt_iff_lt_mul hZ).2 hj
    have hm := Nat.mod_lt j hZ
    have k := flat_at he (j / Z.length) (j % Z.length) (by simpa using hq) hm
    rw [show j / Z.length * Z.length + j % Z.length = j by rw [Nat.mul_comm]; exact Nat.div_add_mod j Z.length] at k
    rw [e, k, List.getElem_replicate, List.getElem?_eq_getElem hm]
    simp [hm]
  · rw [List.getElem?_eq_none (by simp [madeCells]; omega), List.getElem?_eq_none (by rw [flat_length he]; simp; omega)]
/-- One that leans without anything. -/
def zDp : Dp := ⟨0, 0, 0, 0, 0, 0, ⟨#[]⟩, false, false, 0, []⟩
def zRow : Row := zDp.row (.slice none 0 0)
theorem GN.made (w : World) (n : Nat) (hm : n ≤ maxLen) : GN KDep (w.alloc (.cells (madeCells zRow.toArray (n * 11)) 48)) (fun k => w.heap.size ≤ k) (.slice (some ⟨w.heap.size, 0, none⟩) n n) (List.replicate n zRow) (List.replicate n zDp) := by
  refine ⟨by simp, ?_, fun j hj hj' => ?_, fun i j hi hj _ k e => ?_, fun j hj k e => ?_, fun k e => ?_, fun j hj k e => ?_⟩
  · have := NOwns.of_at (n := 11) (AtC.new w 48 (madeCells zRow.toArray (n * 11))) (made_n zRow (by decide) n) (fun t ht => by rw [List.eq_of_mem_replicate ht]; rfl) (by simpa using hm)
    simp at this
    exact this
  · simp only [List.getElem_replicate]
    exact ⟨_, rfl, ROwns.nil _ _ _⟩
  · simp only [List.getElem_replicate] at e
    cases e
  · simp only [List.getElem_replicate] at e
    cases e
  · simp only [Value.ownBlock, Option.some.injEq] at e
    omega
  · simp only [List.getElem_replicate] at e
    cases e
end Go.Proofs.YtaoachljojbnjaaGreat.Kit
namespace Go.Proofs.YtaoachljojbnjaaGreat
open Go.RowKit Kit
theorem make_dep (n : Nat) (h : n ≤ 1048576) (w : World) : (Instr.makeSlice 42 (.int .i64 (n : Int)) (.int .i64 (n : Int))).run Tryz.prog w = .ok (.slice (some ⟨w.heap.size, 0, none⟩) n n) (w.alloc (.cells (madeCells zRow.toArray (n * 11)) 48)) := by
  obtain ⟨i0, hi, hz0, hz1, hz2⟩ := info_parts Tryz.i48
  rw [run_make w 42 48 i0 _ Tryz.u42 hi hz0 .i64 .i64 n n (by omega) (by omega) (by rw [hz2]; omega) (by omega), hz1]
  rfl
set_option maxRecDepth 100000 in
set_option maxHeartbeats 1600000 in
theorem toDep_any (id kd io pt bk sl : Int) (nm : ByteArray) (bt ot : Bool) (af : Int) (bl : List Int) (p : Value) (w : World) (hv : RInts w p bl) (hl : bl.length ≤ 1048576) :
    Calls Tryz.prog 8 #[.agg #[.int .i64 id, .int .i64 kd, .int .i64 io, .int .i64 pt, .int .i64 bk, .int .i64 sl, .string nm, .bool bt, .bool ot, .int .i64 af, p]] w fun e w' => ∃ u, e = .returned (.agg #[.int .i64 id, .int .i64 kd, .int .i64 io, .int .i64 pt, .int .i64 bk, .int .i64 sl, .string nm, .bool bt, .bool ot, .int .i64 af, u]) ∧ ROwns w' w.heap.size 3 u (ic bl) ∧ Below w.heap.size w w' := by
  have HV := hide hv
  obtain ⟨a, c, rfl⟩ := hv.form
  clear hv
  go_enter Tryz.func8, Tryz.ntmps8
  go_wp2_with fail
  refine (toI_any _ bl _ (((HV.out.alloc _).alloc _).alloc _) hl).mono ?_
  rintro e w1 ⟨u, rfl, O1, B1⟩
  obtain ⟨a1, c1, rfl⟩ := O1.rints.form
  have K0 : AtC w1 (w.heap.size + 1) 48 #[.int .i64 0, .int .i64 0, .int .i64 0, .int .i64 0, .int .i64 0, .int .i64 0, .string ⟨#[]⟩, .bool false, .bool false, .int .i64 0, .slice none 0 0] := by
    have := ((AtC.new (w.alloc (.cells #[.int .i64 id, .int .i64 kd, .int .i64 io, .int .i64 pt, .int .i64 bk, .int .i64 sl, .string nm, .bool bt, .bool ot, .int .i64 af, .slice a bl.length c] 34)) 48 #[.int .i64 0, .int .i64 0, .int .i64 0, .int .i64 0, .int .i64 0, .int .i64 0, .string ⟨#[]⟩, .bool false, .bool false, .int .i64 0, .slice none 0 0]).alloc (.cells #[.int .i64 id, .int .i64 kd, .int .i64 io, .int .i64 pt, .int .i64 bk, .int .i64 sl, .string nm, .bool bt, .bool ot, .int .i64 af, .slice none 0 0] 48)).over B1
    simpa using this
  have K1 : AtC w1 (w.heap.size + 1 + 1) 48 #[.int .i64 id, .int .i64 kd, .int .i64 io, .int .i64 pt, .int .i64 bk, .int .i64 sl, .string nm, .bool bt, .bool ot, .int .i64 af, .slice none 0 0] := by
    have := (AtC.new ((w.alloc (.cells #[.int .i64 id, .int .i64 kd, .int .i64 io, .int .i64 pt, .int .i64 bk, .int .i64 sl, .string nm, .bool bt, .bool ot, .int .i64 af, .slice a bl.length c] 34)).alloc (.cells #[.int .i64 0, .int .i64 0, .int .i64 0, .int .i64 0, .int .i64 0, .int .i64 0, .string ⟨#[]⟩, .bool false, .bool false, .int .i64 0, .slice none 0 0] 48)) 48 #[.int .i64 id, .int .i64 kd, .int .i64 io, .int .i64 pt, .int .i64 bk, .int .i64 sl, .string nm, .bool bt, .bool ot, .int .i64 af, .slice none 0 0]).over B1
    simpa using this
  have B2 : Below w.heap.size w w1 := ((((Below.refl _ w).alloc (Nat.le_refl _) _).alloc (by simp) _).alloc (by simp; omega) _).trans (B1.mono (by simp; omega))
  have O2 : ROwns w1 (w.heap.size + 1 + 1 + 1) 3 (.slice a1 bl.length c1) (ic bl) := O1.base_le (by simp)
  have q0 : w1.cell? ⟨w.heap.size + 1, 0, none⟩ = some (.int .i64 0) := K0.cell 0
  have q1 : w1.cell? ⟨w.heap.size + 1, 1, none⟩ = some (.int .i64 0) := K0.cell 1
  have q2 : w1.cell? ⟨w.heap.size + 1, 2, none⟩ = some (.int .i64 0) := K0.cell 2
  have q3 : w1.cell? ⟨w.heap.size + 1, 3, none⟩ = some (.int .i64 0) := K0.cell 3
  have q4 : w1.cell? ⟨w.heap.size + 1, 4, none⟩ = some (.int .i64 0) := K0.cell 4
  have q5 : w1.cell? ⟨w.heap.size + 1, 5, none⟩ = some (.int .i64 0) := K0.cell 5
  have q6 : w1.cell? ⟨w.heap.size + 1, 6, none⟩ = some (.string ⟨#[]⟩) := K0.cell 6
  have q7 : w1.cell? ⟨w.heap.size + 1, 7, none⟩ = some (.bool false) := K0.cell 7
  have q8 : w1.cell? ⟨w.heap.size + 1, 8, none⟩ = some (.bool false) := K0.cell 8
  have q9 : w1.cell? ⟨w.heap.size + 1, 9, none⟩ = some (.int .i64 0) := K0.cell 9
  have q10 : w1.cell? ⟨w.heap.size + 1, 10, none⟩ = some (.slice none 0 0) := K0.cell 10
  have z0 := K0.frozen 0
  have z1 := K0.frozen 1
  have z2 := K0.frozen 2
  have z3 := K0.frozen 3
  have z4 := K0.frozen 4
  have z5 := K0.frozen 5
  have z6 := K0.frozen 6
  have z7 := K0.frozen 7
  have z8 := K0.frozen 8
  have z9 := K0.frozen 9
  have z10 := K0.frozen 10
  have d0 : w1.cell? ⟨w.heap.size + 1 + 1, 0, none⟩ = some (.int .i64 id) := K1.cell 0
  have d1 : w1.cell? ⟨w.heap.size + 1 + 1, 1, none⟩ = some (.int .i64 kd) := K1.cell 1
  have d2 : w1.cell? ⟨w.heap.size + 1 + 1, 2, none⟩ = some (.int .i64 io) := K1.cell 2
  have d3 : w1.cell? ⟨w.heap.size + 1 + 1, 3, none⟩ = some (.int .i64 pt) := K1.cell 3
  have d4 : w1.cell? ⟨w.heap.size + 1 + 1, 4, none⟩ = some (.int .i64 bk) := K1.cell 4
  have d5 : w1.cell? ⟨w.heap.size + 1 + 1, 5, none⟩ = some (.int .i64 sl) := K1.cell 5
  have d6 : w1.cell? ⟨w.heap.size + 1 + 1, 6, none⟩ = some (.string nm) := K1.cell 6
  have d7 : w1.cell? ⟨w.heap.size + 1 + 1, 7, none⟩ = some (.bool bt) := K1.cell 7
  have d8 : w1.cell? ⟨w.heap.size + 1 + 1, 8, none⟩ = some (.bool ot) := K1.cell 8
  have d9 : w1.cell? ⟨w.heap.size + 1 + 1, 9, none⟩ = some (.int .i64 af) := K1.cell 9
  have d10 : w1.cell? ⟨w.heap.size + 1 + 1, 10, none⟩ = some (.slice none 0 0) := K1.cell 10
  have y10 := K1.frozen 10
  have HO := hide O2
  have HB := hide B2
  clear O1 O2 B1 B2 K0 K1
  go_wp2
  refine bodyPost_ret (v := .agg #[.int .i64 id, .int .i64 kd, .int .i64 io, .int .i64 pt, .int .i64 bk, .int .i64 sl, .string nm, .bool bt, .bool ot, .int .i64 af, .slice a1 bl.length c1]) (by simp [results, go_sem, q0, q1, q2, q3, q4, q5, q6, q7, q8, q9, q10]) rfl ⟨_, rfl, ?_, ?_⟩
  · exact ((((((((((((HO.out.setCell_other (by omega) _).setCell_other (by omega) _).setCell_other (by omega) _).setCell_other (by omega) _).setCell_other (by omega) _).setCell_other (by omega) _).setCell_other (by omega) _).setCell_other (by omega) _).setCell_other (by omega) _).setCell_other (by omega) _).setCell_other (by omega) _).setCell_other (by omega) _).base_le (by omega)
  · exact ((((((((((((HB.out.setCell (by simp; omega) _).setCell (by simp) _).setCell (by simp) _).setCell (by simp) _).setCell (by simp) _).setCell (by simp) _).setCell (by simp) _).setCell (by simp) _).setCell (by simp) _).setCell (by simp) _).setCell (by simp) _).setCell (by simp) _)
set_option maxRecDepth 100000 in
set_option maxHeartbeats 3200000 in
theorem toDepS_any (v : Value) (xs : List Dp) (w : World) (hv : RN KDep w v xs) (hl : xs.length ≤ 1048576) (hp : ∀ (j : Nat) (h : j < xs.length), xs[j].bl.length ≤ 1048576) :
    Calls Tryz.prog 23 #[v] w fun e w' => ∃ u ts, e = .returned u ∧ GN KDep w' (fun k => w.heap.size ≤ k) u ts xs ∧ Below w.heap.size w w' := by
  obtain ⟨a, c, rfl, -, hc⟩ := hv.dep
  have HC := hide hc
  have HP := hide hp
  clear hc hv hp
  have mk := make_dep xs.length hl
  go_enter Tryz.func23, Tryz.ntmps23
  go_wp2
  go_loopw [4] (fun i wr => ∃ (j : Nat) (ts : List Row), j ≤ xs.length ∧ i = .int .i64 j ∧ GN KDep wr (fun k => w.heap.size ≤ k) (.slice (some ⟨w.heap.size, 0, none⟩) xs.length xs.length) ts (cpy zDp j xs) ∧ Below w.heap.size w wr) (fun i _ => xs.length - (intOf i).toNat)
  case atStart =>
    refine ⟨0, List.replicate xs.length zRow, Nat.zero_le _, rfl, ?_, (Below.refl _ w).alloc (Nat.le_refl _) _⟩
    rw [cpy_zero]
    exact GN.made w xs.length (by unfold maxLen; omega)
  case round =>
    obtain ⟨j, ts, hj, rfl, hown, hb⟩ := hrel
    by_cases hlt : j < xs.length
    · obtain ⟨g, off, p, rfl, hg, m, hp⟩ := HC.out j hlt
      have hpl := HP.out j hlt
      have hcs := cpy_set zDp j xs hlt
      obtain ⟨X, hX⟩ : ∃ X, xs[j] = X := ⟨_, rfl⟩
      rw [hX] at m hp hpl hcs
      obtain ⟨id, kd, io, pt, bk, sl, nm, bt, ot, af, bl⟩ := X
      simp only at hp hpl
      obtain ⟨pa, pc, rfl⟩ := hp.form
      simp only [DCells] at m
      obtain ⟨m0, m1, m2, m3, m4, m5, m6, m7, m8, m9, m10⟩ := m
      have q0 : wr.cell? ⟨g, off + j * 11, none⟩ = some (.int .i64 id) := (hb.cell (p := ⟨g, off + j * 11, none⟩) hg).trans m0
      have q1 : wr.cell? ⟨g, off + j * 11 + 1, none⟩ = some (.int .i64 kd) := (hb.cell (p := ⟨g, off + j * 11 + 1, none⟩) hg).trans m1
      have q2 : wr.cell? ⟨g, off + j * 11 + 2, none⟩ = some (.int .i64 io) := (hb.cell (p := ⟨g, off + j * 11 + 2, none⟩) hg).trans m2
      have q3 : wr.cell? ⟨g, off + j * 11 + 3, none⟩ = some (.int .i64 pt) := (hb.cell (p := ⟨g, off + j * 11 + 3, none⟩) hg).trans m3
      have q4 : wr.cell? ⟨g, off + j * 11 + 4, none⟩ = some (.int .i64 bk) := (hb.cell (p := ⟨g, off + j * 11 + 4, none⟩) hg).trans m4
      have q5 : wr.cell? ⟨g, off + j * 11 + 5, none⟩ = some (.int .i64 sl) := (hb.cell (p := ⟨g, off + j * 11 + 5, none⟩) hg).trans m5
      have q6 : wr.cell? ⟨g, off + j * 11 + 6, none⟩ = some (.string nm) := (hb.cell (p := ⟨g, off + j * 11 + 6, none⟩) hg).trans m6
      have q7 : wr.cell? ⟨g, off + j * 11 + 7, none⟩ = some (.bool bt) := (hb.cell (p := ⟨g, off + j * 11 + 7, none⟩) hg).trans m7
      have q8 : wr.cell? ⟨g, off + j * 11 + 8, none⟩ = some (.bool ot) := (hb.cell (p := ⟨g, off + j * 11 + 8, none⟩) hg).trans m8
      have q9 : wr.cell? ⟨g, off + j * 11 + 9, none⟩ = some (.int .i64 af) := (hb.cell (p := ⟨g, off + j * 11 + 9, none⟩) hg).trans m9
      have q10 : wr.cell? ⟨g, off + j * 11 + 10, none⟩ = some (.slice pa bl.length pc) := (hb.cell (p := ⟨g, off + j * 11 + 10, none⟩) hg).trans m10
      have hp2 := hp.below hb (Nat.le_refl _)
      have hjt : j < ts.length := by rw [hown.len, cpy_length _ _ _ hj]; exact hlt
      obtain ⟨pp, hrow, -⟩ := hown.inn j hjt (by rw [cpy_length _ _ _ hj]; exact hlt)
      obtain ⟨d0, fz⟩ := hown.row.deps j hjt hrow rfl
      have k5 : w.heap.size < wr.heap.size := hown.row.lt _ rfl
      obtain ⟨Y, hY⟩ : ∃ Y, (cpy zDp j xs)[j]'(by rw [cpy_length _ _ _ hj]; exact hlt) = Y := ⟨_, rfl⟩
      rw [hY] at d0
      have HK : Hid (∀ w1, Below wr.heap.size wr w1 → DCells w1 w.heap.size (j * 11) Y pp ∧ (∀ i, w1.frozen? ⟨w.heap.size, i, none⟩ = false)) := fun w1 b => ⟨d0.below b k5, fun i => (b.frozen (p := ⟨w.heap.size, i, none⟩) k5).trans (fz i)⟩
      have HQ := hide (And.intro hjt hpl)
      have HPT := hide hp2
      have HOWN := hide hown
      have HB := hide hb
      have HCS := hide hcs
      have hsz := hb.size
      have hgw : ¬ g = w.heap.size := by omega
      have j0 : (0 : Int) ≤ (j : Int) := by omega
      have j1 : (j : Int) < (xs.length : Int) := by omega
      have HF : Hid (∀ (ua : Option Addr) (uc : Nat) (w1 : World), ROwns w1 wr.heap.size 3 (.slice ua bl.length uc) (ic bl) → Below wr.heap.size wr w1 → (∃ ts, GN KDep (((((((((((w1.setCell ⟨w.heap.size, j * 11, none⟩ (.int .i64 id)).setCell ⟨w.heap.size, j * 11 + 1, none⟩ (.int .i64 kd)).setCell ⟨w.heap.size, j * 11 + 2, none⟩ (.int .i64 io)).setCell ⟨w.heap.size, j * 11 + 3, none⟩ (.int .i64 pt)).setCell ⟨w.heap.size, j * 11 + 4, none⟩ (.int .i64 bk)).setCell ⟨w.heap.size, j * 11 + 5, none⟩ (.int .i64 sl)).setCell ⟨w.heap.size, j * 11 + 6, none⟩ (.string nm)).setCell ⟨w.heap.size, j * 11 + 7, none⟩ (.bool bt)).setCell ⟨w.heap.size, j * 11 + 8, none⟩ (.bool ot)).setCell ⟨w.heap.size, j * 11 + 9, none⟩ (.int .i64 af)).setCell ⟨w.heap.size, j * 11 + 10, none⟩ (.slice ua bl.length uc)) (fun k => w.heap.size ≤ k) (.slice (some ⟨w.heap.size, 0, none⟩) xs.length xs.length) ts (cpy zDp (j + 1) xs)) ∧ Below w.heap.size w (((((((((((w1.setCell ⟨w.heap.size, j * 11, none⟩ (.int .i64 id)).setCell ⟨w.heap.size, j * 11 + 1, none⟩ (.int .i64 kd)).setCell ⟨w.heap.size, j * 11 + 2, none⟩ (.int .i64 io)).setCell ⟨w.heap.size, j * 11 + 3, none⟩ (.int .i64 pt)).setCell ⟨w.heap.size, j * 11 + 4, none⟩ (.int .i64 bk)).setCell ⟨w.heap.size, j * 11 + 5, none⟩ (.int .i64 sl)).setCell ⟨w.heap.size, j * 11 + 6, none⟩ (.string nm)).setCell ⟨w.heap.size, j * 11 + 7, none⟩ (.bool bt)).setCell ⟨w.heap.size, j * 11 + 8, none⟩ (.bool ot)).setCell ⟨w.heap.size, j * 11 + 9, none⟩ (.int .i64 af)).setCell ⟨w.heap.size, j * 11 + 10, none⟩ (.slice ua bl.length uc))) := fun ua uc w1 O1 B1 => by
        have O2 := HOWN.out.put (S' := fun k => w.heap.size ≤ k) rfl j HQ.out.1 (t' := (⟨id, kd, io, pt, bk, sl, nm, bt, ot, af, bl⟩ : Dp).row (.slice ua bl.length uc)) (x' := ⟨id, kd, io, pt, bk, sl, nm, bt, ot, af, bl⟩) B1 ⟨_, rfl, O1.base_le (Nat.zero_le _)⟩ (fun k hk => (O1.lt k hk).1) (fun k hk => hk) (fun k hk => by omega)
        rw [HCS.out] at O2
        exact ⟨⟨_, O2⟩, ((((((((((((HB.out.trans (B1.mono hsz)).setCell (p := ⟨w.heap.size, j * 11, none⟩) (Nat.le_refl _) (.int .i64 id)).setCell (p := ⟨w.heap.size, j * 11 + 1, none⟩) (Nat.le_refl _) (.int .i64 kd)).setCell (p := ⟨w.heap.size, j * 11 + 2, none⟩) (Nat.le_refl _) (.int .i64 io)).setCell (p := ⟨w.heap.size, j * 11 + 3, none⟩) (Nat.le_refl _) (.int .i64 pt)).setCell (p := ⟨w.heap.size, j * 11 + 4, none⟩) (Nat.le_refl _) (.int .i64 bk)).setCell (p := ⟨w.heap.size, j * 11 + 5, none⟩) (Nat.le_refl _) (.int .i64 sl)).setCell (p := ⟨w.heap.size, j * 11 + 6, none⟩) (Nat.le_refl _) (.string nm)).setCell (p := ⟨w.heap.size, j * 11 + 7, none⟩) (Nat.le_refl _) (.bool bt)).setCell (p := ⟨w.heap.size, j * 11 + 8, none⟩) (Nat.le_refl _) (.bool ot)).setCell (p := ⟨w.heap.size, j * 11 + 9, none⟩) (Nat.le_refl _) (.int .i64 af)).setCell (p := ⟨w.heap.size, j * 11 + 10, none⟩) (Nat.le_refl _) (.slice ua bl.length uc))⟩
      clear hown hb hX hp hp2 mk hpl hrow hjt d0 fz hY hcs m0 m1 m2 m3 m4 m5 m6 m7 m8 m9 m10
      go_wp2_with (go_at_call 8; refine (toDep_any id kd io pt bk sl nm bt ot af bl _ _ HPT.out HQ.out.2).mono ?_; rintro e w1 ⟨u, rfl, O1, B1⟩; obtain ⟨ua, uc, rfl⟩ := O1.rints.form; obtain ⟨k1, k2⟩ := HK.out w1 B1; simp only [DCells] at k1; obtain ⟨n0, n1, n2, n3, n4, n5, n6, n7, n8, n9, n10⟩ := k1; have hk0 := k2 (j * 11); have hk1 := k2 (j * 11 + 1); have hk2 := k2 (j * 11 + 2); have hk3 := k2 (j * 11 + 3); have hk4 := k2 (j * 11 + 4); have hk5 := k2 (j * 11 + 5); have hk6 := k2 (j * 11 + 6); have hk7 := k2 (j * 11 + 7); have hk8 := k2 (j * 11 + 8); have hk9 := k2 (j * 11 + 9); have hk10 := k2 (j * 11 + 10); have HO := hide (HF.out ua uc w1 O1 B1); clear O1 B1 k2)
      go_roundw
      case rel =>
        obtain ⟨ts', h1⟩ := HO.out.1
        exact ⟨j + 1, ts', by omega, by go_num, h1, HO.out.2⟩
      case measure => simp [intOf]; omega
    · have hjl : j = xs.length := by omega
      have HR := hide (And.intro hown hb)
      have HJ := hide hjl
      clear hown hb hjl mk
      go_wp2
      go_ret
      exact ⟨_, ts, rfl, by have := HR.out.1; rwa [HJ.out, cpy_all] at this, HR.out.2⟩
end Go.Proofs.YtaoachljojbnjaaGreat
/- laws.toMem by its contract. -/
namespace Go.Proofs.YtaoachljojbnjaaGreat.Kit
open Go.RowKit
/-- A memory out of its parts, made one behind the other. -/
theorem MO.parts {w : World} {A B C : Nat} {u v iv bv dv pv : Value} {m : MD} {ts : List Row} (h1 : DO w (fun k => A ≤ k ∧ k < B) u v iv bv m.xs m.ys m.is m.bs) (h2 : ROwns w B 4 dv (fc m.fs)) (h2' : ∀ k, dv.ownBlock = some k → k < C) (h3 : GN KDep w (fun k => C ≤ k) pv ts m.ds) (hAB : A ≤ B) (hBC : B ≤ C) : MO w (fun k => A ≤ k) u v iv bv dv pv m :=
  ⟨_, fun k => B ≤ k ∧ k < C, _, ts, h1, h2.base_le (Nat.zero_le _), fun k hk => ⟨(h2.lt k hk).1, h2' k hk⟩, h3, fun k hk => ⟨fun e => by omega, fun e => by omega⟩, fun k hk e => by omega, fun k hk => by omega⟩
end Go.Proofs.YtaoachljojbnjaaGreat.Kit
namespace Go.Proofs.YtaoachljojbnjaaGreat
open Go.RowKit Kit
set_option maxRecDepth 100000 in
set_option maxHeartbeats 3200000 in
theorem toMem_any (u v iv bv dv pv : Value) (m : MD) (w : World) (h : MR w u v iv bv dv pv m) (hB : BigM 1048576 m) :
    Calls Tryz.prog 7 #[.agg #[u, v, iv, bv, dv, pv, .int .i64 m.nx]] w fun e w' => ∃ u' v' i' b' d' p', e = .returned (.agg #[u', v', i', b', d', p', .int .i64 m.nx]) ∧ MO w' (fun k => w.heap.size ≤ k) u' v' i' b' d' p' m ∧ Below w.heap.size w w' := by
  have H := hide h
  have HG := hide hB
  obtain ⟨a1, c1, a2, c2, a3, c3, a4, c4, a5, c5, a6, c6, rfl, rfl, rfl, rfl, rfl, rfl⟩ := h.form
  clear h hB
  go_enter Tryz.func7, Tryz.ntmps7
  go_wp2_with fail
  refine (toDisk_any _ _ _ _ m.xs m.ys m.is m.bs _ (((H.out.d.alloc _).alloc _).alloc _) HG.out.d).mono ?_
  rintro e w1 ⟨u1, v1, i1, b1, rfl, O1, B1⟩
  obtain ⟨e1, f1, e2, f2, e3, f3, e4, f4, rfl, rfl, rfl, rfl⟩ := O1.dr.form
  have BW : Below w.heap.size w w1 := ((((Below.refl _ w).alloc (Nat.le_refl _) _).alloc (by simp) _).alloc (by simp; omega) _).trans (B1.mono (by simp; omega))
  have KA : AtC w1 w.heap.size 31 #[.slice a1 m.xs.length c1, .slice a2 m.ys.length c2, .slice a3 m.is.length c3, .slice a4 m.bs.length c4, .slice a5 m.fs.length c5, .slice a6 m.ds.length c6, .int .i64 m.nx] := (((AtC.new w 31 _).alloc _).alloc _).over B1
  have KR : AtC w1 (w.heap.size + 1) 44 #[.slice none 0 0, .slice none 0 0, .slice none 0 0, .slice none 0 0, .slice none 0 0, .slice none 0 0, .int .i64 0] := by
    have := ((AtC.new (w.alloc (.cells #[.slice a1 m.xs.length c1, .slice a2 m.ys.length c2, .slice a3 m.is.length c3, .slice a4 m.bs.length c4, .slice a5 m.fs.length c5, .slice a6 m.ds.length c6, .int .i64 m.nx] 31)) 44 #[.slice none 0 0, .slice none 0 0, .slice none 0 0, .slice none 0 0, .slice none 0 0, .slice none 0 0, .int .i64 0]).alloc (.cells #[.slice none 0 0, .slice none 0 0, .slice none 0 0, .slice none 0 0, .slice none 0 0, .slice none 0 0, .int .i64 0] 44)).over B1
    simpa using this
  have KV : AtC w1 (w.heap.size + 1 + 1) 44 #[.slice none 0 0, .slice none 0 0, .slice none 0 0, .slice none 0 0, .slice none 0 0, .slice none 0 0, .int .i64 0] := by
    have := (AtC.new ((w.alloc (.cells #[.slice a1 m.xs.length c1, .slice a2 m.ys.length c2, .slice a3 m.is.length c3, .slice a4 m.bs.length c4, .slice a5 m.fs.length c5, .slice a6 m.ds.length c6, .int .i64 m.nx] 31)).alloc (.cells #[.slice none 0 0, .slice none 0 0, .slice none 0 0, .slice none 0 0, .slice none 0 0, .slice none 0 0, .int .i64 0] 44)) 44 #[.slice none 0 0, .slice none 0 0, .slice none 0 0, .slice none 0 0, .slice none 0 0, .slice none 0 0, .int .i64 0]).over B1
    simpa using this
  have hs1 : w.heap.size + 1 + 1 + 1 ≤ w1.heap.size := by have := B1.size; simpa using this
  have D1 : DO w1 (fun k => w.heap.size + 1 + 1 + 1 ≤ k ∧ k < w1.heap.size) (.slice e1 m.xs.length f1) (.slice e2 m.ys.length f2) (.slice e3 m.is.length f3) (.slice e4 m.bs.length f4) m.xs m.ys m.is m.bs := O1.bound.mono fun k hk => ⟨by have := hk.1; simpa using this, hk.2⟩
  have y0 : w1.cell? ⟨w.heap.size + 1 + 1, 0, none⟩ = some (.slice none 0 0) := KV.cell 0
  have y1 : w1.cell? ⟨w.heap.size + 1 + 1, 1, none⟩ = some (.slice none 0 0) := KV.cell 1
  have y2 : w1.cell? ⟨w.heap.size + 1 + 1, 2, none⟩ = some (.slice none 0 0) := KV.cell 2
  have y3 : w1.cell? ⟨w.heap.size + 1 + 1, 3, none⟩ = some (.slice none 0 0) := KV.cell 3
  have x4 : w1.cell? ⟨w.heap.size, 4, none⟩ = some (.slice a5 m.fs.length c5) := KA.cell 4
  have g0 := KV.frozen 0
  have g1 := KV.frozen 1
  have g2 := KV.frozen 2
  have g3 := KV.frozen 3
  have D1' : DO ((((w1.setCell ⟨w.heap.size + 1 + 1, 0, none⟩ (.slice e1 m.xs.length f1)).setCell ⟨w.heap.size + 1 + 1, 1, none⟩ (.slice e2 m.ys.length f2)).setCell ⟨w.heap.size + 1 + 1, 2, none⟩ (.slice e3 m.is.length f3)).setCell ⟨w.heap.size + 1 + 1, 3, none⟩ (.slice e4 m.bs.length f4)) (fun k => w.heap.size + 1 + 1 + 1 ≤ k ∧ k < w1.heap.size) (.slice e1 m.xs.length f1) (.slice e2 m.ys.length f2) (.slice e3 m.is.length f3) (.slice e4 m.bs.length f4) m.xs m.ys m.is m.bs := D1.of_heap fun k hk _ => (((heap_setCell_other _ ⟨w.heap.size + 1 + 1, 3, none⟩ k _ (by show k ≠ w.heap.size + 1 + 1; omega)).trans (heap_setCell_other _ ⟨w.heap.size + 1 + 1, 2, none⟩ k _ (by show k ≠ w.heap.size + 1 + 1; omega))).trans (heap_setCell_other _ ⟨w.heap.size + 1 + 1, 1, none⟩ k _ (by show k ≠ w.heap.size + 1 + 1; omega))).trans (heap_setCell_other _ ⟨w.heap.size + 1 + 1, 0, none⟩ k _ (by show k ≠ w.heap.size + 1 + 1; omega))
  have BW' : Below w.heap.size w ((((w1.setCell ⟨w.heap.size + 1 + 1, 0, none⟩ (.slice e1 m.xs.length f1)).setCell ⟨w.heap.size + 1 + 1, 1, none⟩ (.slice e2 m.ys.length f2)).setCell ⟨w.heap.size + 1 + 1, 2, none⟩ (.slice e3 m.is.length f3)).setCell ⟨w.heap.size + 1 + 1, 3, none⟩ (.slice e4 m.bs.length f4)) := (((BW.setCell (by simp; omega) _).setCell (by simp; omega) _).setCell (by simp; omega) _).setCell (by simp; omega) _
  have KV' : AtC ((((w1.setCell ⟨w.heap.size + 1 + 1, 0, none⟩ (.slice e1 m.xs.length f1)).setCell ⟨w.heap.size + 1 + 1, 1, none⟩ (.slice e2 m.ys.length f2)).setCell ⟨w.heap.size + 1 + 1, 2, none⟩ (.slice e3 m.is.length f3)).setCell ⟨w.heap.size + 1 + 1, 3, none⟩ (.slice e4 m.bs.length f4)) (w.heap.size + 1 + 1) 44 #[.slice e1 m.xs.length f1, .slice e2 m.ys.length f2, .slice e3 m.is.length f3, .slice e4 m.bs.length f4, .slice none 0 0, .slice none 0 0, .int .i64 0] := (((KV.set 0 _).set 1 _).set 2 _).set 3 _
  have KA' : AtC ((((w1.setCell ⟨w.heap.size + 1 + 1, 0, none⟩ (.slice e1 m.xs.length f1)).setCell ⟨w.heap.size + 1 + 1, 1, none⟩ (.slice e2 m.ys.length f2)).setCell ⟨w.heap.size + 1 + 1, 2, none⟩ (.slice e3 m.is.length f3)).setCell ⟨w.heap.size + 1 + 1, 3, none⟩ (.slice e4 m.bs.length f4)) w.heap.size 31 #[.slice a1 m.xs.length c1, .slice a2 m.ys.length c2, .slice a3 m.is.length c3, .slice a4 m.bs.length c4, .slice a5 m.fs.length c5, .slice a6 m.ds.length c6, .int .i64 m.nx] := (((KA.other (by omega) _).other (by omega) _).other (by omega) _).other (by omega) _
  have KR' : AtC ((((w1.setCell ⟨w.heap.size + 1 + 1, 0, none⟩ (.slice e1 m.xs.length f1)).setCell ⟨w.heap.size + 1 + 1, 1, none⟩ (.slice e2 m.ys.length f2)).setCell ⟨w.heap.size + 1 + 1, 2, none⟩ (.slice e3 m.is.length f3)).setCell ⟨w.heap.size + 1 + 1, 3, none⟩ (.slice e4 m.bs.length f4)) (w.heap.size + 1) 44 #[.slice none 0 0, .slice none 0 0, .slice none 0 0, .slice none 0 0, .slice none 0 0, .slice none 0 0, .int .i64 0] := (((KR.other (by omega) _).other (by omega) _).other (by omega) _).other (by omega) _
  have sz1 : ((((w1.setCell ⟨w.heap.size + 1 + 1, 0, none⟩ (.slice e1 m.xs.length f1)).setCell ⟨w.heap.size + 1 + 1, 1, none⟩ (.slice e2 m.ys.length f2)).setCell ⟨w.heap.size + 1 + 1, 2, none⟩ (.slice e3 m.is.length f3)).setCell ⟨w.heap.size + 1 + 1, 3, none⟩ (.slice e4 m.bs.length f4)).heap.size = w1.heap.size := by simp
  obtain ⟨W1, hW1⟩ : ∃ W1, ((((w1.setCell ⟨w.heap.size + 1 + 1, 0, none⟩ (.slice e1 m.xs.length f1)).setCell ⟨w.heap.size + 1 + 1, 1, none⟩ (.slice e2 m.ys.length f2)).setCell ⟨w.heap.size + 1 + 1, 2, none⟩ (.slice e3 m.is.length f3)).setCell ⟨w.heap.size + 1 + 1, 3, none⟩ (.slice e4 m.bs.length f4)) = W1 := ⟨_, rfl⟩
  rw [hW1] at D1' BW' KV' KA' KR' sz1
  have x4b : W1.cell? ⟨w.heap.size, 4, none⟩ = some (.slice a5 m.fs.length c5) := KA'.cell 4
  have HX := hide (And.intro D1' (And.intro BW' (And.intro KV' (And.intro KA' KR'))))
  clear O1 B1 BW KA KR KV D1 D1' BW' KV' KA' KR' x4
  go_wp2_with fail
  refine (toB_anyB _ m.fs _ (H.out.f.below HX.out.2.1 (Nat.le_refl _)) HG.out.f).mono ?_
  rintro e w2 ⟨u2, rfl, O2, B2⟩
  obtain ⟨e5, f5, rfl⟩ := O2.rfl.form
  have BW : Below w.heap.size w w2 := HX.out.2.1.trans (B2.mono HX.out.2.1.size)
  have KV := HX.out.2.2.1.over B2
  have KA := HX.out.2.2.2.1.over B2
  have KR := HX.out.2.2.2.2.over B2
  have D2 := HX.out.1.below B2 (Nat.le_refl _)
  have hs2 : w1.heap.size ≤ w2.heap.size := by have := B2.size; omega
  have y4 : w2.cell? ⟨w.heap.size + 1 + 1, 4, none⟩ = some (.slice none 0 0) := KV.cell 4
  have g4 := KV.frozen 4
  have D2' : DO (w2.setCell ⟨w.heap.size + 1 + 1, 4, none⟩ (.slice e5 m.fs.length f5)) (fun k => w.heap.size + 1 + 1 + 1 ≤ k ∧ k < w1.heap.size) (.slice e1 m.xs.length f1) (.slice e2 m.ys.length f2) (.slice e3 m.is.length f3) (.slice e4 m.bs.length f4) m.xs m.ys m.is m.bs := D2.of_heap fun k hk _ => heap_setCell_other _ ⟨w.heap.size + 1 + 1, 4, none⟩ k _ (by show k ≠ w.heap.size + 1 + 1; omega)
  have BW' : Below w.heap.size w (w2.setCell ⟨w.heap.size + 1 + 1, 4, none⟩ (.slice e5 m.fs.length f5)) := BW.setCell (by simp; omega) _
  have KV' : AtC (w2.setCell ⟨w.heap.size + 1 + 1, 4, none⟩ (.slice e5 m.fs.length f5)) (w.heap.size + 1 + 1) 44 #[.slice e1 m.xs.length f1, .slice e2 m.ys.length f2, .slice e3 m.is.length f3, .slice e4 m.bs.length f4, .slice e5 m.fs.length f5, .slice none 0 0, .int .i64 0] := KV.set 4 _
  have KA' : AtC (w2.setCell ⟨w.heap.size + 1 + 1, 4, none⟩ (.slice e5 m.fs.length f5)) w.heap.size 31 #[.slice a1 m.xs.length c1, .slice a2 m.ys.length c2, .slice a3 m.is.length c3, .slice a4 m.bs.length c4, .slice a5 m.fs.length c5, .slice a6 m.ds.length c6, .int .i64 m.nx] := KA.other (by omega) _
  have KR' : AtC (w2.setCell ⟨w.heap.size + 1 + 1, 4, none⟩ (.slice e5 m.fs.length f5)) (w.heap.size + 1) 44 #[.slice none 0 0, .slice none 0 0, .slice none 0 0, .slice none 0 0, .slice none 0 0, .slice none 0 0, .int .i64 0] := KR.other (by omega) _
  have O2' : ROwns (w2.setCell ⟨w.heap.size + 1 + 1, 4, none⟩ (.slice e5 m.fs.length f5)) w1.heap.size 4 (.slice e5 m.fs.length f5) (fc m.fs) := (O2.base_le (by omega)).setCell_other (by omega) _
  have L2 : ∀ k, (Value.slice e5 m.fs.length f5).ownBlock = some k → k < w2.heap.size := fun k hk => (O2.lt k hk).2
  have sz2 : (w2.setCell ⟨w.heap.size + 1 + 1, 4, none⟩ (.slice e5 m.fs.length f5)).heap.size = w2.heap.size := by simp
  obtain ⟨W2, hW2⟩ : ∃ W2, (w2.setCell ⟨w.heap.size + 1 + 1, 4, none⟩ (.slice e5 m.fs.length f5)) = W2 := ⟨_, rfl⟩
  rw [hW2] at D2' BW' KV' KA' KR' O2' sz2
  have x5 : W2.cell? ⟨w.heap.size, 5, none⟩ = some (.slice a6 m.ds.length c6) := KA'.cell 5
  have HY := hide (And.intro D2' (And.intro BW' (And.intro KV' (And.intro KA' (And.intro KR' (And.intro O2' L2))))))
  clear O2 B2 BW KA KR KV D2 D2' BW' KV' KA' KR' O2' L2 x4b hW1 HX sz1
  go_wp2_with fail
  refine (toDepS_any _ m.ds _ (H.out.p.below HY.out.2.1 (Nat.le_refl _)) HG.out.l HG.out.b).mono ?_
  rintro e w3 ⟨u3, ts, rfl, O3, B3⟩
  obtain ⟨e6, f6, rfl⟩ := O3.form
  have BW : Below w.heap.size w w3 := HY.out.2.1.trans (B3.mono HY.out.2.1.size)
  have KV := HY.out.2.2.1.over B3
  have KA := HY.out.2.2.2.1.over B3
  have KR := HY.out.2.2.2.2.1.over B3
  have hs3 : w2.heap.size ≤ w3.heap.size := by have := B3.size; omega
  have M3 : MO w3 (fun k => w.heap.size + 1 + 1 + 1 ≤ k) (.slice e1 m.xs.length f1) (.slice e2 m.ys.length f2) (.slice e3 m.is.length f3) (.slice e4 m.bs.length f4) (.slice e5 m.fs.length f5) (.slice e6 m.ds.length f6) m := MO.parts (A := w.heap.size + 1 + 1 + 1) (B := w1.heap.size) (C := w2.heap.size) (HY.out.1.below B3 (Nat.le_refl _)) (HY.out.2.2.2.2.2.1.below B3 (Nat.le_refl _)) HY.out.2.2.2.2.2.2 (O3.mono fun k hk => by omega) hs1 hs2
  have y5 : w3.cell? ⟨w.heap.size + 1 + 1, 5, none⟩ = some (.slice none 0 0) := KV.cell 5
  have g5 := KV.frozen 5
  have M3' : MO (w3.setCell ⟨w.heap.size + 1 + 1, 5, none⟩ (.slice e6 m.ds.length f6)) (fun k => w.heap.size + 1 + 1 + 1 ≤ k) (.slice e1 m.xs.length f1) (.slice e2 m.ys.length f2) (.slice e3 m.is.length f3) (.slice e4 m.bs.length f4) (.slice e5 m.fs.length f5) (.slice e6 m.ds.length f6) m := M3.of_heap fun k hk _ => heap_setCell_other _ ⟨w.heap.size + 1 + 1, 5, none⟩ k _ (by show k ≠ w.heap.size + 1 + 1; omega)
  have BW' : Below w.heap.size w (w3.setCell ⟨w.heap.size + 1 + 1, 5, none⟩ (.slice e6 m.ds.length f6)) := BW.setCell (by simp; omega) _
  have KV' : AtC (w3.setCell ⟨w.heap.size + 1 + 1, 5, none⟩ (.slice e6 m.ds.length f6)) (w.heap.size + 1 + 1) 44 #[.slice e1 m.xs.length f1, .slice e2 m.ys.length f2, .slice e3 m.is.length f3, .slice e4 m.bs.length f4, .slice e5 m.fs.length f5, .slice e6 m.ds.length f6, .int .i64 0] := KV.set 5 _
  have KA' : AtC (w3.setCell ⟨w.heap.size + 1 + 1, 5, none⟩ (.slice e6 m.ds.length f6)) w.heap.size 31 #[.slice a1 m.xs.length c1, .slice a2 m.ys.length c2, .slice a3 m.is.length c3, .slice a4 m.bs.length c4, .slice a5 m.fs.length c5, .slice a6 m.ds.length c6, .int .i64 m.nx] := KA.other (by omega) _
  have KR' : AtC (w3.setCell ⟨w.heap.size + 1 + 1, 5, none⟩ (.slice e6 m.ds.length f6)) (w.heap.size + 1) 44 #[.slice none 0 0, .slice none 0 0, .slice none 0 0, .slice none 0 0, .slice none 0 0, .slice none 0 0, .int .i64 0] := KR.other (by omega) _
  obtain ⟨W3, hW3⟩ : ∃ W3, (w3.setCell ⟨w.heap.size + 1 + 1, 5, none⟩ (.slice e6 m.ds.length f6)) = W3 := ⟨_, rfl⟩
  rw [hW3] at M3' BW' KV' KA' KR'
  have x6 : W3.cell? ⟨w.heap.size, 6, none⟩ = some (.int .i64 m.nx) := KA'.cell 6
  have s0 : W3.cell? ⟨w.heap.size + 1 + 1, 0, none⟩ = some (.slice e1 m.xs.length f1) := KV'.cell 0
  have s1 : W3.cell? ⟨w.heap.size + 1 + 1, 1, none⟩ = some (.slice e2 m.ys.length f2) := KV'.cell 1
  have s2 : W3.cell? ⟨w.heap.size + 1 + 1, 2, none⟩ = some (.slice e3 m.is.length f3) := KV'.cell 2
  have s3 : W3.cell? ⟨w.heap.size + 1 + 1, 3, none⟩ = some (.slice e4 m.bs.length f4) := KV'.cell 3
  have s4 : W3.cell? ⟨w.heap.size + 1 + 1, 4, none⟩ = some (.slice e5 m.fs.length f5) := KV'.cell 4
  have s5 : W3.cell? ⟨w.heap.size + 1 + 1, 5, none⟩ = some (.slice e6 m.ds.length f6) := KV'.cell 5
  have s6 : W3.cell? ⟨w.heap.size + 1 + 1, 6, none⟩ = some (.int .i64 0) := KV'.cell 6
  have r0 : W3.cell? ⟨w.heap.size + 1, 0, none⟩ = some (.slice none 0 0) := KR'.cell 0
  have r1 : W3.cell? ⟨w.heap.size + 1, 1, none⟩ = some (.slice none 0 0) := KR'.cell 1
  have r2 : W3.cell? ⟨w.heap.size + 1, 2, none⟩ = some (.slice none 0 0) := KR'.cell 2
  have r3 : W3.cell? ⟨w.heap.size + 1, 3, none⟩ = some (.slice none 0 0) := KR'.cell 3
  have r4 : W3.cell? ⟨w.heap.size + 1, 4, none⟩ = some (.slice none 0 0) := KR'.cell 4
  have r5 : W3.cell? ⟨w.heap.size + 1, 5, none⟩ = some (.slice none 0 0) := KR'.cell 5
  have r6 : W3.cell? ⟨w.heap.size + 1, 6, none⟩ = some (.int .i64 0) := KR'.cell 6
  have g6 := KV'.frozen 6
  have z0 := KR'.frozen 0
  have z1 := KR'.frozen 1
  have z2 := KR'.frozen 2
  have z3 := KR'.frozen 3
  have z4 := KR'.frozen 4
  have z5 := KR'.frozen 5
  have z6 := KR'.frozen 6
  have HZ := hide (And.intro M3' BW')
  clear O3 B3 BW KA KR KV M3 M3' BW' KV' KA' KR' x5 hW2 HY sz2
  go_wp2
  refine bodyPost_ret (v := .agg #[.slice e1 m.xs.length f1, .slice e2 m.ys.length f2, .slice e3 m.is.length f3, .slice e4 m.bs.length f4, .slice e5 m.fs.length f5, .slice e6 m.ds.length f6, .int .i64 m.nx]) (by simp [results, go_sem, r0, r1, r2, r3, r4, r5, r6]) rfl ⟨_, _, _, _, _, _, rfl, ?_, ?_⟩
  · exact (HZ.out.1.of_heap fun k hk _ => (((((((heap_setCell_other _ ⟨w.heap.size + 1, 6, none⟩ k _ (by show k ≠ w.heap.size + 1; omega)).trans (heap_setCell_other _ ⟨w.heap.size + 1, 5, none⟩ k _ (by show k ≠ w.heap.size + 1; omega))).trans (heap_setCell_other _ ⟨w.heap.size + 1, 4, none⟩ k _ (by show k ≠ w.heap.size + 1; omega))).trans (heap_setCell_other _ ⟨w.heap.size + 1, 3, none⟩ k _ (by show k ≠ w.heap.size + 1; omega))).trans (heap_setCell_other _ ⟨w.heap.size + 1, 2, none⟩ k _ (by show k ≠ w.heap.size + 1; omega))).trans (heap_setCell_other _ ⟨w.heap.size + 1, 1, none⟩ k _ (by show k ≠ w.heap.size + 1; omega))).trans (heap_setCell_other _ ⟨w.heap.size + 1, 0, none⟩ k _ (by show k ≠ w.heap.size + 1; omega))).trans (heap_setCell_other _ ⟨w.heap.size + 1 + 1, 6, none⟩ k _ (by show k ≠ w.heap.size + 1 + 1; omega))).mono fun k hk => by omega
  · exact (((((((HZ.out.2.setCell (by simp; omega) _).setCell (by simp) _).setCell (by simp) _).setCell (by simp) _).setCell (by simp) _).setCell (by simp) _).setCell (by simp) _).setCell (by simp) _
end Go.Proofs.YtaoachljojbnjaaGreat
/- laws.szDep, laws.szDepS and laws.szMem by their contracts. -/
namespace Go.Proofs.YtaoachljojbnjaaGreat
open Go.RowKit Kit
set_option maxRecDepth 100000 in
set_option maxHeartbeats 800000 in
theorem szDep_L (id kd io pt bk sl : Int) (nm : ByteArray) (bt ot : Bool) (af : Int) (a : Option Addr) (n c : Nat) (L : Int) (w : World) (h0 : 0 ≤ L) (hL : L ≤ 1048576) (h1 : n ≤ maxLen) (h2 : nm.size ≤ maxLen) :
    Calls Tryz.prog 5 #[.agg #[.int .i64 id, .int .i64 kd, .int .i64 io, .int .i64 pt, .int .i64 bk, .int .i64 sl, .string nm, .bool bt, .bool ot, .int .i64 af, .slice a n c], .int .i64 L] w fun e w' => ∃ r, e = .returned (.int .i64 r) ∧ (r = -1 ∨ (0 ≤ r ∧ r ≤ L ∧ n ≤ 1048576 ∧ nm.size ≤ 1048576)) ∧ Below w.heap.size w w' := by
  have h3 : n ≤ 9223372036854775807 := h1
  have h4 : nm.size ≤ 9223372036854775807 := h2
  clear h1 h2
  by_cases hn : L - (nm.size : Int) < 0
  · go_enter Tryz.func5, Tryz.ntmps5
    go_wp2
    go_ret
    exact ⟨_, rfl, .inl rfl, by go_grown⟩
  · by_cases hm : L - (nm.size : Int) - (n : Int) < 0
    · go_enter Tryz.func5, Tryz.ntmps5
      go_wp2
      go_ret
      exact ⟨_, rfl, .inl rfl, by go_grown⟩
    · go_enter Tryz.func5, Tryz.ntmps5
      go_wp2
      go_ret
      exact ⟨_, rfl, .inr ⟨by omega, by omega, by omega, by omega⟩, by go_grown⟩
set_option maxRecDepth 100000 in
set_option maxHeartbeats 1600000 in
theorem szDepS_L (v : Value) (xs : List Dp) (L0 : Int) (w : World) (hv : RN KDep w v xs) (h0 : 0 ≤ L0) (h1 : L0 ≤ 1048576) (hlen : xs.length ≤ maxLen) (hbig : ∀ (j : Nat) (h : j < xs.length), xs[j].bl.length ≤ maxLen ∧ xs[j].nm.size ≤ maxLen) :
    Calls Tryz.prog 17 #[v, .int .i64 L0] w fun e w' => ∃ r, e = .returned (.int .i64 r) ∧ (r = -1 ∨ (0 ≤ r ∧ r ≤ L0 ∧ xs.length ≤ 1048576 ∧ ∀ (j : Nat) (h : j < xs.length), xs[j].bl.length ≤ 1048576 ∧ xs[j].nm.size ≤ 1048576)) ∧ Below w.heap.size w w' := by
  obtain ⟨a, c, rfl, -, hc⟩ := hv.dep
  have HC := hide hc
  have HG := hide hbig
  have hl' : xs.length ≤ 9223372036854775807 := hlen
  clear hc hbig hlen hv
  by_cases hn : L0 - (xs.length : Int) < 0
  · go_enter Tryz.func17, Tryz.ntmps17
    go_wp2
    go_ret
    exact ⟨-1, rfl, .inl rfl, Below.refl _ _⟩
  · have hn2 : decide (L0 - (xs.length : Int) < 0) = false := by simp; omega
    go_enter Tryz.func17, Tryz.ntmps17
    go_wp2
    go_loopw [1, 5] (fun x i wr => ∃ (j : Nat) (L : Int), j ≤ xs.length ∧ i = .int .i64 j ∧ x = .int .i64 L ∧ 0 ≤ L ∧ L ≤ L0 ∧ Hid (∀ (k : Nat) (h : k < xs.length), k < j → xs[k].bl.length ≤ 1048576 ∧ xs[k].nm.size ≤ 1048576) ∧ Below w.heap.size w wr) (fun _ i _ => xs.length - (intOf i).toNat)
    case atStart => exact ⟨0, _, Nat.zero_le _, rfl, rfl, by omega, by omega, fun _ _ h => absurd h (Nat.not_lt_zero _), Below.refl _ _⟩
    case round =>
      obtain ⟨j, L, hj, rfl, rfl, hL0, hL1, HS, hb⟩ := hrel
      by_cases hlt : j < xs.length
      · obtain ⟨g, off, p, rfl, hg, m, hp⟩ := HC.out j hlt
        have hgt := HG.out j hlt
        have HS2 : Hid (∀ (n : Nat) (t : ByteArray), xs[j].bl.length = n → xs[j].nm = t → n ≤ 1048576 → t.size ≤ 1048576 → ∀ (k : Nat) (h : k < xs.length), k < j + 1 → xs[k].bl.length ≤ 1048576 ∧ xs[k].nm.size ≤ 1048576) := fun n t e1 e2 h1 h2 k hk hkj => by
          by_cases hkk : k = j
          · subst hkk; rw [e1, e2]; exact ⟨h1, h2⟩
          · exact HS.out k hk (by omega)
        obtain ⟨X, hX⟩ : ∃ X, xs[j] = X := ⟨_, rfl⟩
        rw [hX] at m hp hgt HS2
        obtain ⟨id, kd, io, pt, bk, sl, nm, bt, ot, af, bl⟩ := X
        simp only at hp hgt HS2
        obtain ⟨pa, pc, rfl⟩ := hp.form
        obtain ⟨n, hnl⟩ : ∃ n, bl.length = n := ⟨_, rfl⟩
        rw [hnl] at m hgt HS2
        simp only [DCells] at m
        obtain ⟨m0, m1, m2, m3, m4, m5, m6, m7, m8, m9, m10⟩ := m
        have q0 : wr.cell? ⟨g, off + j * 11, none⟩ = some (.int .i64 id) := (hb.cell (p := ⟨g, off + j * 11, none⟩) hg).trans m0
        have q1 : wr.cell? ⟨g, off + j * 11 + 1, none⟩ = some (.int .i64 kd) := (hb.cell (p := ⟨g, off + j * 11 + 1, none⟩) hg).trans m1
        have q2 : wr.cell? ⟨g, off + j * 11 + 2, none⟩ = some (.int .i64 io) := (hb.cell (p := ⟨g, off + j * 11 + 2, none⟩) hg).trans m2
        have q3 : wr.cell? ⟨g, off + j * 11 + 3, none⟩ = some (.int .i64 pt) := (hb.cell (p := ⟨g, off + j * 11 + 3, none⟩) hg).trans m3
        have q4 : wr.cell? ⟨g, off + j * 11 + 4, none⟩ = some (.int .i64 bk) := (hb.cell (p := ⟨g, off + j * 11 + 4, none⟩) hg).trans m4
        have q5 : wr.cell? ⟨g, off + j * 11 + 5, none⟩ = some (.int .i64 sl) := (hb.cell (p := ⟨g, off + j * 11 + 5, none⟩) hg).trans m5
        have q6 : wr.cell? ⟨g, off + j * 11 + 6, none⟩ = some (.string nm) := (hb.cell (p := ⟨g, off + j * 11 + 6, none⟩) hg).trans m6
        have q7 : wr.cell? ⟨g, off + j * 11 + 7, none⟩ = some (.bool bt) := (hb.cell (p := ⟨g, off + j * 11 + 7, none⟩) hg).trans m7
        have q8 : wr.cell? ⟨g, off + j * 11 + 8, none⟩ = some (.bool ot) := (hb.cell (p := ⟨g, off + j * 11 + 8, none⟩) hg).trans m8
        have q9 : wr.cell? ⟨g, off + j * 11 + 9, none⟩ = some (.int .i64 af) := (hb.cell (p := ⟨g, off + j * 11 + 9, none⟩) hg).trans m9
        have q10 : wr.cell? ⟨g, off + j * 11 + 10, none⟩ = some (.slice pa n pc) := (hb.cell (p := ⟨g, off + j * 11 + 10, none⟩) hg).trans m10
        have HGT := hide hgt
        have HB := hide hb
        have hsz := hb.size
        have j0 : (0 : Int) ≤ (j : Int) := by omega
        have j1 : (j : Int) < (xs.length : Int) := by omega
        clear m0 m1 m2 m3 m4 m5 m6 m7 m8 m9 m10 hb hgt hp hX hnl
        go_wp2_with (go_at_call 5; refine (szDep_L id kd io pt bk sl nm bt ot af _ n _ _ _ hL0 (by omega) HGT.out.1 HGT.out.2).mono ?_; rintro e w1 ⟨r, rfl, hr, B1⟩; have HB1 := hide (HB.out.trans (B1.mono hsz)); have HRR := hide hr; have hr1 : -1 ≤ r := (by { rcases hr with h | h <;> omega }); clear hr B1)
        · go_ret
          exact ⟨-1, rfl, .inl rfl, HB1.out⟩
        · have hr0 : 0 ≤ r := by omega
          have hrr : r ≤ L ∧ n ≤ 1048576 ∧ nm.size ≤ 1048576 := by rcases HRR.out with h | h <;> omega
          go_roundw
          case rel => exact ⟨j + 1, r, by omega, by go_num, rfl, hr0, by omega, HS2.out n nm rfl rfl hrr.2.1 hrr.2.2, HB1.out⟩
          case measure => simp [intOf]; omega
      · have HB := hide hb
        clear hb
        go_wp2
        go_ret
        exact ⟨L, rfl, .inr ⟨hL0, hL1, by omega, fun k hk => HS.out k hk (by omega)⟩, HB.out⟩
theorem szBoolS_L (a : Option Addr) (n c : Nat) (L : Int) (w : World) (h0 : 0 ≤ L) (hL : L ≤ 1048576) (h1 : n ≤ maxLen) :
    Calls Tryz.prog 16 #[.slice a n c, .int .i64 L] w fun e w' => ∃ r, e = .returned (.int .i64 r) ∧ (r = -1 ∨ (0 ≤ r ∧ r ≤ L ∧ n ≤ 1048576)) ∧ Below w.heap.size w w' := by
  have h3 : n ≤ 9223372036854775807 := h1
  clear h1
  by_cases hn : L - (n : Int) < 0
  · go_enter Tryz.func16, Tryz.ntmps16
    go_wp2
    go_ret
    exact ⟨_, rfl, .inl rfl, by go_grown⟩
  · go_enter Tryz.func16, Tryz.ntmps16
    go_wp2
    go_ret
    exact ⟨_, rfl, .inr ⟨by omega, by omega, by omega⟩, by go_grown⟩
set_option maxRecDepth 100000 in
set_option maxHeartbeats 1600000 in
theorem szMem_L (u v iv bv dv pv : Value) (m : MD) (L0 : Int) (w : World) (h : MR w u v iv bv dv pv m) (hL : 0 ≤ L0) (hL1 : L0 ≤ 1048576) (hB : BigM maxLen m) :
    Calls Tryz.prog 4 #[.agg #[u, v, iv, bv, dv, pv, .int .i64 m.nx], .int .i64 L0] w fun e w' => ∃ r, e = .returned (.int .i64 r) ∧ (r = -1 ∨ (0 ≤ r ∧ r ≤ L0 ∧ BigM 1048576 m)) ∧ Below w.heap.size w w' := by
  have H := hide h
  have HG := hide hB
  have hfl : m.fs.length ≤ 9223372036854775807 := hB.f
  obtain ⟨a1, c1, a2, c2, a3, c3, a4, c4, a5, c5, a6, c6, rfl, rfl, rfl, rfl, rfl, rfl⟩ := h.form
  clear h hB
  go_enter Tryz.func4, Tryz.ntmps4
  go_wp2_with fail
  refine (szDisk_L _ _ _ _ m.xs m.ys m.is m.bs _ _ (H.out.d.alloc _).a (H.out.d.alloc _).b (H.out.d.alloc _).i (H.out.d.alloc _).k hL hL1 HG.out.d).mono ?_
  rintro e w1 ⟨r, rfl, hr, B1⟩
  have K0 : AtC w1 w.heap.size 31 #[.slice a1 m.xs.length c1, .slice a2 m.ys.length c2, .slice a3 m.is.length c3, .slice a4 m.bs.length c4, .slice a5 m.fs.length c5, .slice a6 m.ds.length c6, .int .i64 m.nx] := (AtC.new w 31 _).over B1
  have BW : Below w.heap.size w w1 := ((Below.refl _ w).alloc (Nat.le_refl _) _).trans (B1.mono (by simp))
  have p4 : w1.cell? ⟨w.heap.size, 4, none⟩ = some (.slice a5 m.fs.length c5) := K0.cell 4
  have p5 : w1.cell? ⟨w.heap.size, 5, none⟩ = some (.slice a6 m.ds.length c6) := K0.cell 5
  have HR := hide hr
  have HBW := hide BW
  have HKL := hide K0.lt
  have hr1 : -1 ≤ r := by rcases hr with h | h <;> omega
  have hr2 : r ≤ 1048576 := by rcases hr with h | h <;> omega
  clear hr B1 K0 BW
  by_cases hneg : r < 0
  · go_wp2
    go_ret
    exact ⟨_, rfl, .inl rfl, HBW.out⟩
  · have HD := hide (HR.out.resolve_left (by omega))
    have n1 : decide (r < 0) = false := by simp; omega
    go_wp2_with fail
    refine (szBoolS_L _ m.fs.length _ _ w1 (by omega) (by omega) HG.out.f).mono ?_
    rintro e w1b ⟨r2, rfl, hr2', B1b⟩
    have HBW2 := hide (HBW.out.trans (B1b.mono HBW.out.size))
    have p5b : w1b.cell? ⟨w.heap.size, 5, none⟩ = some (.slice a6 m.ds.length c6) := (B1b.cell (p := ⟨w.heap.size, 5, none⟩) (by have := HBW.out.size; have := HKL.out; simpa using this)).trans p5
    have HR2 := hide hr2'
    have hr2a : -1 ≤ r2 := by rcases hr2' with h | h <;> omega
    have hr2b : r2 ≤ 1048576 := by rcases hr2' with h | h <;> omega
    clear hr2' B1b p4 p5 n1
    by_cases hf : r2 < 0
    · go_wp2
      go_ret
      exact ⟨_, rfl, .inl rfl, HBW2.out⟩
    · have hf2 := HR2.out.resolve_left (by omega)
      have HF2 := hide hf2
      have n2 : decide (r2 < 0) = false := by simp; omega
      clear hf2
      go_wp2_with fail
      refine (szDepS_L _ m.ds _ _ (H.out.p.below HBW2.out (Nat.le_refl _)) (by omega) (by omega) HG.out.l (fun j hj => ⟨HG.out.b j hj, HG.out.t j hj⟩)).mono ?_
      rintro e w2 ⟨r3, rfl, hr3, B2⟩
      have HB2 := hide (HBW2.out.trans (B2.mono HBW2.out.size))
      have HR3 := hide hr3
      have hr4 : -1 ≤ r3 := by rcases hr3 with h | h <;> omega
      clear hr3 B2 p5b n2
      by_cases hn3 : r3 < 0
      · go_wp2
        go_ret
        exact ⟨_, rfl, .inl rfl, HB2.out⟩
      · have hh := HR3.out.resolve_left (by omega)
        have hd := HD.out
        have hf3 := HF2.out
        have HF : Hid (0 ≤ r3 ∧ r3 ≤ L0 ∧ BigM 1048576 m) := ⟨by omega, by omega, hd.2.2, hf3.2.2, hh.2.2.1, fun j hj => (hh.2.2.2 j hj).1, fun j hj => (hh.2.2.2 j hj).2⟩
        clear hh hd hf3
        go_wp2
        go_ret
        exact ⟨_, rfl, .inr HF.out, HB2.out⟩
end Go.Proofs.YtaoachljojbnjaaGreat
