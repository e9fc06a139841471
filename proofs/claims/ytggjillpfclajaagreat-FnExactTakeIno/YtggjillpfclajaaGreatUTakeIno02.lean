/- Texts of the proof, bundled: Ti. -/
import Derived.Test.YtggjillpfclajaaGreatUTakeIno01
import Derived.Test.YtggjillpfclajaaGreatU13
/- take, TakeBlock and TakeIno of the program by their contracts. -/
namespace Go.Proofs.YtggjillpfclajaaGreat
open Go.RowKit Kit
theorem chg_of_grown {S : Nat → Prop} {w w' : World} {row : Option Nat} (h : w.grownBy w' row) (hr : ∀ k, row = some k → S k) : Chg S w w' :=
  ⟨h.os, h.tape, h.output, h.size, fun k hk hs => h.block k hk (fun e => hs (hr k e.symm))⟩
set_option maxRecDepth 100000 in
set_option maxHeartbeats 3200000 in
theorem takeBC_any (b : Nat) (S : Nat → Prop) (b1 b2 b3 b4 b5 b6 : Option Addr) (d1 d2 d3 d4 d5 d6 : Nat) (m : MD) (w : World) (h : AtC w b 40 #[.slice b1 m.xs.length d1, .slice b2 m.ys.length d2, .slice b3 m.is.length d3, .slice b4 m.bs.length d4, .slice b5 m.fs.length d5, .slice b6 m.ds.length d6, .int .i64 m.nx]) (hm : MO w S (.slice b1 m.xs.length d1) (.slice b2 m.ys.length d2) (.slice b3 m.is.length d3) (.slice b4 m.bs.length d4) (.slice b5 m.fs.length d5) (.slice b6 m.ds.length d6) m) (hb : ¬ S b) (hB : BigM 1048576 m) :
    Calls Tryz.prog 34 #[.pointer (some ⟨b, 0, none⟩), .slice b1 m.xs.length d1] w fun e w' => e = .returned (.int .i64 (ff m.xs : Nat)) ∧ MO w' S (.slice b1 m.xs.length d1) (.slice b2 m.ys.length d2) (.slice b3 m.is.length d3) (.slice b4 m.bs.length d4) (.slice b5 m.fs.length d5) (.slice b6 m.ds.length d6) (takeB m) ∧ Chg S w w' := by
  have hxl : m.xs.length ≤ 1048576 := hB.d.x
  have HM := hide hm
  have HA := hide h
  have HB := hide hb
  have HG := hide hB
  clear hm h hb hB
  go_enter Tryz.func34, Tryz.ntmps34
  go_wp2_with fail
  refine (firstFreeI_any _ m.xs _ HM.out.mr.d.a hxl).mono ?_
  rintro e w3 ⟨rfl, rfl⟩
  rcases ff_or m.xs with ⟨hff, -⟩ | ⟨k, hk, hff, hkf, -⟩
  · have HFF := hide hff
    rw [hff]
    clear hff
    go_wp2
    go_ret
    have e : takeB m = m := by unfold takeB; rw [if_pos HFF.out]
    exact ⟨by rw [HFF.out]; rfl, by rw [e]; exact HM.out, Chg.refl _ _⟩
  · obtain ⟨S1, S2, S3, ts, k1, k2, k3, -, -, -, k7⟩ := HM.out
    obtain ⟨T1, T2, T3, ti, tb, z1, z2, -, -, -, -, z7⟩ := k1
    obtain ⟨g, cap, e1, k1c, k1f, -, hg, -⟩ := z1.a.at k (by rw [fc_length]; exact hk)
    rw [fc_length] at e1
    simp only [Value.slice.injEq, true_and] at e1
    obtain ⟨rfl, rfl⟩ := e1
    have k1d : w.cell? ⟨g, k, none⟩ = some (.bool false) := k1c.trans (by simp [fc, hk, hkf])
    have hgS : S g := k7 g (.inl (z7 g (.inl (z2 g (.inl rfl)))))
    have HX : Hid (∃ w5, w5 = w.setCell ⟨g, k, none⟩ (.bool true) ∧ AtC w5 b 40 #[.slice (some ⟨g, 0, none⟩) m.xs.length d1, .slice b2 m.ys.length d2, .slice b3 m.is.length d3, .slice b4 m.bs.length d4, .slice b5 m.fs.length d5, .slice b6 m.ds.length d6, .int .i64 m.nx] ∧ MO w5 S (.slice (some ⟨g, 0, none⟩) m.xs.length d1) (.slice b2 m.ys.length d2) (.slice b3 m.is.length d3) (.slice b4 m.bs.length d4) (.slice b5 m.fs.length d5) (.slice b6 m.ds.length d6) { m with xs := m.xs.set k true } ∧ Chg S w w5) := by
      have st := ROwns.stored (l := fc m.xs) (g := g) (cap := d1) (by rw [fc_length]; exact z1.a) k (.bool true)
      rw [fc_length, ← fc_set] at st
      have hne : b ≠ g := fun e => HB.out (e ▸ hgS)
      exact ⟨_, rfl, (heap_setCell_other _ ⟨g, k, none⟩ _ _ hne).trans HA.out, HM.out.turnX st.1 st.2, chg_of_grown st.2 (fun q hq => by cases hq; exact hgS)⟩
    have kn : ((ff m.xs : Nat) : Int) - 1 = (k : Int) := by omega
    have kp : (0 : Int) < ((ff m.xs : Nat) : Int) := by omega
    have kl : (k : Int) < (m.xs.length : Int) := by omega
    have kz : (0 : Int) ≤ (k : Int) := by omega
    have kb : ((ff m.xs : Nat) : Int) ≤ 1048576 := by omega
    clear k1c hkf z1 z2 z7 k2 k3 k7 hgS HM HA
    generalize hF : ff m.xs = F at *
    go_wp2_with fail
    obtain ⟨w5, hw5, q3, q4, q5⟩ := HX.out
    rw [← hw5]
    have hd5 : ROwns w5 0 4 (.slice b5 m.fs.length d5) (fc m.fs) ∧ ∀ k, (Value.slice b5 m.fs.length d5).ownBlock = some k → S k := by
      obtain ⟨S1', S2', S3', ts', -, p2, p3, -, -, -, p7⟩ := q4
      exact ⟨p2, fun k hk => p7 k (.inr (.inl (p3 k hk)))⟩
    refine (mark60_any b _ _ _ _ _ b5 d5 m.fs m.nx w5 q3 hd5.1).mono ?_
    rintro e w6 ⟨rfl, O6, G6⟩
    have HR : Hid (MO w6 S (.slice (some ⟨g, 0, none⟩) m.xs.length d1) (.slice b2 m.ys.length d2) (.slice b3 m.is.length d3) (.slice b4 m.bs.length d4) (.slice b5 m.fs.length d5) (.slice b6 m.ds.length d6) (takeB m) ∧ Chg S w w6) := by
      have e : takeB m = { m with xs := m.xs.set k true, fs := m.fs.set 0 true } := by
        unfold takeB
        rw [hF, if_neg (by omega), show F - 1 = k by omega]
      rw [e]
      exact ⟨q4.turnF O6 G6, q5.trans (chg_of_grown G6 hd5.2)⟩
    clear q3 q4 q5 O6 G6 hd5 HX k1d k1f hw5
    go_wp2
    go_ret
    exact ⟨by rw [hF, hff]; rfl, HR.out.1, HR.out.2⟩
set_option maxRecDepth 100000 in
set_option maxHeartbeats 3200000 in
theorem takeBI_any (u v iv bv dv pv : Value) (m : MD) (w : World) (h : MR w u v iv bv dv pv m) (hB : BigM 1048576 m) (hw : ∀ (j : Nat) (h : j < m.ds.length), (Lit.int .i64 m.ds[j].id).wf = true) :
    Calls Tryz.prog 10 #[.agg #[u, v, iv, bv, dv, pv, .int .i64 m.nx]] w fun e w' => ∃ u' v' i' b' d' p', e = .returned (.tuple #[.agg #[u', v', i', b', d', p', .int .i64 m.nx], .int .i64 (ff m.xs : Nat)]) ∧ MO w' (fun k => w.heap.size ≤ k) u' v' i' b' d' p' (takeB m) ∧ Below w.heap.size w w' := by
  have H := hide h
  have HG := hide hB
  have HW := hide hw
  obtain ⟨a1, c1, a2, c2, a3, c3, a4, c4, a5, c5, a6, c6, rfl, rfl, rfl, rfl, rfl, rfl⟩ := h.form
  clear h hB hw
  have HC : Hid (∀ W, Below ((w.alloc (.cells #[.slice a1 m.xs.length c1, .slice a2 m.ys.length c2, .slice a3 m.is.length c3, .slice a4 m.bs.length c4, .slice a5 m.fs.length c5, .slice a6 m.ds.length c6, .int .i64 m.nx] 40)).alloc (.cells noM 40)).heap.size ((w.alloc (.cells #[.slice a1 m.xs.length c1, .slice a2 m.ys.length c2, .slice a3 m.is.length c3, .slice a4 m.bs.length c4, .slice a5 m.fs.length c5, .slice a6 m.ds.length c6, .int .i64 m.nx] 40)).alloc (.cells noM 40)) W → AtC W (w.heap.size + 1) 40 noM ∧ Below w.heap.size w W ∧ w.heap.size + 1 + 1 ≤ W.heap.size) := fun W b2 => by
    have k1 := (AtC.new (w.alloc (.cells #[.slice a1 m.xs.length c1, .slice a2 m.ys.length c2, .slice a3 m.is.length c3, .slice a4 m.bs.length c4, .slice a5 m.fs.length c5, .slice a6 m.ds.length c6, .int .i64 m.nx] 40)) 40 noM).over b2
    have sz := b2.size
    simp at k1 sz
    exact ⟨k1, (((Below.refl _ w).alloc (Nat.le_refl _) _).alloc (by simp) _).trans (b2.mono (by simp; omega)), sz⟩
  go_enter Tryz.func10, Tryz.ntmps10
  go_wp2_with fail
  refine (newMem_any _ _ _ _ _ _ m _ (H.out.below (HC.out _ (Below.refl _ _)).2.1 (Nat.le_refl _)) HG.out HW.out).mono ?_
  rintro e w2 ⟨u1, u2, u3, u4, u5, u6, rfl, O2, B2⟩
  obtain ⟨b1, d1, b2, d2, b3, d3, b4, d4, b5, d5, b6, d6, rfl, rfl, rfl, rfl, rfl, rfl⟩ := O2.mr.form
  have hz2 := (HC.out w2 B2).2.2
  have O3 := (O2.mono (S' := fun k => w.heap.size + 1 + 1 ≤ k) (fun k hk => by simp at hk; omega)).bound
  have HS : Hid (AtC (w2.alloc (.cells #[.slice b1 m.xs.length d1, .slice b2 m.ys.length d2, .slice b3 m.is.length d3, .slice b4 m.bs.length d4, .slice b5 m.fs.length d5, .slice b6 m.ds.length d6, .int .i64 m.nx] 40)) (w.heap.size + 1) 40 noM ∧ AtC (w2.alloc (.cells #[.slice b1 m.xs.length d1, .slice b2 m.ys.length d2, .slice b3 m.is.length d3, .slice b4 m.bs.length d4, .slice b5 m.fs.length d5, .slice b6 m.ds.length d6, .int .i64 m.nx] 40)) w2.heap.size 40 #[.slice b1 m.xs.length d1, .slice b2 m.ys.length d2, .slice b3 m.is.length d3, .slice b4 m.bs.length d4, .slice b5 m.fs.length d5, .slice b6 m.ds.length d6, .int .i64 m.nx] ∧ MO (w2.alloc (.cells #[.slice b1 m.xs.length d1, .slice b2 m.ys.length d2, .slice b3 m.is.length d3, .slice b4 m.bs.length d4, .slice b5 m.fs.length d5, .slice b6 m.ds.length d6, .int .i64 m.nx] 40)) (fun k => w.heap.size + 1 + 1 ≤ k ∧ k < w2.heap.size) (.slice b1 m.xs.length d1) (.slice b2 m.ys.length d2) (.slice b3 m.is.length d3) (.slice b4 m.bs.length d4) (.slice b5 m.fs.length d5) (.slice b6 m.ds.length d6) m ∧ Below w.heap.size w (w2.alloc (.cells #[.slice b1 m.xs.length d1, .slice b2 m.ys.length d2, .slice b3 m.is.length d3, .slice b4 m.bs.length d4, .slice b5 m.fs.length d5, .slice b6 m.ds.length d6, .int .i64 m.nx] 40))) := by
    have q := HC.out (w2.alloc (.cells #[.slice b1 m.xs.length d1, .slice b2 m.ys.length d2, .slice b3 m.is.length d3, .slice b4 m.bs.length d4, .slice b5 m.fs.length d5, .slice b6 m.ds.length d6, .int .i64 m.nx] 40)) (B2.alloc B2.size _)
    exact ⟨q.1, AtC.new w2 40 _, O3.alloc _, q.2.1⟩
  clear O2 O3 B2
  go_wp2_with fail
  refine (takeBC_any w2.heap.size _ b1 b2 b3 b4 b5 b6 d1 d2 d3 d4 d5 d6 m _ HS.out.2.1 HS.out.2.2.1 (by omega) HG.out).mono ?_
  rintro e w6 ⟨rfl, M6, C6⟩
  have q9 : AtC w6 (w.heap.size + 1) 40 noM := (C6.block _ HS.out.1.lt (by omega)).trans HS.out.1
  have q8 : AtC w6 w2.heap.size 40 #[.slice b1 m.xs.length d1, .slice b2 m.ys.length d2, .slice b3 m.is.length d3, .slice b4 m.bs.length d4, .slice b5 m.fs.length d5, .slice b6 m.ds.length d6, .int .i64 m.nx] := (C6.block _ HS.out.2.1.lt (by omega)).trans HS.out.2.1
  have bel6 : Below w.heap.size w w6 := HS.out.2.2.2.trans (C6.below HS.out.2.2.2.size (fun k hk => by omega))
  have r0 : w6.cell? ⟨w.heap.size + 1, 0, none⟩ = some (.slice none 0 0) := q9.cell 0
  have v0 := q9.frozen 0
  have r1 : w6.cell? ⟨w.heap.size + 1, 1, none⟩ = some (.slice none 0 0) := q9.cell 1
  have v1 := q9.frozen 1
  have r2 : w6.cell? ⟨w.heap.size + 1, 2, none⟩ = some (.slice none 0 0) := q9.cell 2
  have v2 := q9.frozen 2
  have r3 : w6.cell? ⟨w.heap.size + 1, 3, none⟩ = some (.slice none 0 0) := q9.cell 3
  have v3 := q9.frozen 3
  have r4 : w6.cell? ⟨w.heap.size + 1, 4, none⟩ = some (.slice none 0 0) := q9.cell 4
  have v4 := q9.frozen 4
  have r5 : w6.cell? ⟨w.heap.size + 1, 5, none⟩ = some (.slice none 0 0) := q9.cell 5
  have v5 := q9.frozen 5
  have r6 : w6.cell? ⟨w.heap.size + 1, 6, none⟩ = some (.int .i64 0) := q9.cell 6
  have v6 := q9.frozen 6
  have y0 : w6.cell? ⟨w2.heap.size, 0, none⟩ = some (.slice b1 m.xs.length d1) := q8.cell 0
  have y1 : w6.cell? ⟨w2.heap.size, 1, none⟩ = some (.slice b2 m.ys.length d2) := q8.cell 1
  have y2 : w6.cell? ⟨w2.heap.size, 2, none⟩ = some (.slice b3 m.is.length d3) := q8.cell 2
  have y3 : w6.cell? ⟨w2.heap.size, 3, none⟩ = some (.slice b4 m.bs.length d4) := q8.cell 3
  have y4 : w6.cell? ⟨w2.heap.size, 4, none⟩ = some (.slice b5 m.fs.length d5) := q8.cell 4
  have y5 : w6.cell? ⟨w2.heap.size, 5, none⟩ = some (.slice b6 m.ds.length d6) := q8.cell 5
  have y6 : w6.cell? ⟨w2.heap.size, 6, none⟩ = some (.int .i64 m.nx) := q8.cell 6
  have HM : Hid (MO ((((((((w6.setCell ⟨w.heap.size + 1, 0, none⟩ (.slice b1 m.xs.length d1)).setCell ⟨w.heap.size + 1, 1, none⟩ (.slice b2 m.ys.length d2)).setCell ⟨w.heap.size + 1, 2, none⟩ (.slice b3 m.is.length d3)).setCell ⟨w.heap.size + 1, 3, none⟩ (.slice b4 m.bs.length d4)).setCell ⟨w.heap.size + 1, 4, none⟩ (.slice b5 m.fs.length d5)).setCell ⟨w.heap.size + 1, 5, none⟩ (.slice b6 m.ds.length d6)).setCell ⟨w.heap.size + 1, 6, none⟩ (.int .i64 m.nx))) (fun k => w.heap.size ≤ k) (.slice b1 m.xs.length d1) (.slice b2 m.ys.length d2) (.slice b3 m.is.length d3) (.slice b4 m.bs.length d4) (.slice b5 m.fs.length d5) (.slice b6 m.ds.length d6) (takeB m) ∧ Below w.heap.size w ((((((((w6.setCell ⟨w.heap.size + 1, 0, none⟩ (.slice b1 m.xs.length d1)).setCell ⟨w.heap.size + 1, 1, none⟩ (.slice b2 m.ys.length d2)).setCell ⟨w.heap.size + 1, 2, none⟩ (.slice b3 m.is.length d3)).setCell ⟨w.heap.size + 1, 3, none⟩ (.slice b4 m.bs.length d4)).setCell ⟨w.heap.size + 1, 4, none⟩ (.slice b5 m.fs.length d5)).setCell ⟨w.heap.size + 1, 5, none⟩ (.slice b6 m.ds.length d6)).setCell ⟨w.heap.size + 1, 6, none⟩ (.int .i64 m.nx)))) := ⟨(M6.of_heap fun k hk _ => ((((((heap_setCell_other _ ⟨w.heap.size + 1, 6, none⟩ k _ (by show k ≠ w.heap.size + 1; omega)).trans (heap_setCell_other _ ⟨w.heap.size + 1, 5, none⟩ k _ (by show k ≠ w.heap.size + 1; omega))).trans (heap_setCell_other _ ⟨w.heap.size + 1, 4, none⟩ k _ (by show k ≠ w.heap.size + 1; omega))).trans (heap_setCell_other _ ⟨w.heap.size + 1, 3, none⟩ k _ (by show k ≠ w.heap.size + 1; omega))).trans (heap_setCell_other _ ⟨w.heap.size + 1, 2, none⟩ k _ (by show k ≠ w.heap.size + 1; omega))).trans (heap_setCell_other _ ⟨w.heap.size + 1, 1, none⟩ k _ (by show k ≠ w.heap.size + 1; omega))).trans (heap_setCell_other _ ⟨w.heap.size + 1, 0, none⟩ k _ (by show k ≠ w.heap.size + 1; omega))).mono fun k hk => by omega, (((((((bel6).setCell (by simp) _).setCell (by simp) _).setCell (by simp) _).setCell (by simp) _).setCell (by simp) _).setCell (by simp) _).setCell (by simp) _⟩
  clear q9 q8 M6 C6 bel6 HS HC
  go_wp2
  refine bodyPost_ret (v := .tuple #[.agg #[.slice b1 m.xs.length d1, .slice b2 m.ys.length d2, .slice b3 m.is.length d3, .slice b4 m.bs.length d4, .slice b5 m.fs.length d5, .slice b6 m.ds.length d6, .int .i64 m.nx], .int .i64 (ff m.xs : Nat)]) (by simp [results, go_sem, r0, r1, r2, r3, r4, r5, r6]) rfl ⟨_, _, _, _, _, _, rfl, HM.out.1, HM.out.2⟩
set_option maxRecDepth 100000 in
set_option maxHeartbeats 3200000 in
theorem takeIC_any (b : Nat) (S : Nat → Prop) (b1 b2 b3 b4 b5 b6 : Option Addr) (d1 d2 d3 d4 d5 d6 : Nat) (m : MD) (w : World) (h : AtC w b 40 #[.slice b1 m.xs.length d1, .slice b2 m.ys.length d2, .slice b3 m.is.length d3, .slice b4 m.bs.length d4, .slice b5 m.fs.length d5, .slice b6 m.ds.length d6, .int .i64 m.nx]) (hm : MO w S (.slice b1 m.xs.length d1) (.slice b2 m.ys.length d2) (.slice b3 m.is.length d3) (.slice b4 m.bs.length d4) (.slice b5 m.fs.length d5) (.slice b6 m.ds.length d6) m) (hb : ¬ S b) (hB : BigM 1048576 m) :
    Calls Tryz.prog 34 #[.pointer (some ⟨b, 0, none⟩), .slice b2 m.ys.length d2] w fun e w' => e = .returned (.int .i64 (ff m.ys : Nat)) ∧ MO w' S (.slice b1 m.xs.length d1) (.slice b2 m.ys.length d2) (.slice b3 m.is.length d3) (.slice b4 m.bs.length d4) (.slice b5 m.fs.length d5) (.slice b6 m.ds.length d6) (takeI m) ∧ Chg S w w' := by
  have hxl : m.ys.length ≤ 1048576 := hB.d.y
  have HM := hide hm
  have HA := hide h
  have HB := hide hb
  have HG := hide hB
  clear hm h hb hB
  go_enter Tryz.func34, Tryz.ntmps34
  go_wp2_with fail
  refine (firstFreeI_any _ m.ys _ HM.out.mr.d.b hxl).mono ?_
  rintro e w3 ⟨rfl, rfl⟩
  rcases ff_or m.ys with ⟨hff, -⟩ | ⟨k, hk, hff, hkf, -⟩
  · have HFF := hide hff
    rw [hff]
    clear hff
    go_wp2
    go_ret
    have e : takeI m = m := by unfold takeI; rw [if_pos HFF.out]
    exact ⟨by rw [HFF.out]; rfl, by rw [e]; exact HM.out, Chg.refl _ _⟩
  · obtain ⟨S1, S2, S3, ts, k1, k2, k3, -, -, -, k7⟩ := HM.out
    obtain ⟨T1, T2, T3, ti, tb, z1, z2, -, -, -, -, z7⟩ := k1
    obtain ⟨g, cap, e1, k1c, k1f, -, hg, -⟩ := z1.b.at k (by rw [fc_length]; exact hk)
    rw [fc_length] at e1
    simp only [Value.slice.injEq, true_and] at e1
    obtain ⟨rfl, rfl⟩ := e1
    have k1d : w.cell? ⟨g, k, none⟩ = some (.bool false) := k1c.trans (by simp [fc, hk, hkf])
    have hgS : S g := k7 g (.inl (z7 g (.inl (z2 g (.inr rfl)))))
    have HX : Hid (∃ w5, w5 = w.setCell ⟨g, k, none⟩ (.bool true) ∧ AtC w5 b 40 #[.slice b1 m.xs.length d1, .slice (some ⟨g, 0, none⟩) m.ys.length d2, .slice b3 m.is.length d3, .slice b4 m.bs.length d4, .slice b5 m.fs.length d5, .slice b6 m.ds.length d6, .int .i64 m.nx] ∧ MO w5 S (.slice b1 m.xs.length d1) (.slice (some ⟨g, 0, none⟩) m.ys.length d2) (.slice b3 m.is.length d3) (.slice b4 m.bs.length d4) (.slice b5 m.fs.length d5) (.slice b6 m.ds.length d6) { m with ys := m.ys.set k true } ∧ Chg S w w5) := by
      have st := ROwns.stored (l := fc m.ys) (g := g) (cap := d2) (by rw [fc_length]; exact z1.b) k (.bool true)
      rw [fc_length, ← fc_set] at st
      have hne : b ≠ g := fun e => HB.out (e ▸ hgS)
      exact ⟨_, rfl, (heap_setCell_other _ ⟨g, k, none⟩ _ _ hne).trans HA.out, HM.out.turnY st.1 st.2, chg_of_grown st.2 (fun q hq => by cases hq; exact hgS)⟩
    have kn : ((ff m.ys : Nat) : Int) - 1 = (k : Int) := by omega
    have kp : (0 : Int) < ((ff m.ys : Nat) : Int) := by omega
    have kl : (k : Int) < (m.ys.length : Int) := by omega
    have kz : (0 : Int) ≤ (k : Int) := by omega
    have kb : ((ff m.ys : Nat) : Int) ≤ 1048576 := by omega
    clear k1c hkf z1 z2 z7 k2 k3 k7 hgS HM HA
    generalize hF : ff m.ys = F at *
    go_wp2_with fail
    obtain ⟨w5, hw5, q3, q4, q5⟩ := HX.out
    rw [← hw5]
    have hd5 : ROwns w5 0 4 (.slice b5 m.fs.length d5) (fc m.fs) ∧ ∀ k, (Value.slice b5 m.fs.length d5).ownBlock = some k → S k := by
      obtain ⟨S1', S2', S3', ts', -, p2, p3, -, -, -, p7⟩ := q4
      exact ⟨p2, fun k hk => p7 k (.inr (.inl (p3 k hk)))⟩
    refine (mark60_any b _ _ _ _ _ b5 d5 m.fs m.nx w5 q3 hd5.1).mono ?_
    rintro e w6 ⟨rfl, O6, G6⟩
    have HR : Hid (MO w6 S (.slice b1 m.xs.length d1) (.slice (some ⟨g, 0, none⟩) m.ys.length d2) (.slice b3 m.is.length d3) (.slice b4 m.bs.length d4) (.slice b5 m.fs.length d5) (.slice b6 m.ds.length d6) (takeI m) ∧ Chg S w w6) := by
      have e : takeI m = { m with ys := m.ys.set k true, fs := m.fs.set 0 true } := by
        unfold takeI
        rw [hF, if_neg (by omega), show F - 1 = k by omega]
      rw [e]
      exact ⟨q4.turnF O6 G6, q5.trans (chg_of_grown G6 hd5.2)⟩
    clear q3 q4 q5 O6 G6 hd5 HX k1d k1f hw5
    go_wp2
    go_ret
    exact ⟨by rw [hF, hff]; rfl, HR.out.1, HR.out.2⟩
set_option maxRecDepth 100000 in
set_option maxHeartbeats 3200000 in
theorem takeII_any (u v iv bv dv pv : Value) (m : MD) (w : World) (h : MR w u v iv bv dv pv m) (hB : BigM 1048576 m) (hw : ∀ (j : Nat) (h : j < m.ds.length), (Lit.int .i64 m.ds[j].id).wf = true) :
    Calls Tryz.prog 15 #[.agg #[u, v, iv, bv, dv, pv, .int .i64 m.nx]] w fun e w' => ∃ u' v' i' b' d' p', e = .returned (.tuple #[.agg #[u', v', i', b', d', p', .int .i64 m.nx], .int .i64 (ff m.ys : Nat)]) ∧ MO w' (fun k => w.heap.size ≤ k) u' v' i' b' d' p' (takeI m) ∧ Below w.heap.size w w' := by
  have H := hide h
  have HG := hide hB
  have HW := hide hw
  obtain ⟨a1, c1, a2, c2, a3, c3, a4, c4, a5, c5, a6, c6, rfl, rfl, rfl, rfl, rfl, rfl⟩ := h.form
  clear h hB hw
  have HC : Hid (∀ W, Below ((w.alloc (.cells #[.slice a1 m.xs.length c1, .slice a2 m.ys.length c2, .slice a3 m.is.length c3, .slice a4 m.bs.length c4, .slice a5 m.fs.length c5, .slice a6 m.ds.length c6, .int .i64 m.nx] 40)).alloc (.cells noM 40)).heap.size ((w.alloc (.cells #[.slice a1 m.xs.length c1, .slice a2 m.ys.length c2, .slice a3 m.is.length c3, .slice a4 m.bs.length c4, .slice a5 m.fs.length c5, .slice a6 m.ds.length c6, .int .i64 m.nx] 40)).alloc (.cells noM 40)) W → AtC W (w.heap.size + 1) 40 noM ∧ Below w.heap.size w W ∧ w.heap.size + 1 + 1 ≤ W.heap.size) := fun W b2 => by
    have k1 := (AtC.new (w.alloc (.cells #[.slice a1 m.xs.length c1, .slice a2 m.ys.length c2, .slice a3 m.is.length c3, .slice a4 m.bs.length c4, .slice a5 m.fs.length c5, .slice a6 m.ds.length c6, .int .i64 m.nx] 40)) 40 noM).over b2
    have sz := b2.size
    simp at k1 sz
    exact ⟨k1, (((Below.refl _ w).alloc (Nat.le_refl _) _).alloc (by simp) _).trans (b2.mono (by simp; omega)), sz⟩
  go_enter Tryz.func15, Tryz.ntmps15
  go_wp2_with fail
  refine (newMem_any _ _ _ _ _ _ m _ (H.out.below (HC.out _ (Below.refl _ _)).2.1 (Nat.le_refl _)) HG.out HW.out).mono ?_
  rintro e w2 ⟨u1, u2, u3, u4, u5, u6, rfl, O2, B2⟩
  obtain ⟨b1, d1, b2, d2, b3, d3, b4, d4, b5, d5, b6, d6, rfl, rfl, rfl, rfl, rfl, rfl⟩ := O2.mr.form
  have hz2 := (HC.out w2 B2).2.2
  have O3 := (O2.mono (S' := fun k => w.heap.size + 1 + 1 ≤ k) (fun k hk => by simp at hk; omega)).bound
  have HS : Hid (AtC (w2.alloc (.cells #[.slice b1 m.xs.length d1, .slice b2 m.ys.length d2, .slice b3 m.is.length d3, .slice b4 m.bs.length d4, .slice b5 m.fs.length d5, .slice b6 m.ds.length d6, .int .i64 m.nx] 40)) (w.heap.size + 1) 40 noM ∧ AtC (w2.alloc (.cells #[.slice b1 m.xs.length d1, .slice b2 m.ys.length d2, .slice b3 m.is.length d3, .slice b4 m.bs.length d4, .slice b5 m.fs.length d5, .slice b6 m.ds.length d6, .int .i64 m.nx] 40)) w2.heap.size 40 #[.slice b1 m.xs.length d1, .slice b2 m.ys.length d2, .slice b3 m.is.length d3, .slice b4 m.bs.length d4, .slice b5 m.fs.length d5, .slice b6 m.ds.length d6, .int .i64 m.nx] ∧ MO (w2.alloc (.cells #[.slice b1 m.xs.length d1, .slice b2 m.ys.length d2, .slice b3 m.is.length d3, .slice b4 m.bs.length d4, .slice b5 m.fs.length d5, .slice b6 m.ds.length d6, .int .i64 m.nx] 40)) (fun k => w.heap.size + 1 + 1 ≤ k ∧ k < w2.heap.size) (.slice b1 m.xs.length d1) (.slice b2 m.ys.length d2) (.slice b3 m.is.length d3) (.slice b4 m.bs.length d4) (.slice b5 m.fs.length d5) (.slice b6 m.ds.length d6) m ∧ Below w.heap.size w (w2.alloc (.cells #[.slice b1 m.xs.length d1, .slice b2 m.ys.length d2, .slice b3 m.is.length d3, .slice b4 m.bs.length d4, .slice b5 m.fs.length d5, .slice b6 m.ds.length d6, .int .i64 m.nx] 40))) := by
    have q := HC.out (w2.alloc (.cells #[.slice b1 m.xs.length d1, .slice b2 m.ys.length d2, .slice b3 m.is.length d3, .slice b4 m.bs.length d4, .slice b5 m.fs.length d5, .slice b6 m.ds.length d6, .int .i64 m.nx] 40)) (B2.alloc B2.size _)
    exact ⟨q.1, AtC.new w2 40 _, O3.alloc _, q.2.1⟩
  clear O2 O3 B2
  go_wp2_with fail
  refine (takeIC_any w2.heap.size _ b1 b2 b3 b4 b5 b6 d1 d2 d3 d4 d5 d6 m _ HS.out.2.1 HS.out.2.2.1 (by omega) HG.out).mono ?_
  rintro e w6 ⟨rfl, M6, C6⟩
  have q9 : AtC w6 (w.heap.size + 1) 40 noM := (C6.block _ HS.out.1.lt (by omega)).trans HS.out.1
  have q8 : AtC w6 w2.heap.size 40 #[.slice b1 m.xs.length d1, .slice b2 m.ys.length d2, .slice b3 m.is.length d3, .slice b4 m.bs.length d4, .slice b5 m.fs.length d5, .slice b6 m.ds.length d6, .int .i64 m.nx] := (C6.block _ HS.out.2.1.lt (by omega)).trans HS.out.2.1
  have bel6 : Below w.heap.size w w6 := HS.out.2.2.2.trans (C6.below HS.out.2.2.2.size (fun k hk => by omega))
  have r0 : w6.cell? ⟨w.heap.size + 1, 0, none⟩ = some (.slice none 0 0) := q9.cell 0
  have v0 := q9.frozen 0
  have r1 : w6.cell? ⟨w.heap.size + 1, 1, none⟩ = some (.slice none 0 0) := q9.cell 1
  have v1 := q9.frozen 1
  have r2 : w6.cell? ⟨w.heap.size + 1, 2, none⟩ = some (.slice none 0 0) := q9.cell 2
  have v2 := q9.frozen 2
  have r3 : w6.cell? ⟨w.heap.size + 1, 3, none⟩ = some (.slice none 0 0) := q9.cell 3
  have v3 := q9.frozen 3
  have r4 : w6.cell? ⟨w.heap.size + 1, 4, none⟩ = some (.slice none 0 0) := q9.cell 4
  have v4 := q9.frozen 4
  have r5 : w6.cell? ⟨w.heap.size + 1, 5, none⟩ = some (.slice none 0 0) := q9.cell 5
  have v5 := q9.frozen 5
  have r6 : w6.cell? ⟨w.heap.size + 1, 6, none⟩ = some (.int .i64 0) := q9.cell 6
  have v6 := q9.frozen 6
  have y0 : w6.cell? ⟨w2.heap.size, 0, none⟩ = some (.slice b1 m.xs.length d1) := q8.cell 0
  have y1 : w6.cell? ⟨w2.heap.size, 1, none⟩ = some (.slice b2 m.ys.length d2) := q8.cell 1
  have y2 : w6.cell? ⟨w2.heap.size, 2, none⟩ = some (.slice b3 m.is.length d3) := q8.cell 2
  have y3 : w6.cell? ⟨w2.heap.size, 3, none⟩ = some (.slice b4 m.bs.length d4) := q8.cell 3
  have y4 : w6.cell? ⟨w2.heap.size, 4, none⟩ = some (.slice b5 m.fs.length d5) := q8.cell 4
  have y5 : w6.cell? ⟨w2.heap.size, 5, none⟩ = some (.slice b6 m.ds.length d6) := q8.cell 5
  have y6 : w6.cell? ⟨w2.heap.size, 6, none⟩ = some (.int .i64 m.nx) := q8.cell 6
  have HM : Hid (MO ((((((((w6.setCell ⟨w.heap.size + 1, 0, none⟩ (.slice b1 m.xs.length d1)).setCell ⟨w.heap.size + 1, 1, none⟩ (.slice b2 m.ys.length d2)).setCell ⟨w.heap.size + 1, 2, none⟩ (.slice b3 m.is.length d3)).setCell ⟨w.heap.size + 1, 3, none⟩ (.slice b4 m.bs.length d4)).setCell ⟨w.heap.size + 1, 4, none⟩ (.slice b5 m.fs.length d5)).setCell ⟨w.heap.size + 1, 5, none⟩ (.slice b6 m.ds.length d6)).setCell ⟨w.heap.size + 1, 6, none⟩ (.int .i64 m.nx))) (fun k => w.heap.size ≤ k) (.slice b1 m.xs.length d1) (.slice b2 m.ys.length d2) (.slice b3 m.is.length d3) (.slice b4 m.bs.length d4) (.slice b5 m.fs.length d5) (.slice b6 m.ds.length d6) (takeI m) ∧ Below w.heap.size w ((((((((w6.setCell ⟨w.heap.size + 1, 0, none⟩ (.slice b1 m.xs.length d1)).setCell ⟨w.heap.size + 1, 1, none⟩ (.slice b2 m.ys.length d2)).setCell ⟨w.heap.size + 1, 2, none⟩ (.slice b3 m.is.length d3)).setCell ⟨w.heap.size + 1, 3, none⟩ (.slice b4 m.bs.length d4)).setCell ⟨w.heap.size + 1, 4, none⟩ (.slice b5 m.fs.length d5)).setCell ⟨w.heap.size + 1, 5, none⟩ (.slice b6 m.ds.length d6)).setCell ⟨w.heap.size + 1, 6, none⟩ (.int .i64 m.nx)))) := ⟨(M6.of_heap fun k hk _ => ((((((heap_setCell_other _ ⟨w.heap.size + 1, 6, none⟩ k _ (by show k ≠ w.heap.size + 1; omega)).trans (heap_setCell_other _ ⟨w.heap.size + 1, 5, none⟩ k _ (by show k ≠ w.heap.size + 1; omega))).trans (heap_setCell_other _ ⟨w.heap.size + 1, 4, none⟩ k _ (by show k ≠ w.heap.size + 1; omega))).trans (heap_setCell_other _ ⟨w.heap.size + 1, 3, none⟩ k _ (by show k ≠ w.heap.size + 1; omega))).trans (heap_setCell_other _ ⟨w.heap.size + 1, 2, none⟩ k _ (by show k ≠ w.heap.size + 1; omega))).trans (heap_setCell_other _ ⟨w.heap.size + 1, 1, none⟩ k _ (by show k ≠ w.heap.size + 1; omega))).trans (heap_setCell_other _ ⟨w.heap.size + 1, 0, none⟩ k _ (by show k ≠ w.heap.size + 1; omega))).mono fun k hk => by omega, (((((((bel6).setCell (by simp) _).setCell (by simp) _).setCell (by simp) _).setCell (by simp) _).setCell (by simp) _).setCell (by simp) _).setCell (by simp) _⟩
  clear q9 q8 M6 C6 bel6 HS HC
  go_wp2
  refine bodyPost_ret (v := .tuple #[.agg #[.slice b1 m.xs.length d1, .slice b2 m.ys.length d2, .slice b3 m.is.length d3, .slice b4 m.bs.length d4, .slice b5 m.fs.length d5, .slice b6 m.ds.length d6, .int .i64 m.nx], .int .i64 (ff m.ys : Nat)]) (by simp [results, go_sem, r0, r1, r2, r3, r4, r5, r6]) rfl ⟨_, _, _, _, _, _, rfl, HM.out.1, HM.out.2⟩
end Go.Proofs.YtggjillpfclajaaGreat
