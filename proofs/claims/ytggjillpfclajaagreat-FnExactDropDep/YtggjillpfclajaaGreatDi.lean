/- impl.DropDep by its contract. -/
import Derived.Test.YtggjillpfclajaaGreatNm
import Derived.Test.YtggjillpfclajaaGreatDl
namespace Go.Proofs.YtggjillpfclajaaGreat
open Go.RowKit Kit Go.Maps
/-- Those that lean, without one Id. -/
def dropDs (id : Int) (ds : List Dp) : List Dp := ds.filter fun d => !decide (d.id = id)
set_option maxRecDepth 100000 in
set_option maxHeartbeats 3200000 in
theorem dropI_any (id : Int) (hid : (Lit.int .i64 id).wf = true) (u v iv bv dv pv : Value) (m : MD) (w : World) (h : MR w u v iv bv dv pv m) (hB : BigM 1048576 m) (hw : ∀ (j : Nat) (h : j < m.ds.length), (Lit.int .i64 m.ds[j].id).wf = true) :
    Calls Tryz.prog 23 #[.agg #[u, v, iv, bv, dv, pv, .int .i64 m.nx], .int .i64 id] w fun e w' => ∃ u' v' i' b' d' p', e = .returned (.agg #[u', v', i', b', d', p', .int .i64 m.nx]) ∧ MO w' (fun k => w.heap.size ≤ k) u' v' i' b' d' p' { m with ds := dropDs id m.ds } ∧ Below w.heap.size w w' := by
  have H := hide h
  have HG := hide hB
  have HW := hide hw
  have HID := hide hid
  obtain ⟨a1, c1, a2, c2, a3, c3, a4, c4, a5, c5, a6, c6, rfl, rfl, rfl, rfl, rfl, rfl⟩ := h.form
  clear h hB hw hid
  have HC : Hid (∀ W, Below ((w.alloc (.cells #[.slice a1 m.xs.length c1, .slice a2 m.ys.length c2, .slice a3 m.is.length c3, .slice a4 m.bs.length c4, .slice a5 m.fs.length c5, .slice a6 m.ds.length c6, .int .i64 m.nx] 40)).alloc (.cells noM 40)).heap.size ((w.alloc (.cells #[.slice a1 m.xs.length c1, .slice a2 m.ys.length c2, .slice a3 m.is.length c3, .slice a4 m.bs.length c4, .slice a5 m.fs.length c5, .slice a6 m.ds.length c6, .int .i64 m.nx] 40)).alloc (.cells noM 40)) W → AtC W w.heap.size 40 #[.slice a1 m.xs.length c1, .slice a2 m.ys.length c2, .slice a3 m.is.length c3, .slice a4 m.bs.length c4, .slice a5 m.fs.length c5, .slice a6 m.ds.length c6, .int .i64 m.nx] ∧ AtC W (w.heap.size + 1) 40 noM ∧ Below w.heap.size w W ∧ w.heap.size + 1 + 1 ≤ W.heap.size) := fun W b2 => by
    have k1 := (AtC.new (w.alloc (.cells #[.slice a1 m.xs.length c1, .slice a2 m.ys.length c2, .slice a3 m.is.length c3, .slice a4 m.bs.length c4, .slice a5 m.fs.length c5, .slice a6 m.ds.length c6, .int .i64 m.nx] 40)) 40 noM).over b2
    have sz := b2.size
    simp at k1 sz
    exact ⟨((AtC.new w 40 _).alloc _).over b2, k1, (((Below.refl _ w).alloc (Nat.le_refl _) _).alloc (by simp) _).trans (b2.mono (by simp; omega)), sz⟩
  go_enter Tryz.func23, Tryz.ntmps23
  go_wp2_with fail
  refine (leanersOf_any _ m.ds _ ((H.out.p.below (HC.out _ (Below.refl _ _)).2.2.1 (Nat.le_refl _))) HG.out.l HG.out.b HG.out.t HW.out).mono ?_
  rintro e w2 ⟨B, E, ps, rfl, O2, F2, G2, B2⟩
  obtain ⟨D, m1, m2, m3⟩ := O2.map
  have HB2 := hide B2
  have HO2 := hide (And.intro O2 (And.intro F2 (And.intro G2 (And.intro m2 m3))))
  clear O2 F2 G2 m2 m3 B2
  obtain ⟨w5, hrun5, o5, t5⟩ := m1.drop (int_keyed Tryz.u3) Tryz.u78 (keyOf_int_mk Tryz.u3 HID.out) 0
  have HD : Hid (Below ((w.alloc (.cells #[.slice a1 m.xs.length c1, .slice a2 m.ys.length c2, .slice a3 m.is.length c3, .slice a4 m.bs.length c4, .slice a5 m.fs.length c5, .slice a6 m.ds.length c6, .int .i64 m.nx] 40)).alloc (.cells noM 40)).heap.size ((w.alloc (.cells #[.slice a1 m.xs.length c1, .slice a2 m.ys.length c2, .slice a3 m.is.length c3, .slice a4 m.bs.length c4, .slice a5 m.fs.length c5, .slice a6 m.ds.length c6, .int .i64 m.nx] 40)).alloc (.cells noM 40)) w5 ∧ ∃ E' ps', LEN Tryz.prog w5 ((w.alloc (.cells #[.slice a1 m.xs.length c1, .slice a2 m.ys.length c2, .slice a3 m.is.length c3, .slice a4 m.bs.length c4, .slice a5 m.fs.length c5, .slice a6 m.ds.length c6, .int .i64 m.nx] 40)).alloc (.cells noM 40)).heap.size B E' ps' E.length ∧ E'.map (·.d) = dropDs id m.ds ∧ (∀ i j : Fin E'.length, i < j → E'[i].pl < E'[j].pl) ∧ E'.length ≤ 1048576) := by
    obtain ⟨O2, F2, G2, m2, m3⟩ := HO2.out
    obtain ⟨ps', q1, q2⟩ := O2.del (id := id) rfl ⟨m2, m3⟩ o5 t5.grown
    refine ⟨HB2.out.grown t5.grown HB2.out.size (fun k hk => by cases hk; exact O2.loB), _, ps', q1, ?_, q2 (asc G2), ?_⟩
    · rw [← F2]
      simp only [dropDs, List.filter_map]
      rfl
    · have q3 := HG.out.l
      rw [← F2, List.length_map] at q3
      exact Nat.le_trans (List.length_filter_le _ _) q3
  obtain ⟨E', ps', L5, F5, G5, N5⟩ := HD.out.2
  have kA := (HC.out w5 HD.out.1).1
  have x0 : w5.cell? ⟨w.heap.size, 0, none⟩ = some (.slice a1 m.xs.length c1) := kA.cell 0
  have x1 : w5.cell? ⟨w.heap.size, 1, none⟩ = some (.slice a2 m.ys.length c2) := kA.cell 1
  have x2 : w5.cell? ⟨w.heap.size, 2, none⟩ = some (.slice a3 m.is.length c3) := kA.cell 2
  have x3 : w5.cell? ⟨w.heap.size, 3, none⟩ = some (.slice a4 m.bs.length c4) := kA.cell 3
  have x4 : w5.cell? ⟨w.heap.size, 4, none⟩ = some (.slice a5 m.fs.length c5) := kA.cell 4
  have x5 : w5.cell? ⟨w.heap.size, 5, none⟩ = some (.slice a6 m.ds.length c6) := kA.cell 5
  have x6 : w5.cell? ⟨w.heap.size, 6, none⟩ = some (.int .i64 m.nx) := kA.cell 6
  have HL5 := hide L5
  clear L5 kA o5 t5 HO2
  go_wp2_with fail
  refine (memWith_any _ B E' ps' _ _ _ _ _ _ m w5 (H.out.below (HC.out w5 HD.out.1).2.2.1 (Nat.le_refl _)) HG.out HL5.out G5 N5 HD.out.1.size).mono ?_
  rintro e w9 ⟨u1, u2, u3, u4, u5, u6, rfl, O9, B9⟩
  rw [F5] at O9
  obtain ⟨b1, d1, b2, d2, b3, d3, b4, d4, b5, d5, b6, d6, rfl, rfl, rfl, rfl, rfl, rfl⟩ := O9.mr.form
  have q9 := HC.out w9 (HD.out.1.trans (B9.mono HD.out.1.size))
  have kR := q9.2.1
  have r0 : w9.cell? ⟨w.heap.size + 1, 0, none⟩ = some (.slice none 0 0) := kR.cell 0
  have v0 := kR.frozen 0
  have r1 : w9.cell? ⟨w.heap.size + 1, 1, none⟩ = some (.slice none 0 0) := kR.cell 1
  have v1 := kR.frozen 1
  have r2 : w9.cell? ⟨w.heap.size + 1, 2, none⟩ = some (.slice none 0 0) := kR.cell 2
  have v2 := kR.frozen 2
  have r3 : w9.cell? ⟨w.heap.size + 1, 3, none⟩ = some (.slice none 0 0) := kR.cell 3
  have v3 := kR.frozen 3
  have r4 : w9.cell? ⟨w.heap.size + 1, 4, none⟩ = some (.slice none 0 0) := kR.cell 4
  have v4 := kR.frozen 4
  have r5 : w9.cell? ⟨w.heap.size + 1, 5, none⟩ = some (.slice none 0 0) := kR.cell 5
  have v5 := kR.frozen 5
  have r6 : w9.cell? ⟨w.heap.size + 1, 6, none⟩ = some (.int .i64 0) := kR.cell 6
  have v6 := kR.frozen 6
  have HM : Hid (MO ((((((((w9.setCell ⟨w.heap.size + 1, 0, none⟩ (.slice b1 m.xs.length d1)).setCell ⟨w.heap.size + 1, 1, none⟩ (.slice b2 m.ys.length d2)).setCell ⟨w.heap.size + 1, 2, none⟩ (.slice b3 m.is.length d3)).setCell ⟨w.heap.size + 1, 3, none⟩ (.slice b4 m.bs.length d4)).setCell ⟨w.heap.size + 1, 4, none⟩ (.slice b5 m.fs.length d5)).setCell ⟨w.heap.size + 1, 5, none⟩ (.slice b6 (dropDs id m.ds).length d6)).setCell ⟨w.heap.size + 1, 6, none⟩ (.int .i64 m.nx))) (fun k => w.heap.size ≤ k) (.slice b1 m.xs.length d1) (.slice b2 m.ys.length d2) (.slice b3 m.is.length d3) (.slice b4 m.bs.length d4) (.slice b5 m.fs.length d5) (.slice b6 (dropDs id m.ds).length d6) { m with ds := dropDs id m.ds } ∧ Below w.heap.size w ((((((((w9.setCell ⟨w.heap.size + 1, 0, none⟩ (.slice b1 m.xs.length d1)).setCell ⟨w.heap.size + 1, 1, none⟩ (.slice b2 m.ys.length d2)).setCell ⟨w.heap.size + 1, 2, none⟩ (.slice b3 m.is.length d3)).setCell ⟨w.heap.size + 1, 3, none⟩ (.slice b4 m.bs.length d4)).setCell ⟨w.heap.size + 1, 4, none⟩ (.slice b5 m.fs.length d5)).setCell ⟨w.heap.size + 1, 5, none⟩ (.slice b6 (dropDs id m.ds).length d6)).setCell ⟨w.heap.size + 1, 6, none⟩ (.int .i64 m.nx)))) := by
    have O10 := O9.mono (S' := fun k => w.heap.size + 1 + 1 ≤ k) (fun k hk => by simp at hk; omega)
    exact ⟨(O10.of_heap fun k hk _ => ((((((heap_setCell_other _ ⟨w.heap.size + 1, 6, none⟩ k _ (by show k ≠ w.heap.size + 1; omega)).trans (heap_setCell_other _ ⟨w.heap.size + 1, 5, none⟩ k _ (by show k ≠ w.heap.size + 1; omega))).trans (heap_setCell_other _ ⟨w.heap.size + 1, 4, none⟩ k _ (by show k ≠ w.heap.size + 1; omega))).trans (heap_setCell_other _ ⟨w.heap.size + 1, 3, none⟩ k _ (by show k ≠ w.heap.size + 1; omega))).trans (heap_setCell_other _ ⟨w.heap.size + 1, 2, none⟩ k _ (by show k ≠ w.heap.size + 1; omega))).trans (heap_setCell_other _ ⟨w.heap.size + 1, 1, none⟩ k _ (by show k ≠ w.heap.size + 1; omega))).trans (heap_setCell_other _ ⟨w.heap.size + 1, 0, none⟩ k _ (by show k ≠ w.heap.size + 1; omega))).mono fun k hk => by omega, (((((((q9.2.2.1).setCell (by simp) _).setCell (by simp) _).setCell (by simp) _).setCell (by simp) _).setCell (by simp) _).setCell (by simp) _).setCell (by simp) _⟩
  clear q9 kR O9 B9 HL5
  go_wp2
  refine bodyPost_ret (v := .agg #[.slice b1 m.xs.length d1, .slice b2 m.ys.length d2, .slice b3 m.is.length d3, .slice b4 m.bs.length d4, .slice b5 m.fs.length d5, .slice b6 (dropDs id m.ds).length d6, .int .i64 m.nx]) (by simp [results, go_sem, r0, r1, r2, r3, r4, r5, r6]) rfl ⟨_, _, _, _, _, _, rfl, HM.out.1, HM.out.2⟩
end Go.Proofs.YtggjillpfclajaaGreat
