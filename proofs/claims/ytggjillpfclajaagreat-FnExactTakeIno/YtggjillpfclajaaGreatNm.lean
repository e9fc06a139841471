/- A memory of its own: impl.newMem by its contract. -/
import Derived.Test.YtggjillpfclajaaGreatMw
import Derived.Test.YtggjillpfclajaaGreatLo
namespace Go.Proofs.YtggjillpfclajaaGreat.Kit
open Go.RowKit Go.Maps
/-- The leaners of a list. -/
def MkWl (P : Program) (k : Nat) (ds : List Dp) : Mk := .val [k] (fun lo hi w v => ∃ B E ps, v = .map (some B) ∧ LE P w lo B E ps ∧ E.map (·.d) = ds ∧ ∀ (j : Nat) (h : j < E.length), E[j].pl = j)
  (fun _ _ _ _ _ h hb => by obtain ⟨B, E, ps, h1, h2, h3⟩ := h; exact ⟨B, E, ps, h1, h2.below hb, h3⟩)
/-- A memory of its own. -/
def MkWm (k l N : Nat) (m : MD) : Mk := .val [k, l] (fun lo hi w v => ∃ a1 c1 a2 c2 a3 c3 a4 c4 a5 c5 a6 c6, v = .agg #[.slice a1 m.xs.length c1, .slice a2 m.ys.length c2, .slice a3 m.is.length c3, .slice a4 m.bs.length c4, .slice a5 m.fs.length c5, .slice a6 m.ds.length c6, .int .i64 m.nx] ∧ MO w (fun k => N ≤ k) (.slice a1 m.xs.length c1) (.slice a2 m.ys.length c2) (.slice a3 m.is.length c3) (.slice a4 m.bs.length c4) (.slice a5 m.fs.length c5) (.slice a6 m.ds.length c6) m)
  (fun _ _ _ _ _ h hb => by obtain ⟨a1, c1, a2, c2, a3, c3, a4, c4, a5, c5, a6, c6, h1, h2⟩ := h; exact ⟨a1, c1, a2, c2, a3, c3, a4, c4, a5, c5, a6, c6, h1, h2.below hb (Nat.le_refl _)⟩)
/-- The places of those in a list ascend. -/
theorem asc {E : List Ln} (h : ∀ (j : Nat) (h : j < E.length), E[j].pl = j) : ∀ i j : Fin E.length, i < j → E[i].pl < E[j].pl := fun i j hij => by
  have h1 := h i i.2
  have h2 := h j j.2
  show E[i.1].pl < E[j.1].pl
  rw [h1, h2]
  exact hij
end Go.Proofs.YtggjillpfclajaaGreat.Kit
namespace Go.Proofs.YtggjillpfclajaaGreat
open Go.RowKit Kit Go.Maps
set_option maxRecDepth 100000 in
set_option maxHeartbeats 3200000 in
theorem newMem_any (u v iv bv dv pv : Value) (m : MD) (w : World) (h : MR w u v iv bv dv pv m) (hB : BigM 1048576 m) (hw : ∀ (j : Nat) (h : j < m.ds.length), (Lit.int .i64 m.ds[j].id).wf = true) :
    Calls Tryz.prog 33 #[.agg #[u, v, iv, bv, dv, pv, .int .i64 m.nx]] w fun e w' => ∃ u' v' i' b' d' p', e = .returned (.agg #[u', v', i', b', d', p', .int .i64 m.nx]) ∧ MO w' (fun k => w.heap.size ≤ k) u' v' i' b' d' p' m ∧ Below w.heap.size w w' := by
  have H := hide h
  have HG := hide hB
  have HW := hide hw
  obtain ⟨a1, c1, a2, c2, a3, c3, a4, c4, a5, c5, a6, c6, rfl, rfl, rfl, rfl, rfl, rfl⟩ := h.form
  clear h hB hw
  go_enter Tryz.func33, Tryz.ntmps33
  go_wp2_with fail
  have HC : Hid (∀ W, Below ((w.alloc (.cells #[.slice a1 m.xs.length c1, .slice a2 m.ys.length c2, .slice a3 m.is.length c3, .slice a4 m.bs.length c4, .slice a5 m.fs.length c5, .slice a6 m.ds.length c6, .int .i64 m.nx] 40)).alloc (.cells noM 40)).drew.heap.size ((w.alloc (.cells #[.slice a1 m.xs.length c1, .slice a2 m.ys.length c2, .slice a3 m.is.length c3, .slice a4 m.bs.length c4, .slice a5 m.fs.length c5, .slice a6 m.ds.length c6, .int .i64 m.nx] 40)).alloc (.cells noM 40)).drew W → AtC W w.heap.size 40 #[.slice a1 m.xs.length c1, .slice a2 m.ys.length c2, .slice a3 m.is.length c3, .slice a4 m.bs.length c4, .slice a5 m.fs.length c5, .slice a6 m.ds.length c6, .int .i64 m.nx] ∧ AtC W (w.heap.size + 1) 40 noM ∧ Below w.heap.size w W ∧ w.heap.size + 1 + 1 ≤ W.heap.size) := fun W b => by
    have b2 := of_drew b
    have k1 := (AtC.new (w.alloc (.cells #[.slice a1 m.xs.length c1, .slice a2 m.ys.length c2, .slice a3 m.is.length c3, .slice a4 m.bs.length c4, .slice a5 m.fs.length c5, .slice a6 m.ds.length c6, .int .i64 m.nx] 40)) 40 noM).over b2
    have sz := b2.size
    simp at k1 sz
    exact ⟨((AtC.new w 40 _).alloc _).over b2, k1, (((Below.refl _ w).alloc (Nat.le_refl _) _).alloc (by simp) _).trans (b2.mono (by simp; omega)), sz⟩
  refine wp_region_frm (by kernel_rfl) [0, 1, 2, 3, 4] [5] (fun i => match i with | 0 => .const [] (.agg #[.slice a1 m.xs.length c1, .slice a2 m.ys.length c2, .slice a3 m.is.length c3, .slice a4 m.bs.length c4, .slice a5 m.fs.length c5, .slice a6 m.ds.length c6, .int .i64 m.nx]) | 1 => .const [] (.pointer (some ⟨w.heap.size, 5, none⟩)) | 2 => .const [1] (.slice a6 m.ds.length c6) | 3 => MkWl Tryz.prog 2 m.ds | 4 => MkWm 0 3 (w.heap.size + 1 + 1) m | _ => .triv) (fun x => ⟨#[Value.agg #[Value.slice a1 m.xs.length c1, Value.slice a2 m.ys.length c2, Value.slice a3 m.is.length c3, Value.slice a4 m.bs.length c4, Value.slice a5 m.fs.length c5, Value.slice a6 m.ds.length c6, Value.int IntKind.i64 m.nx], Value.pointer (some { block := w.heap.size, off := 0 }), Value.pointer (some { block := w.heap.size + 1, off := 0 }), x 0, x 1, x 2, x 3, x 4], []⟩) (fun i => match i with | 0 => undef | 1 => undef | 2 => undef | 3 => undef | 4 => undef | _ => undef) rfl (by kernel_rfl) (by kernel_rfl) (by kernel_rfl) rfl ?_ ?_
  · intro jo hj so x iw W hd hp K hK
    simp only [List.mem_cons, List.not_mem_nil, or_false] at hj
    rcases hj with rfl | rfl | rfl | rfl | rfl
    · refine wpOp_step (o := _) rfl fun K' hK' => ?_
      have HK : Hid (∀ v W', Below W.heap.size W W' → ((Mk.const [] (.agg #[.slice a1 m.xs.length c1, .slice a2 m.ys.length c2, .slice a3 m.is.length c3, .slice a4 m.bs.length c4, .slice a5 m.fs.length c5, .slice a6 m.ds.length c6, .int .i64 m.nx]) : Mk)).P W.heap.size W'.heap.size W' v (upd x 0 v) → K' ⟨#[Value.agg #[Value.slice a1 m.xs.length c1, Value.slice a2 m.ys.length c2, Value.slice a3 m.is.length c3, Value.slice a4 m.bs.length c4, Value.slice a5 m.fs.length c5, Value.slice a6 m.ds.length c6, Value.int IntKind.i64 m.nx], Value.pointer (some { block := w.heap.size, off := 0 }), Value.pointer (some { block := w.heap.size + 1, off := 0 }), v, x 1, x 2, x 3, x 4], []⟩ W') := fun v W' h1 h2 => hK' _ _ (hK v W' h1 h2)
      have k0 := (HC.out W hp.bel).1
      have q0 : W.cell? ⟨w.heap.size, 0, none⟩ = some (.slice a1 m.xs.length c1) := k0.cell 0
      have q1 : W.cell? ⟨w.heap.size, 1, none⟩ = some (.slice a2 m.ys.length c2) := k0.cell 1
      have q2 : W.cell? ⟨w.heap.size, 2, none⟩ = some (.slice a3 m.is.length c3) := k0.cell 2
      have q3 : W.cell? ⟨w.heap.size, 3, none⟩ = some (.slice a4 m.bs.length c4) := k0.cell 3
      have q4 : W.cell? ⟨w.heap.size, 4, none⟩ = some (.slice a5 m.fs.length c5) := k0.cell 4
      have q5 : W.cell? ⟨w.heap.size, 5, none⟩ = some (.slice a6 m.ds.length c6) := k0.cell 5
      have q6 : W.cell? ⟨w.heap.size, 6, none⟩ = some (.int .i64 m.nx) := k0.cell 6
      clear k0
      clear hK hK' hp hd
      go_simp
      exact HK.out _ _ (Below.refl _ _) rfl
    · refine wpOp_step (o := _) rfl fun K' hK' => ?_
      have HK : Hid (∀ v W', Below W.heap.size W W' → ((Mk.const [] (.pointer (some ⟨w.heap.size, 5, none⟩)) : Mk)).P W.heap.size W'.heap.size W' v (upd x 1 v) → K' ⟨#[Value.agg #[Value.slice a1 m.xs.length c1, Value.slice a2 m.ys.length c2, Value.slice a3 m.is.length c3, Value.slice a4 m.bs.length c4, Value.slice a5 m.fs.length c5, Value.slice a6 m.ds.length c6, Value.int IntKind.i64 m.nx], Value.pointer (some { block := w.heap.size, off := 0 }), Value.pointer (some { block := w.heap.size + 1, off := 0 }), x 0, v, x 2, x 3, x 4], []⟩ W') := fun v W' h1 h2 => hK' _ _ (hK v W' h1 h2)
      clear hK hK' hp hd
      go_simp
      exact HK.out _ _ (Below.refl _ _) rfl
    · refine wpOp_step (o := _) rfl fun K' hK' => ?_
      have HK : Hid (∀ v W', Below W.heap.size W W' → ((Mk.const [1] (.slice a6 m.ds.length c6) : Mk)).P W.heap.size W'.heap.size W' v (upd x 2 v) → K' ⟨#[Value.agg #[Value.slice a1 m.xs.length c1, Value.slice a2 m.ys.length c2, Value.slice a3 m.is.length c3, Value.slice a4 m.bs.length c4, Value.slice a5 m.fs.length c5, Value.slice a6 m.ds.length c6, Value.int IntKind.i64 m.nx], Value.pointer (some { block := w.heap.size, off := 0 }), Value.pointer (some { block := w.heap.size + 1, off := 0 }), x 0, x 1, v, x 3, x 4], []⟩ W') := fun v W' h1 h2 => hK' _ _ (hK v W' h1 h2)
      have e1 : x 1 = .pointer (some ⟨w.heap.size, 5, none⟩) := hp.post 1 (hd 1 (show 1 ∈ [1] from by decide))
      have q0 : W.cell? ⟨w.heap.size, 5, none⟩ = some (.slice a6 m.ds.length c6) := (HC.out W hp.bel).1.cell 5
      clear hK hK' hp hd
      simp only [e1] at HK ⊢
      go_simp
      exact HK.out _ _ (Below.refl _ _) rfl
    · refine wpOp_step (o := _) rfl fun K' hK' => ?_
      have HK : Hid (∀ v W', Below W.heap.size W W' → (MkWl Tryz.prog 2 m.ds).P W.heap.size W'.heap.size W' v (upd x 3 v) → K' ⟨#[Value.agg #[Value.slice a1 m.xs.length c1, Value.slice a2 m.ys.length c2, Value.slice a3 m.is.length c3, Value.slice a4 m.bs.length c4, Value.slice a5 m.fs.length c5, Value.slice a6 m.ds.length c6, Value.int IntKind.i64 m.nx], Value.pointer (some { block := w.heap.size, off := 0 }), Value.pointer (some { block := w.heap.size + 1, off := 0 }), x 0, x 1, x 2, v, x 4], []⟩ W') := fun v W' h1 h2 => hK' _ _ (hK v W' h1 h2)
      have e2 : x 2 = .slice a6 m.ds.length c6 := hp.post 2 (hd 2 (show 2 ∈ [2] from by decide))
      have bl := (HC.out W hp.bel).2.2.1
      clear hK hK' hp hd
      simp only [e2] at HK ⊢
      go_simp
      refine (leanersOf_any _ m.ds W (H.out.p.below bl (Nat.le_refl _)) HG.out.l HG.out.b HG.out.t HW.out).mono ?_
      rintro e w6 ⟨B, E, ps, rfl, O6, F6, G6, B6⟩
      go_simp
      exact HK.out _ _ B6 ⟨B, E, ps, rfl, O6, F6, G6⟩
    · refine wpOp_step (o := _) rfl fun K' hK' => ?_
      have HK : Hid (∀ v W', Below W.heap.size W W' → (MkWm 0 3 (w.heap.size + 1 + 1) m).P W.heap.size W'.heap.size W' v (upd x 4 v) → K' ⟨#[Value.agg #[Value.slice a1 m.xs.length c1, Value.slice a2 m.ys.length c2, Value.slice a3 m.is.length c3, Value.slice a4 m.bs.length c4, Value.slice a5 m.fs.length c5, Value.slice a6 m.ds.length c6, Value.int IntKind.i64 m.nx], Value.pointer (some { block := w.heap.size, off := 0 }), Value.pointer (some { block := w.heap.size + 1, off := 0 }), x 0, x 1, x 2, x 3, v], []⟩ W') := fun v W' h1 h2 => hK' _ _ (hK v W' h1 h2)
      have e0 : x 0 = .agg #[.slice a1 m.xs.length c1, .slice a2 m.ys.length c2, .slice a3 m.is.length c3, .slice a4 m.bs.length c4, .slice a5 m.fs.length c5, .slice a6 m.ds.length c6, .int .i64 m.nx] := hp.post 0 (hd 0 (show 0 ∈ [0, 3] from by decide))
      have e3 : ∃ B E ps, x 3 = .map (some B) ∧ LE Tryz.prog W (iw 3).1 B E ps ∧ E.map (·.d) = m.ds ∧ ∀ (j : Nat) (h : j < E.length), E[j].pl = j := hp.post 3 (hd 3 (show 3 ∈ [0, 3] from by decide))
      have bl := (HC.out W hp.bel).2.2.1
      have l3 := hp.lo 3 (hd 3 (show 3 ∈ [0, 3] from by decide))
      simp [World.drew] at l3
      clear hK hK' hp hd
      obtain ⟨B, E, ps, e3, h1, h2, h3⟩ := e3
      simp only [e0, e3] at HK ⊢
      clear e0 e3
      go_simp
      have hEl : E.length ≤ 1048576 := by have q := HG.out.l; rw [← h2, List.length_map] at q; exact q
      refine (memWith_any (iw 3).1 B E ps _ _ _ _ _ _ m W (H.out.below bl (Nat.le_refl _)) HG.out h1 (asc h3) hEl (Nat.le_trans h1.loB (Nat.le_of_lt h1.lt))).mono ?_
      rintro e w6 ⟨u1, u2, u3, u4, u5, u6, rfl, O6, B6⟩
      rw [h2] at O6
      obtain ⟨b1, d1, b2, d2, b3, d3, b4, d4, b5, d5, b6, d6, rfl, rfl, rfl, rfl, rfl, rfl⟩ := O6.mr.form
      go_simp
      exact HK.out _ _ B6 ⟨b1, d1, b2, d2, b3, d3, b4, d4, b5, d5, b6, d6, rfl, O6.mono fun k hk => by omega⟩
  · intro x iw W hp
    obtain ⟨b1, d1, b2, d2, b3, d3, b4, d4, b5, d5, b6, d6, e4, O4⟩ := hp.post 4 (by decide)
    obtain ⟨kA, kR, bel, -⟩ := HC.out W hp.bel
    have HM : Hid (MO ((((((((W.setCell ⟨w.heap.size + 1, 0, none⟩ (.slice b1 m.xs.length d1)).setCell ⟨w.heap.size + 1, 1, none⟩ (.slice b2 m.ys.length d2)).setCell ⟨w.heap.size + 1, 2, none⟩ (.slice b3 m.is.length d3)).setCell ⟨w.heap.size + 1, 3, none⟩ (.slice b4 m.bs.length d4)).setCell ⟨w.heap.size + 1, 4, none⟩ (.slice b5 m.fs.length d5)).setCell ⟨w.heap.size + 1, 5, none⟩ (.slice b6 m.ds.length d6)).setCell ⟨w.heap.size + 1, 6, none⟩ (.int .i64 m.nx))) (fun k => w.heap.size ≤ k) (.slice b1 m.xs.length d1) (.slice b2 m.ys.length d2) (.slice b3 m.is.length d3) (.slice b4 m.bs.length d4) (.slice b5 m.fs.length d5) (.slice b6 m.ds.length d6) m ∧ Below w.heap.size w ((((((((W.setCell ⟨w.heap.size + 1, 0, none⟩ (.slice b1 m.xs.length d1)).setCell ⟨w.heap.size + 1, 1, none⟩ (.slice b2 m.ys.length d2)).setCell ⟨w.heap.size + 1, 2, none⟩ (.slice b3 m.is.length d3)).setCell ⟨w.heap.size + 1, 3, none⟩ (.slice b4 m.bs.length d4)).setCell ⟨w.heap.size + 1, 4, none⟩ (.slice b5 m.fs.length d5)).setCell ⟨w.heap.size + 1, 5, none⟩ (.slice b6 m.ds.length d6)).setCell ⟨w.heap.size + 1, 6, none⟩ (.int .i64 m.nx)))) := by
      refine ⟨(O4.of_heap fun k hk _ => ((((((heap_setCell_other _ ⟨w.heap.size + 1, 6, none⟩ k _ (by show k ≠ w.heap.size + 1; omega)).trans (heap_setCell_other _ ⟨w.heap.size + 1, 5, none⟩ k _ (by show k ≠ w.heap.size + 1; omega))).trans (heap_setCell_other _ ⟨w.heap.size + 1, 4, none⟩ k _ (by show k ≠ w.heap.size + 1; omega))).trans (heap_setCell_other _ ⟨w.heap.size + 1, 3, none⟩ k _ (by show k ≠ w.heap.size + 1; omega))).trans (heap_setCell_other _ ⟨w.heap.size + 1, 2, none⟩ k _ (by show k ≠ w.heap.size + 1; omega))).trans (heap_setCell_other _ ⟨w.heap.size + 1, 1, none⟩ k _ (by show k ≠ w.heap.size + 1; omega))).trans (heap_setCell_other _ ⟨w.heap.size + 1, 0, none⟩ k _ (by show k ≠ w.heap.size + 1; omega))).mono fun k hk => by omega, (((((((bel).setCell (by simp) _).setCell (by simp) _).setCell (by simp) _).setCell (by simp) _).setCell (by simp) _).setCell (by simp) _).setCell (by simp) _⟩
    have r0 : W.cell? ⟨w.heap.size + 1, 0, none⟩ = some (.slice none 0 0) := kR.cell 0
    have v0 := kR.frozen 0
    have r1 : W.cell? ⟨w.heap.size + 1, 1, none⟩ = some (.slice none 0 0) := kR.cell 1
    have v1 := kR.frozen 1
    have r2 : W.cell? ⟨w.heap.size + 1, 2, none⟩ = some (.slice none 0 0) := kR.cell 2
    have v2 := kR.frozen 2
    have r3 : W.cell? ⟨w.heap.size + 1, 3, none⟩ = some (.slice none 0 0) := kR.cell 3
    have v3 := kR.frozen 3
    have r4 : W.cell? ⟨w.heap.size + 1, 4, none⟩ = some (.slice none 0 0) := kR.cell 4
    have v4 := kR.frozen 4
    have r5 : W.cell? ⟨w.heap.size + 1, 5, none⟩ = some (.slice none 0 0) := kR.cell 5
    have v5 := kR.frozen 5
    have r6 : W.cell? ⟨w.heap.size + 1, 6, none⟩ = some (.int .i64 0) := kR.cell 6
    have v6 := kR.frozen 6
    clear hp O4 kA kR bel HC
    simp only [e4]
    clear e4
    go_wp2
    rw [List.filterMap_nil]
    go_wp2
    refine bodyPost_ret (v := .agg #[.slice b1 m.xs.length d1, .slice b2 m.ys.length d2, .slice b3 m.is.length d3, .slice b4 m.bs.length d4, .slice b5 m.fs.length d5, .slice b6 m.ds.length d6, .int .i64 m.nx]) (by simp [results, go_sem, r0, r1, r2, r3, r4, r5, r6]) rfl ⟨_, _, _, _, _, _, rfl, HM.out.1, HM.out.2⟩
end Go.Proofs.YtggjillpfclajaaGreat
