/- Texts of the proof, bundled: Pi, Rh. -/
import Derived.Test.YtggjillpfclajaaGreatU13
import Derived.Test.YtggjillpfclajaaGreatU06
/- impl.PutDep by its contract. -/
namespace Go.Proofs.YtggjillpfclajaaGreat
open Go.RowKit Kit
set_option maxRecDepth 100000 in
set_option maxHeartbeats 3200000 in
theorem putI_full (id kd io pt bk sl : Int) (nm : ByteArray) (bt ot : Bool) (af : Int) (bl : List Int) (p : Value) (u v iv bv dv pv : Value) (m : MD) (w : World) (h : MR w u v iv bv dv pv m) (hB : BigM 1048576 m) (hv : RInts w p bl) (hl : bl.length ≤ 1048576) (hn : nm.size ≤ 1048576) (hw : ∀ (j : Nat) (h : j < m.ds.length), (Lit.int .i64 m.ds[j].id).wf = true) (hf : 40 ≤ m.ds.length) :
    Calls Tryz.prog 19 #[.agg #[u, v, iv, bv, dv, pv, .int .i64 m.nx], .agg #[.int .i64 id, .int .i64 kd, .int .i64 io, .int .i64 pt, .int .i64 bk, .int .i64 sl, .string nm, .bool bt, .bool ot, .int .i64 af, p]] w fun e w' => ∃ u' v' i' b' d' p', e = .returned (.tuple #[.agg #[u', v', i', b', d', p', .int .i64 m.nx], .int .i64 0]) ∧ MO w' (fun k => w.heap.size ≤ k) u' v' i' b' d' p' m ∧ Below w.heap.size w w' := by
  have H := hide h
  have HG := hide hB
  have HP := hide hv
  have HL := hide hl
  have HN := hide hn
  have HW := hide hw
  obtain ⟨a1, c1, a2, c2, a3, c3, a4, c4, a5, c5, a6, c6, rfl, rfl, rfl, rfl, rfl, rfl⟩ := h.form
  obtain ⟨pa, pc, rfl⟩ := hv.form
  clear h hB hv hl hn hw
  have HC : Hid (∀ W, Below (((w.alloc (.cells #[.slice a1 m.xs.length c1, .slice a2 m.ys.length c2, .slice a3 m.is.length c3, .slice a4 m.bs.length c4, .slice a5 m.fs.length c5, .slice a6 m.ds.length c6, .int .i64 m.nx] 40)).alloc (.cells #[.int .i64 id, .int .i64 kd, .int .i64 io, .int .i64 pt, .int .i64 bk, .int .i64 sl, .string nm, .bool bt, .bool ot, .int .i64 af, .slice pa bl.length pc] 52)).alloc (.cells noM 40)).heap.size (((w.alloc (.cells #[.slice a1 m.xs.length c1, .slice a2 m.ys.length c2, .slice a3 m.is.length c3, .slice a4 m.bs.length c4, .slice a5 m.fs.length c5, .slice a6 m.ds.length c6, .int .i64 m.nx] 40)).alloc (.cells #[.int .i64 id, .int .i64 kd, .int .i64 io, .int .i64 pt, .int .i64 bk, .int .i64 sl, .string nm, .bool bt, .bool ot, .int .i64 af, .slice pa bl.length pc] 52)).alloc (.cells noM 40)) W → AtC W w.heap.size 40 #[.slice a1 m.xs.length c1, .slice a2 m.ys.length c2, .slice a3 m.is.length c3, .slice a4 m.bs.length c4, .slice a5 m.fs.length c5, .slice a6 m.ds.length c6, .int .i64 m.nx] ∧ AtC W (w.heap.size + 1) 52 #[.int .i64 id, .int .i64 kd, .int .i64 io, .int .i64 pt, .int .i64 bk, .int .i64 sl, .string nm, .bool bt, .bool ot, .int .i64 af, .slice pa bl.length pc] ∧ AtC W (w.heap.size + 1 + 1) 40 noM ∧ Below w.heap.size w W ∧ w.heap.size + 1 + 1 + 1 ≤ W.heap.size) := fun W b2 => by
    have k1 := (AtC.new ((w.alloc (.cells #[.slice a1 m.xs.length c1, .slice a2 m.ys.length c2, .slice a3 m.is.length c3, .slice a4 m.bs.length c4, .slice a5 m.fs.length c5, .slice a6 m.ds.length c6, .int .i64 m.nx] 40)).alloc (.cells #[.int .i64 id, .int .i64 kd, .int .i64 io, .int .i64 pt, .int .i64 bk, .int .i64 sl, .string nm, .bool bt, .bool ot, .int .i64 af, .slice pa bl.length pc] 52)) 40 noM).over b2
    have k2 := ((AtC.new (w.alloc (.cells #[.slice a1 m.xs.length c1, .slice a2 m.ys.length c2, .slice a3 m.is.length c3, .slice a4 m.bs.length c4, .slice a5 m.fs.length c5, .slice a6 m.ds.length c6, .int .i64 m.nx] 40)) 52 #[.int .i64 id, .int .i64 kd, .int .i64 io, .int .i64 pt, .int .i64 bk, .int .i64 sl, .string nm, .bool bt, .bool ot, .int .i64 af, .slice pa bl.length pc]).alloc (.cells noM 40)).over b2
    have sz := b2.size
    simp at k1 k2 sz
    exact ⟨(((AtC.new w 40 _).alloc _).alloc _).over b2, k2, k1, ((((Below.refl _ w).alloc (Nat.le_refl _) _).alloc (by simp) _).alloc (by simp; omega) _).trans (b2.mono (by simp; omega)), sz⟩
  have hf1 : (40 : Int) ≤ (m.ds.length : Int) := by omega
  go_enter Tryz.func19, Tryz.ntmps19
  go_wp2_with fail
  refine (newMem_any _ _ _ _ _ _ m _ (H.out.below (HC.out _ (Below.refl _ _)).2.2.2.1 (Nat.le_refl _)) HG.out HW.out).mono ?_
  rintro e w2 ⟨u1, u2, u3, u4, u5, u6, rfl, O2, B2⟩
  obtain ⟨b1, d1, b2, d2, b3, d3, b4, d4, b5, d5, b6, d6, rfl, rfl, rfl, rfl, rfl, rfl⟩ := O2.mr.form
  obtain ⟨-, -, q3, q5, q6⟩ := HC.out w2 B2
  have O3 := (O2.mono (S' := fun k => w.heap.size + 1 + 1 + 1 ≤ k) (fun k hk => by simp at hk; omega))
  have r0 : w2.cell? ⟨(w.heap.size + 1 + 1), 0, none⟩ = some (.slice none 0 0) := q3.cell 0
  have r1 : w2.cell? ⟨(w.heap.size + 1 + 1), 1, none⟩ = some (.slice none 0 0) := q3.cell 1
  have r2 : w2.cell? ⟨(w.heap.size + 1 + 1), 2, none⟩ = some (.slice none 0 0) := q3.cell 2
  have r3 : w2.cell? ⟨(w.heap.size + 1 + 1), 3, none⟩ = some (.slice none 0 0) := q3.cell 3
  have r4 : w2.cell? ⟨(w.heap.size + 1 + 1), 4, none⟩ = some (.slice none 0 0) := q3.cell 4
  have r5 : w2.cell? ⟨(w.heap.size + 1 + 1), 5, none⟩ = some (.slice none 0 0) := q3.cell 5
  have r6 : w2.cell? ⟨(w.heap.size + 1 + 1), 6, none⟩ = some (.int .i64 0) := q3.cell 6
  have v0 := q3.frozen 0
  have v1 := q3.frozen 1
  have v2 := q3.frozen 2
  have v3 := q3.frozen 3
  have v4 := q3.frozen 4
  have v5 := q3.frozen 5
  have v6 := q3.frozen 6
  have HM : Hid (MO (((((((w2.setCell ⟨(w.heap.size + 1 + 1), 0, none⟩ (.slice b1 m.xs.length d1)).setCell ⟨(w.heap.size + 1 + 1), 1, none⟩ (.slice b2 m.ys.length d2)).setCell ⟨(w.heap.size + 1 + 1), 2, none⟩ (.slice b3 m.is.length d3)).setCell ⟨(w.heap.size + 1 + 1), 3, none⟩ (.slice b4 m.bs.length d4)).setCell ⟨(w.heap.size + 1 + 1), 4, none⟩ (.slice b5 m.fs.length d5)).setCell ⟨(w.heap.size + 1 + 1), 5, none⟩ (.slice b6 m.ds.length d6)).setCell ⟨(w.heap.size + 1 + 1), 6, none⟩ (.int .i64 m.nx)) (fun k => w.heap.size ≤ k) (.slice b1 m.xs.length d1) (.slice b2 m.ys.length d2) (.slice b3 m.is.length d3) (.slice b4 m.bs.length d4) (.slice b5 m.fs.length d5) (.slice b6 m.ds.length d6) m ∧ Below w.heap.size w (((((((w2.setCell ⟨(w.heap.size + 1 + 1), 0, none⟩ (.slice b1 m.xs.length d1)).setCell ⟨(w.heap.size + 1 + 1), 1, none⟩ (.slice b2 m.ys.length d2)).setCell ⟨(w.heap.size + 1 + 1), 2, none⟩ (.slice b3 m.is.length d3)).setCell ⟨(w.heap.size + 1 + 1), 3, none⟩ (.slice b4 m.bs.length d4)).setCell ⟨(w.heap.size + 1 + 1), 4, none⟩ (.slice b5 m.fs.length d5)).setCell ⟨(w.heap.size + 1 + 1), 5, none⟩ (.slice b6 m.ds.length d6)).setCell ⟨(w.heap.size + 1 + 1), 6, none⟩ (.int .i64 m.nx))) := by
    exact ⟨(O3.of_heap fun k hk _ => ((((((heap_setCell_other _ ⟨(w.heap.size + 1 + 1), 6, none⟩ k _ (by show k ≠ (w.heap.size + 1 + 1); omega)).trans (heap_setCell_other _ ⟨(w.heap.size + 1 + 1), 5, none⟩ k _ (by show k ≠ (w.heap.size + 1 + 1); omega))).trans (heap_setCell_other _ ⟨(w.heap.size + 1 + 1), 4, none⟩ k _ (by show k ≠ (w.heap.size + 1 + 1); omega))).trans (heap_setCell_other _ ⟨(w.heap.size + 1 + 1), 3, none⟩ k _ (by show k ≠ (w.heap.size + 1 + 1); omega))).trans (heap_setCell_other _ ⟨(w.heap.size + 1 + 1), 2, none⟩ k _ (by show k ≠ (w.heap.size + 1 + 1); omega))).trans (heap_setCell_other _ ⟨(w.heap.size + 1 + 1), 1, none⟩ k _ (by show k ≠ (w.heap.size + 1 + 1); omega))).trans (heap_setCell_other _ ⟨(w.heap.size + 1 + 1), 0, none⟩ k _ (by show k ≠ (w.heap.size + 1 + 1); omega))).mono fun k hk => by omega, (((((((q5).setCell (by show w.heap.size ≤ w.heap.size + 1 + 1; omega) _).setCell (by show w.heap.size ≤ w.heap.size + 1 + 1; omega) _).setCell (by show w.heap.size ≤ w.heap.size + 1 + 1; omega) _).setCell (by show w.heap.size ≤ w.heap.size + 1 + 1; omega) _).setCell (by show w.heap.size ≤ w.heap.size + 1 + 1; omega) _).setCell (by show w.heap.size ≤ w.heap.size + 1 + 1; omega) _).setCell (by show w.heap.size ≤ w.heap.size + 1 + 1; omega) _⟩
  clear q3 q5 q6 O2 O3 B2 HC
  go_wp2
  refine bodyPost_ret (v := .tuple #[.agg #[.slice b1 m.xs.length d1, .slice b2 m.ys.length d2, .slice b3 m.is.length d3, .slice b4 m.bs.length d4, .slice b5 m.fs.length d5, .slice b6 m.ds.length d6, .int .i64 m.nx], .int .i64 0]) (by simp [results, go_sem, r0, r1, r2, r3, r4, r5, r6]) rfl ⟨_, _, _, _, _, _, rfl, HM.out.1, HM.out.2⟩
set_option maxRecDepth 100000 in
set_option maxHeartbeats 3200000 in
theorem putI_low (id kd io pt bk sl : Int) (nm : ByteArray) (bt ot : Bool) (af : Int) (bl : List Int) (p : Value) (u v iv bv dv pv : Value) (m : MD) (w : World) (h : MR w u v iv bv dv pv m) (hB : BigM 1048576 m) (hv : RInts w p bl) (hl : bl.length ≤ 1048576) (hn : nm.size ≤ 1048576) (hw : ∀ (j : Nat) (h : j < m.ds.length), (Lit.int .i64 m.ds[j].id).wf = true) (hf : m.ds.length < 40) (hx : m.nx < 1) :
    Calls Tryz.prog 19 #[.agg #[u, v, iv, bv, dv, pv, .int .i64 m.nx], .agg #[.int .i64 id, .int .i64 kd, .int .i64 io, .int .i64 pt, .int .i64 bk, .int .i64 sl, .string nm, .bool bt, .bool ot, .int .i64 af, p]] w fun e w' => ∃ u' v' i' b' d' p', e = .returned (.tuple #[.agg #[u', v', i', b', d', p', .int .i64 m.nx], .int .i64 0]) ∧ MO w' (fun k => w.heap.size ≤ k) u' v' i' b' d' p' m ∧ Below w.heap.size w w' := by
  have H := hide h
  have HG := hide hB
  have HP := hide hv
  have HL := hide hl
  have HN := hide hn
  have HW := hide hw
  obtain ⟨a1, c1, a2, c2, a3, c3, a4, c4, a5, c5, a6, c6, rfl, rfl, rfl, rfl, rfl, rfl⟩ := h.form
  obtain ⟨pa, pc, rfl⟩ := hv.form
  clear h hB hv hl hn hw
  have HC : Hid (∀ W, Below (((w.alloc (.cells #[.slice a1 m.xs.length c1, .slice a2 m.ys.length c2, .slice a3 m.is.length c3, .slice a4 m.bs.length c4, .slice a5 m.fs.length c5, .slice a6 m.ds.length c6, .int .i64 m.nx] 40)).alloc (.cells #[.int .i64 id, .int .i64 kd, .int .i64 io, .int .i64 pt, .int .i64 bk, .int .i64 sl, .string nm, .bool bt, .bool ot, .int .i64 af, .slice pa bl.length pc] 52)).alloc (.cells noM 40)).heap.size (((w.alloc (.cells #[.slice a1 m.xs.length c1, .slice a2 m.ys.length c2, .slice a3 m.is.length c3, .slice a4 m.bs.length c4, .slice a5 m.fs.length c5, .slice a6 m.ds.length c6, .int .i64 m.nx] 40)).alloc (.cells #[.int .i64 id, .int .i64 kd, .int .i64 io, .int .i64 pt, .int .i64 bk, .int .i64 sl, .string nm, .bool bt, .bool ot, .int .i64 af, .slice pa bl.length pc] 52)).alloc (.cells noM 40)) W → AtC W w.heap.size 40 #[.slice a1 m.xs.length c1, .slice a2 m.ys.length c2, .slice a3 m.is.length c3, .slice a4 m.bs.length c4, .slice a5 m.fs.length c5, .slice a6 m.ds.length c6, .int .i64 m.nx] ∧ AtC W (w.heap.size + 1) 52 #[.int .i64 id, .int .i64 kd, .int .i64 io, .int .i64 pt, .int .i64 bk, .int .i64 sl, .string nm, .bool bt, .bool ot, .int .i64 af, .slice pa bl.length pc] ∧ AtC W (w.heap.size + 1 + 1) 40 noM ∧ Below w.heap.size w W ∧ w.heap.size + 1 + 1 + 1 ≤ W.heap.size) := fun W b2 => by
    have k1 := (AtC.new ((w.alloc (.cells #[.slice a1 m.xs.length c1, .slice a2 m.ys.length c2, .slice a3 m.is.length c3, .slice a4 m.bs.length c4, .slice a5 m.fs.length c5, .slice a6 m.ds.length c6, .int .i64 m.nx] 40)).alloc (.cells #[.int .i64 id, .int .i64 kd, .int .i64 io, .int .i64 pt, .int .i64 bk, .int .i64 sl, .string nm, .bool bt, .bool ot, .int .i64 af, .slice pa bl.length pc] 52)) 40 noM).over b2
    have k2 := ((AtC.new (w.alloc (.cells #[.slice a1 m.xs.length c1, .slice a2 m.ys.length c2, .slice a3 m.is.length c3, .slice a4 m.bs.length c4, .slice a5 m.fs.length c5, .slice a6 m.ds.length c6, .int .i64 m.nx] 40)) 52 #[.int .i64 id, .int .i64 kd, .int .i64 io, .int .i64 pt, .int .i64 bk, .int .i64 sl, .string nm, .bool bt, .bool ot, .int .i64 af, .slice pa bl.length pc]).alloc (.cells noM 40)).over b2
    have sz := b2.size
    simp at k1 k2 sz
    exact ⟨(((AtC.new w 40 _).alloc _).alloc _).over b2, k2, k1, ((((Below.refl _ w).alloc (Nat.le_refl _) _).alloc (by simp) _).alloc (by simp; omega) _).trans (b2.mono (by simp; omega)), sz⟩
  have hf1 : ¬ ((40 : Int) ≤ (m.ds.length : Int)) := by omega
  have hx1 : m.nx < 1 := hx
  clear hx
  go_enter Tryz.func19, Tryz.ntmps19
  go_wp2_with fail
  refine (newMem_any _ _ _ _ _ _ m _ (H.out.below (HC.out _ (Below.refl _ _)).2.2.2.1 (Nat.le_refl _)) HG.out HW.out).mono ?_
  rintro e w2 ⟨u1, u2, u3, u4, u5, u6, rfl, O2, B2⟩
  obtain ⟨b1, d1, b2, d2, b3, d3, b4, d4, b5, d5, b6, d6, rfl, rfl, rfl, rfl, rfl, rfl⟩ := O2.mr.form
  obtain ⟨-, -, q3, q5, q6⟩ := HC.out w2 B2
  have O3 := (O2.mono (S' := fun k => w.heap.size + 1 + 1 + 1 ≤ k) (fun k hk => by simp at hk; omega))
  have r0 : w2.cell? ⟨(w.heap.size + 1 + 1), 0, none⟩ = some (.slice none 0 0) := q3.cell 0
  have r1 : w2.cell? ⟨(w.heap.size + 1 + 1), 1, none⟩ = some (.slice none 0 0) := q3.cell 1
  have r2 : w2.cell? ⟨(w.heap.size + 1 + 1), 2, none⟩ = some (.slice none 0 0) := q3.cell 2
  have r3 : w2.cell? ⟨(w.heap.size + 1 + 1), 3, none⟩ = some (.slice none 0 0) := q3.cell 3
  have r4 : w2.cell? ⟨(w.heap.size + 1 + 1), 4, none⟩ = some (.slice none 0 0) := q3.cell 4
  have r5 : w2.cell? ⟨(w.heap.size + 1 + 1), 5, none⟩ = some (.slice none 0 0) := q3.cell 5
  have r6 : w2.cell? ⟨(w.heap.size + 1 + 1), 6, none⟩ = some (.int .i64 0) := q3.cell 6
  have v0 := q3.frozen 0
  have v1 := q3.frozen 1
  have v2 := q3.frozen 2
  have v3 := q3.frozen 3
  have v4 := q3.frozen 4
  have v5 := q3.frozen 5
  have v6 := q3.frozen 6
  have HM : Hid (MO (((((((w2.setCell ⟨(w.heap.size + 1 + 1), 0, none⟩ (.slice b1 m.xs.length d1)).setCell ⟨(w.heap.size + 1 + 1), 1, none⟩ (.slice b2 m.ys.length d2)).setCell ⟨(w.heap.size + 1 + 1), 2, none⟩ (.slice b3 m.is.length d3)).setCell ⟨(w.heap.size + 1 + 1), 3, none⟩ (.slice b4 m.bs.length d4)).setCell ⟨(w.heap.size + 1 + 1), 4, none⟩ (.slice b5 m.fs.length d5)).setCell ⟨(w.heap.size + 1 + 1), 5, none⟩ (.slice b6 m.ds.length d6)).setCell ⟨(w.heap.size + 1 + 1), 6, none⟩ (.int .i64 m.nx)) (fun k => w.heap.size ≤ k) (.slice b1 m.xs.length d1) (.slice b2 m.ys.length d2) (.slice b3 m.is.length d3) (.slice b4 m.bs.length d4) (.slice b5 m.fs.length d5) (.slice b6 m.ds.length d6) m ∧ Below w.heap.size w (((((((w2.setCell ⟨(w.heap.size + 1 + 1), 0, none⟩ (.slice b1 m.xs.length d1)).setCell ⟨(w.heap.size + 1 + 1), 1, none⟩ (.slice b2 m.ys.length d2)).setCell ⟨(w.heap.size + 1 + 1), 2, none⟩ (.slice b3 m.is.length d3)).setCell ⟨(w.heap.size + 1 + 1), 3, none⟩ (.slice b4 m.bs.length d4)).setCell ⟨(w.heap.size + 1 + 1), 4, none⟩ (.slice b5 m.fs.length d5)).setCell ⟨(w.heap.size + 1 + 1), 5, none⟩ (.slice b6 m.ds.length d6)).setCell ⟨(w.heap.size + 1 + 1), 6, none⟩ (.int .i64 m.nx))) := by
    exact ⟨(O3.of_heap fun k hk _ => ((((((heap_setCell_other _ ⟨(w.heap.size + 1 + 1), 6, none⟩ k _ (by show k ≠ (w.heap.size + 1 + 1); omega)).trans (heap_setCell_other _ ⟨(w.heap.size + 1 + 1), 5, none⟩ k _ (by show k ≠ (w.heap.size + 1 + 1); omega))).trans (heap_setCell_other _ ⟨(w.heap.size + 1 + 1), 4, none⟩ k _ (by show k ≠ (w.heap.size + 1 + 1); omega))).trans (heap_setCell_other _ ⟨(w.heap.size + 1 + 1), 3, none⟩ k _ (by show k ≠ (w.heap.size + 1 + 1); omega))).trans (heap_setCell_other _ ⟨(w.heap.size + 1 + 1), 2, none⟩ k _ (by show k ≠ (w.heap.size + 1 + 1); omega))).trans (heap_setCell_other _ ⟨(w.heap.size + 1 + 1), 1, none⟩ k _ (by show k ≠ (w.heap.size + 1 + 1); omega))).trans (heap_setCell_other _ ⟨(w.heap.size + 1 + 1), 0, none⟩ k _ (by show k ≠ (w.heap.size + 1 + 1); omega))).mono fun k hk => by omega, (((((((q5).setCell (by show w.heap.size ≤ w.heap.size + 1 + 1; omega) _).setCell (by show w.heap.size ≤ w.heap.size + 1 + 1; omega) _).setCell (by show w.heap.size ≤ w.heap.size + 1 + 1; omega) _).setCell (by show w.heap.size ≤ w.heap.size + 1 + 1; omega) _).setCell (by show w.heap.size ≤ w.heap.size + 1 + 1; omega) _).setCell (by show w.heap.size ≤ w.heap.size + 1 + 1; omega) _).setCell (by show w.heap.size ≤ w.heap.size + 1 + 1; omega) _⟩
  clear q3 q5 q6 O2 O3 B2 HC
  go_wp2
  refine bodyPost_ret (v := .tuple #[.agg #[.slice b1 m.xs.length d1, .slice b2 m.ys.length d2, .slice b3 m.is.length d3, .slice b4 m.bs.length d4, .slice b5 m.fs.length d5, .slice b6 m.ds.length d6, .int .i64 m.nx], .int .i64 0]) (by simp [results, go_sem, r0, r1, r2, r3, r4, r5, r6]) rfl ⟨_, _, _, _, _, _, rfl, HM.out.1, HM.out.2⟩
set_option maxRecDepth 100000 in
set_option maxHeartbeats 3200000 in
theorem putI_high (id kd io pt bk sl : Int) (nm : ByteArray) (bt ot : Bool) (af : Int) (bl : List Int) (p : Value) (u v iv bv dv pv : Value) (m : MD) (w : World) (h : MR w u v iv bv dv pv m) (hB : BigM 1048576 m) (hv : RInts w p bl) (hl : bl.length ≤ 1048576) (hn : nm.size ≤ 1048576) (hw : ∀ (j : Nat) (h : j < m.ds.length), (Lit.int .i64 m.ds[j].id).wf = true) (hf : m.ds.length < 40) (hx : 1 ≤ m.nx) (hy : 100000 ≤ m.nx) :
    Calls Tryz.prog 19 #[.agg #[u, v, iv, bv, dv, pv, .int .i64 m.nx], .agg #[.int .i64 id, .int .i64 kd, .int .i64 io, .int .i64 pt, .int .i64 bk, .int .i64 sl, .string nm, .bool bt, .bool ot, .int .i64 af, p]] w fun e w' => ∃ u' v' i' b' d' p', e = .returned (.tuple #[.agg #[u', v', i', b', d', p', .int .i64 m.nx], .int .i64 0]) ∧ MO w' (fun k => w.heap.size ≤ k) u' v' i' b' d' p' m ∧ Below w.heap.size w w' := by
  have H := hide h
  have HG := hide hB
  have HP := hide hv
  have HL := hide hl
  have HN := hide hn
  have HW := hide hw
  obtain ⟨a1, c1, a2, c2, a3, c3, a4, c4, a5, c5, a6, c6, rfl, rfl, rfl, rfl, rfl, rfl⟩ := h.form
  obtain ⟨pa, pc, rfl⟩ := hv.form
  clear h hB hv hl hn hw
  have HC : Hid (∀ W, Below (((w.alloc (.cells #[.slice a1 m.xs.length c1, .slice a2 m.ys.length c2, .slice a3 m.is.length c3, .slice a4 m.bs.length c4, .slice a5 m.fs.length c5, .slice a6 m.ds.length c6, .int .i64 m.nx] 40)).alloc (.cells #[.int .i64 id, .int .i64 kd, .int .i64 io, .int .i64 pt, .int .i64 bk, .int .i64 sl, .string nm, .bool bt, .bool ot, .int .i64 af, .slice pa bl.length pc] 52)).alloc (.cells noM 40)).heap.size (((w.alloc (.cells #[.slice a1 m.xs.length c1, .slice a2 m.ys.length c2, .slice a3 m.is.length c3, .slice a4 m.bs.length c4, .slice a5 m.fs.length c5, .slice a6 m.ds.length c6, .int .i64 m.nx] 40)).alloc (.cells #[.int .i64 id, .int .i64 kd, .int .i64 io, .int .i64 pt, .int .i64 bk, .int .i64 sl, .string nm, .bool bt, .bool ot, .int .i64 af, .slice pa bl.length pc] 52)).alloc (.cells noM 40)) W → AtC W w.heap.size 40 #[.slice a1 m.xs.length c1, .slice a2 m.ys.length c2, .slice a3 m.is.length c3, .slice a4 m.bs.length c4, .slice a5 m.fs.length c5, .slice a6 m.ds.length c6, .int .i64 m.nx] ∧ AtC W (w.heap.size + 1) 52 #[.int .i64 id, .int .i64 kd, .int .i64 io, .int .i64 pt, .int .i64 bk, .int .i64 sl, .string nm, .bool bt, .bool ot, .int .i64 af, .slice pa bl.length pc] ∧ AtC W (w.heap.size + 1 + 1) 40 noM ∧ Below w.heap.size w W ∧ w.heap.size + 1 + 1 + 1 ≤ W.heap.size) := fun W b2 => by
    have k1 := (AtC.new ((w.alloc (.cells #[.slice a1 m.xs.length c1, .slice a2 m.ys.length c2, .slice a3 m.is.length c3, .slice a4 m.bs.length c4, .slice a5 m.fs.length c5, .slice a6 m.ds.length c6, .int .i64 m.nx] 40)).alloc (.cells #[.int .i64 id, .int .i64 kd, .int .i64 io, .int .i64 pt, .int .i64 bk, .int .i64 sl, .string nm, .bool bt, .bool ot, .int .i64 af, .slice pa bl.length pc] 52)) 40 noM).over b2
    have k2 := ((AtC.new (w.alloc (.cells #[.slice a1 m.xs.length c1, .slice a2 m.ys.length c2, .slice a3 m.is.length c3, .slice a4 m.bs.length c4, .slice a5 m.fs.length c5, .slice a6 m.ds.length c6, .int .i64 m.nx] 40)) 52 #[.int .i64 id, .int .i64 kd, .int .i64 io, .int .i64 pt, .int .i64 bk, .int .i64 sl, .string nm, .bool bt, .bool ot, .int .i64 af, .slice pa bl.length pc]).alloc (.cells noM 40)).over b2
    have sz := b2.size
    simp at k1 k2 sz
    exact ⟨(((AtC.new w 40 _).alloc _).alloc _).over b2, k2, k1, ((((Below.refl _ w).alloc (Nat.le_refl _) _).alloc (by simp) _).alloc (by simp; omega) _).trans (b2.mono (by simp; omega)), sz⟩
  have hf1 : ¬ ((40 : Int) ≤ (m.ds.length : Int)) := by omega
  have hx1 : ¬ (m.nx < 1) := Int.not_lt.mpr hx
  have hy1 : 100000 ≤ m.nx := hy
  clear hy
  clear hx
  go_enter Tryz.func19, Tryz.ntmps19
  go_wp2_with fail
  refine (newMem_any _ _ _ _ _ _ m _ (H.out.below (HC.out _ (Below.refl _ _)).2.2.2.1 (Nat.le_refl _)) HG.out HW.out).mono ?_
  rintro e w2 ⟨u1, u2, u3, u4, u5, u6, rfl, O2, B2⟩
  obtain ⟨b1, d1, b2, d2, b3, d3, b4, d4, b5, d5, b6, d6, rfl, rfl, rfl, rfl, rfl, rfl⟩ := O2.mr.form
  obtain ⟨-, -, q3, q5, q6⟩ := HC.out w2 B2
  have O3 := (O2.mono (S' := fun k => w.heap.size + 1 + 1 + 1 ≤ k) (fun k hk => by simp at hk; omega))
  have r0 : w2.cell? ⟨(w.heap.size + 1 + 1), 0, none⟩ = some (.slice none 0 0) := q3.cell 0
  have r1 : w2.cell? ⟨(w.heap.size + 1 + 1), 1, none⟩ = some (.slice none 0 0) := q3.cell 1
  have r2 : w2.cell? ⟨(w.heap.size + 1 + 1), 2, none⟩ = some (.slice none 0 0) := q3.cell 2
  have r3 : w2.cell? ⟨(w.heap.size + 1 + 1), 3, none⟩ = some (.slice none 0 0) := q3.cell 3
  have r4 : w2.cell? ⟨(w.heap.size + 1 + 1), 4, none⟩ = some (.slice none 0 0) := q3.cell 4
  have r5 : w2.cell? ⟨(w.heap.size + 1 + 1), 5, none⟩ = some (.slice none 0 0) := q3.cell 5
  have r6 : w2.cell? ⟨(w.heap.size + 1 + 1), 6, none⟩ = some (.int .i64 0) := q3.cell 6
  have v0 := q3.frozen 0
  have v1 := q3.frozen 1
  have v2 := q3.frozen 2
  have v3 := q3.frozen 3
  have v4 := q3.frozen 4
  have v5 := q3.frozen 5
  have v6 := q3.frozen 6
  have HM : Hid (MO (((((((w2.setCell ⟨(w.heap.size + 1 + 1), 0, none⟩ (.slice b1 m.xs.length d1)).setCell ⟨(w.heap.size + 1 + 1), 1, none⟩ (.slice b2 m.ys.length d2)).setCell ⟨(w.heap.size + 1 + 1), 2, none⟩ (.slice b3 m.is.length d3)).setCell ⟨(w.heap.size + 1 + 1), 3, none⟩ (.slice b4 m.bs.length d4)).setCell ⟨(w.heap.size + 1 + 1), 4, none⟩ (.slice b5 m.fs.length d5)).setCell ⟨(w.heap.size + 1 + 1), 5, none⟩ (.slice b6 m.ds.length d6)).setCell ⟨(w.heap.size + 1 + 1), 6, none⟩ (.int .i64 m.nx)) (fun k => w.heap.size ≤ k) (.slice b1 m.xs.length d1) (.slice b2 m.ys.length d2) (.slice b3 m.is.length d3) (.slice b4 m.bs.length d4) (.slice b5 m.fs.length d5) (.slice b6 m.ds.length d6) m ∧ Below w.heap.size w (((((((w2.setCell ⟨(w.heap.size + 1 + 1), 0, none⟩ (.slice b1 m.xs.length d1)).setCell ⟨(w.heap.size + 1 + 1), 1, none⟩ (.slice b2 m.ys.length d2)).setCell ⟨(w.heap.size + 1 + 1), 2, none⟩ (.slice b3 m.is.length d3)).setCell ⟨(w.heap.size + 1 + 1), 3, none⟩ (.slice b4 m.bs.length d4)).setCell ⟨(w.heap.size + 1 + 1), 4, none⟩ (.slice b5 m.fs.length d5)).setCell ⟨(w.heap.size + 1 + 1), 5, none⟩ (.slice b6 m.ds.length d6)).setCell ⟨(w.heap.size + 1 + 1), 6, none⟩ (.int .i64 m.nx))) := by
    exact ⟨(O3.of_heap fun k hk _ => ((((((heap_setCell_other _ ⟨(w.heap.size + 1 + 1), 6, none⟩ k _ (by show k ≠ (w.heap.size + 1 + 1); omega)).trans (heap_setCell_other _ ⟨(w.heap.size + 1 + 1), 5, none⟩ k _ (by show k ≠ (w.heap.size + 1 + 1); omega))).trans (heap_setCell_other _ ⟨(w.heap.size + 1 + 1), 4, none⟩ k _ (by show k ≠ (w.heap.size + 1 + 1); omega))).trans (heap_setCell_other _ ⟨(w.heap.size + 1 + 1), 3, none⟩ k _ (by show k ≠ (w.heap.size + 1 + 1); omega))).trans (heap_setCell_other _ ⟨(w.heap.size + 1 + 1), 2, none⟩ k _ (by show k ≠ (w.heap.size + 1 + 1); omega))).trans (heap_setCell_other _ ⟨(w.heap.size + 1 + 1), 1, none⟩ k _ (by show k ≠ (w.heap.size + 1 + 1); omega))).trans (heap_setCell_other _ ⟨(w.heap.size + 1 + 1), 0, none⟩ k _ (by show k ≠ (w.heap.size + 1 + 1); omega))).mono fun k hk => by omega, (((((((q5).setCell (by show w.heap.size ≤ w.heap.size + 1 + 1; omega) _).setCell (by show w.heap.size ≤ w.heap.size + 1 + 1; omega) _).setCell (by show w.heap.size ≤ w.heap.size + 1 + 1; omega) _).setCell (by show w.heap.size ≤ w.heap.size + 1 + 1; omega) _).setCell (by show w.heap.size ≤ w.heap.size + 1 + 1; omega) _).setCell (by show w.heap.size ≤ w.heap.size + 1 + 1; omega) _).setCell (by show w.heap.size ≤ w.heap.size + 1 + 1; omega) _⟩
  clear q3 q5 q6 O2 O3 B2 HC
  go_wp2
  refine bodyPost_ret (v := .tuple #[.agg #[.slice b1 m.xs.length d1, .slice b2 m.ys.length d2, .slice b3 m.is.length d3, .slice b4 m.bs.length d4, .slice b5 m.fs.length d5, .slice b6 m.ds.length d6, .int .i64 m.nx], .int .i64 0]) (by simp [results, go_sem, r0, r1, r2, r3, r4, r5, r6]) rfl ⟨_, _, _, _, _, _, rfl, HM.out.1, HM.out.2⟩
set_option maxRecDepth 100000 in
set_option maxHeartbeats 3200000 in
theorem putI_yes (id kd io pt bk sl : Int) (nm : ByteArray) (bt ot : Bool) (af : Int) (bl : List Int) (p : Value) (u v iv bv dv pv : Value) (m : MD) (w : World) (h : MR w u v iv bv dv pv m) (hB : BigM 1048576 m) (hv : RInts w p bl) (hl : bl.length ≤ 1048576) (hn : nm.size ≤ 1048576) (hw : ∀ (j : Nat) (h : j < m.ds.length), (Lit.int .i64 m.ds[j].id).wf = true) (hf : m.ds.length < 40) (hx : 1 ≤ m.nx) (hy : m.nx < 100000) (hnw : (Lit.int .i64 m.nx).wf = true) :
    Calls Tryz.prog 19 #[.agg #[u, v, iv, bv, dv, pv, .int .i64 m.nx], .agg #[.int .i64 id, .int .i64 kd, .int .i64 io, .int .i64 pt, .int .i64 bk, .int .i64 sl, .string nm, .bool bt, .bool ot, .int .i64 af, p]] w fun e w' => ∃ u' v' i' b' d' p', e = .returned (.tuple #[.agg #[u', v', i', b', d', p', .int .i64 (m.nx + 1)], .int .i64 m.nx]) ∧ MO w' (fun k => w.heap.size ≤ k) u' v' i' b' d' p' ({ m with ds := m.ds ++ [(⟨m.nx, kd, io, pt, bk, sl, nm, bt, ot, af, bl⟩ : Dp)], nx := m.nx + 1 } : MD) ∧ Below w.heap.size w w' := by
  have H := hide h
  have HG := hide hB
  have HP := hide hv
  have HL := hide hl
  have HN := hide hn
  have HW := hide hw
  obtain ⟨a1, c1, a2, c2, a3, c3, a4, c4, a5, c5, a6, c6, rfl, rfl, rfl, rfl, rfl, rfl⟩ := h.form
  obtain ⟨pa, pc, rfl⟩ := hv.form
  clear h hB hv hl hn hw
  have HC : Hid (∀ W, Below (((w.alloc (.cells #[.slice a1 m.xs.length c1, .slice a2 m.ys.length c2, .slice a3 m.is.length c3, .slice a4 m.bs.length c4, .slice a5 m.fs.length c5, .slice a6 m.ds.length c6, .int .i64 m.nx] 40)).alloc (.cells #[.int .i64 m.nx, .int .i64 kd, .int .i64 io, .int .i64 pt, .int .i64 bk, .int .i64 sl, .string nm, .bool bt, .bool ot, .int .i64 af, .slice pa bl.length pc] 52)).alloc (.cells noM 40)).heap.size (((w.alloc (.cells #[.slice a1 m.xs.length c1, .slice a2 m.ys.length c2, .slice a3 m.is.length c3, .slice a4 m.bs.length c4, .slice a5 m.fs.length c5, .slice a6 m.ds.length c6, .int .i64 m.nx] 40)).alloc (.cells #[.int .i64 m.nx, .int .i64 kd, .int .i64 io, .int .i64 pt, .int .i64 bk, .int .i64 sl, .string nm, .bool bt, .bool ot, .int .i64 af, .slice pa bl.length pc] 52)).alloc (.cells noM 40)) W → AtC W w.heap.size 40 #[.slice a1 m.xs.length c1, .slice a2 m.ys.length c2, .slice a3 m.is.length c3, .slice a4 m.bs.length c4, .slice a5 m.fs.length c5, .slice a6 m.ds.length c6, .int .i64 m.nx] ∧ AtC W (w.heap.size + 1) 52 #[.int .i64 m.nx, .int .i64 kd, .int .i64 io, .int .i64 pt, .int .i64 bk, .int .i64 sl, .string nm, .bool bt, .bool ot, .int .i64 af, .slice pa bl.length pc] ∧ AtC W (w.heap.size + 1 + 1) 40 noM ∧ Below w.heap.size w W ∧ w.heap.size + 1 + 1 + 1 ≤ W.heap.size) := fun W b2 => by
    have k1 := (AtC.new ((w.alloc (.cells #[.slice a1 m.xs.length c1, .slice a2 m.ys.length c2, .slice a3 m.is.length c3, .slice a4 m.bs.length c4, .slice a5 m.fs.length c5, .slice a6 m.ds.length c6, .int .i64 m.nx] 40)).alloc (.cells #[.int .i64 m.nx, .int .i64 kd, .int .i64 io, .int .i64 pt, .int .i64 bk, .int .i64 sl, .string nm, .bool bt, .bool ot, .int .i64 af, .slice pa bl.length pc] 52)) 40 noM).over b2
    have k2 := ((AtC.new (w.alloc (.cells #[.slice a1 m.xs.length c1, .slice a2 m.ys.length c2, .slice a3 m.is.length c3, .slice a4 m.bs.length c4, .slice a5 m.fs.length c5, .slice a6 m.ds.length c6, .int .i64 m.nx] 40)) 52 #[.int .i64 m.nx, .int .i64 kd, .int .i64 io, .int .i64 pt, .int .i64 bk, .int .i64 sl, .string nm, .bool bt, .bool ot, .int .i64 af, .slice pa bl.length pc]).alloc (.cells noM 40)).over b2
    have sz := b2.size
    simp at k1 k2 sz
    exact ⟨(((AtC.new w 40 _).alloc _).alloc _).over b2, k2, k1, ((((Below.refl _ w).alloc (Nat.le_refl _) _).alloc (by simp) _).alloc (by simp; omega) _).trans (b2.mono (by simp; omega)), sz⟩
  have HNW := hide hnw
  clear hnw
  have hf1 : ¬ ((40 : Int) ≤ (m.ds.length : Int)) := by omega
  have hx1 : ¬ (m.nx < 1) := by omega
  have hy1 : ¬ (100000 ≤ m.nx) := by omega
  obtain ⟨W4, hW4⟩ : ∃ W4, (((w.alloc (.cells #[.slice a1 m.xs.length c1, .slice a2 m.ys.length c2, .slice a3 m.is.length c3, .slice a4 m.bs.length c4, .slice a5 m.fs.length c5, .slice a6 m.ds.length c6, .int .i64 m.nx] 40)).alloc (.cells #[.int .i64 m.nx, .int .i64 kd, .int .i64 io, .int .i64 pt, .int .i64 bk, .int .i64 sl, .string nm, .bool bt, .bool ot, .int .i64 af, .slice pa bl.length pc] 52)).alloc (.cells noM 40)) = W4 := ⟨_, rfl⟩
  have H4 : Hid (AtC W4 w.heap.size 40 #[.slice a1 m.xs.length c1, .slice a2 m.ys.length c2, .slice a3 m.is.length c3, .slice a4 m.bs.length c4, .slice a5 m.fs.length c5, .slice a6 m.ds.length c6, .int .i64 m.nx] ∧ AtC W4 (w.heap.size + 1) 52 #[.int .i64 m.nx, .int .i64 kd, .int .i64 io, .int .i64 pt, .int .i64 bk, .int .i64 sl, .string nm, .bool bt, .bool ot, .int .i64 af, .slice pa bl.length pc] ∧ AtC W4 (w.heap.size + 1 + 1) 40 noM ∧ Below w.heap.size w W4 ∧ w.heap.size + 1 + 1 + 1 ≤ W4.heap.size) := by
    obtain ⟨k1, k2, k3, k4, k5⟩ := HC.out _ (Below.refl _ _)
    rw [← hW4]
    exact ⟨k1, k2, k3, k4, k5⟩
  have g1 := H4.out.1
  have x0 : W4.cell? ⟨w.heap.size, 0, none⟩ = some (.slice a1 m.xs.length c1) := g1.cell 0
  have x1 : W4.cell? ⟨w.heap.size, 1, none⟩ = some (.slice a2 m.ys.length c2) := g1.cell 1
  have x2 : W4.cell? ⟨w.heap.size, 2, none⟩ = some (.slice a3 m.is.length c3) := g1.cell 2
  have x3 : W4.cell? ⟨w.heap.size, 3, none⟩ = some (.slice a4 m.bs.length c4) := g1.cell 3
  have x4 : W4.cell? ⟨w.heap.size, 4, none⟩ = some (.slice a5 m.fs.length c5) := g1.cell 4
  have x5 : W4.cell? ⟨w.heap.size, 5, none⟩ = some (.slice a6 m.ds.length c6) := g1.cell 5
  have x6 : W4.cell? ⟨w.heap.size, 6, none⟩ = some (.int .i64 m.nx) := g1.cell 6
  clear g1
  go_enter Tryz.func19, Tryz.ntmps19
  go_wp2_with fail
  have hW5 := hW4
  unfold noM at hW5
  rw [hW5]
  clear hW5
  refine (leanersOf_any _ m.ds W4 ((H.out.p.below H4.out.2.2.2.1 (Nat.le_refl _))) HG.out.l HG.out.b HG.out.t HW.out).mono ?_
  rintro e w5 ⟨B, E, ps, rfl, O5, F5, G5, B5⟩
  have H5 := hide (And.intro O5 (And.intro F5 (And.intro G5 B5)))
  have g1 := H4.out.1.over B5
  have g2 := H4.out.2.1.over B5
  clear x0 x1 x2 x3 x4 x5 x6
  have x0 : w5.cell? ⟨w.heap.size, 0, none⟩ = some (.slice a1 m.xs.length c1) := g1.cell 0
  have x1 : w5.cell? ⟨w.heap.size, 1, none⟩ = some (.slice a2 m.ys.length c2) := g1.cell 1
  have x2 : w5.cell? ⟨w.heap.size, 2, none⟩ = some (.slice a3 m.is.length c3) := g1.cell 2
  have x3 : w5.cell? ⟨w.heap.size, 3, none⟩ = some (.slice a4 m.bs.length c4) := g1.cell 3
  have x4 : w5.cell? ⟨w.heap.size, 4, none⟩ = some (.slice a5 m.fs.length c5) := g1.cell 4
  have x5 : w5.cell? ⟨w.heap.size, 5, none⟩ = some (.slice a6 m.ds.length c6) := g1.cell 5
  have x6 : w5.cell? ⟨w.heap.size, 6, none⟩ = some (.int .i64 m.nx) := g1.cell 6
  have dd0 : w5.cell? ⟨(w.heap.size + 1), 0, none⟩ = some (.int .i64 m.nx) := g2.cell 0
  have dd1 : w5.cell? ⟨(w.heap.size + 1), 1, none⟩ = some (.int .i64 kd) := g2.cell 1
  have dd2 : w5.cell? ⟨(w.heap.size + 1), 2, none⟩ = some (.int .i64 io) := g2.cell 2
  have dd3 : w5.cell? ⟨(w.heap.size + 1), 3, none⟩ = some (.int .i64 pt) := g2.cell 3
  have dd4 : w5.cell? ⟨(w.heap.size + 1), 4, none⟩ = some (.int .i64 bk) := g2.cell 4
  have dd5 : w5.cell? ⟨(w.heap.size + 1), 5, none⟩ = some (.int .i64 sl) := g2.cell 5
  have dd6 : w5.cell? ⟨(w.heap.size + 1), 6, none⟩ = some (.string nm) := g2.cell 6
  have dd7 : w5.cell? ⟨(w.heap.size + 1), 7, none⟩ = some (.bool bt) := g2.cell 7
  have dd8 : w5.cell? ⟨(w.heap.size + 1), 8, none⟩ = some (.bool ot) := g2.cell 8
  have dd9 : w5.cell? ⟨(w.heap.size + 1), 9, none⟩ = some (.int .i64 af) := g2.cell 9
  have dd10 : w5.cell? ⟨(w.heap.size + 1), 10, none⟩ = some (.slice pa bl.length pc) := g2.cell 10
  clear g1 g2 O5 F5 G5 B5 hW4
  go_wp2_with fail
  refine (put_any W4.heap.size B E ps m.ds.length m.nx kd io pt bk sl nm bt ot af bl _ w5 H5.out.1 (HP.out.below (H4.out.2.2.2.1.trans (H5.out.2.2.2.mono H4.out.2.2.2.1.size)) (Nat.le_refl _)) HL.out HN.out HNW.out (by have q := congrArg List.length H5.out.2.1; rw [List.length_map] at q; omega) H5.out.2.2.2.size).mono ?_
  rintro e w6 ⟨rfl, g, uu, O6, G6⟩
  have H6 : Hid (LE Tryz.prog w6 W4.heap.size B (E ++ [(⟨m.ds.length, (⟨m.nx, kd, io, pt, bk, sl, nm, bt, ot, af, bl⟩ : Dp), g⟩ : Ln)]) (ps ++ [uu]) ∧ (E ++ [(⟨m.ds.length, (⟨m.nx, kd, io, pt, bk, sl, nm, bt, ot, af, bl⟩ : Dp), g⟩ : Ln)]).map (·.d) = m.ds ++ [(⟨m.nx, kd, io, pt, bk, sl, nm, bt, ot, af, bl⟩ : Dp)] ∧ (∀ i j : Fin (E ++ [(⟨m.ds.length, (⟨m.nx, kd, io, pt, bk, sl, nm, bt, ot, af, bl⟩ : Dp), g⟩ : Ln)]).length, i < j → (E ++ [(⟨m.ds.length, (⟨m.nx, kd, io, pt, bk, sl, nm, bt, ot, af, bl⟩ : Dp), g⟩ : Ln)])[i].pl < (E ++ [(⟨m.ds.length, (⟨m.nx, kd, io, pt, bk, sl, nm, bt, ot, af, bl⟩ : Dp), g⟩ : Ln)])[j].pl) ∧ (E ++ [(⟨m.ds.length, (⟨m.nx, kd, io, pt, bk, sl, nm, bt, ot, af, bl⟩ : Dp), g⟩ : Ln)]).length ≤ 1048576 ∧ Below W4.heap.size W4 w6) := by
    obtain ⟨O5, F5, G5, B5⟩ := H5.out
    have q := congrArg List.length F5
    rw [List.length_map] at q
    refine ⟨O6, by rw [List.map_append, F5]; rfl, asc fun j hj => ?_, by rw [List.length_append]; show E.length + 1 ≤ _; omega, B5.grown G6 B5.size (fun k hk => by cases hk; exact O5.loB)⟩
    by_cases e : j < E.length
    · rw [List.getElem_append_left e]; exact G5 j e
    · have e2 : j = E.length := by simp at hj; omega
      subst e2
      simp [q]
  have g1 := H4.out.1.over H6.out.2.2.2.2
  clear x0 x1 x2 x3 x4 x5 x6 dd0 dd1 dd2 dd3 dd4 dd5 dd6 dd7 dd8 dd9 dd10
  have x0 : w6.cell? ⟨w.heap.size, 0, none⟩ = some (.slice a1 m.xs.length c1) := g1.cell 0
  have x1 : w6.cell? ⟨w.heap.size, 1, none⟩ = some (.slice a2 m.ys.length c2) := g1.cell 1
  have x2 : w6.cell? ⟨w.heap.size, 2, none⟩ = some (.slice a3 m.is.length c3) := g1.cell 2
  have x3 : w6.cell? ⟨w.heap.size, 3, none⟩ = some (.slice a4 m.bs.length c4) := g1.cell 3
  have x4 : w6.cell? ⟨w.heap.size, 4, none⟩ = some (.slice a5 m.fs.length c5) := g1.cell 4
  have x5 : w6.cell? ⟨w.heap.size, 5, none⟩ = some (.slice a6 m.ds.length c6) := g1.cell 5
  have x6 : w6.cell? ⟨w.heap.size, 6, none⟩ = some (.int .i64 m.nx) := g1.cell 6
  clear g1 O6 G6 H5
  go_wp2_with fail
  refine (memWith_any W4.heap.size B _ (ps ++ [uu]) _ _ _ _ _ _ m w6 (H.out.below (H4.out.2.2.2.1.trans (H6.out.2.2.2.2.mono H4.out.2.2.2.1.size)) (Nat.le_refl _)) HG.out H6.out.1 H6.out.2.2.1 H6.out.2.2.2.1 H6.out.2.2.2.2.size).mono ?_
  rintro e w7 ⟨u1, u2, u3, u4, u5, u6, rfl, O7, B7⟩
  rw [H6.out.2.1] at O7
  obtain ⟨b1, d1, b2, d2, b3, d3, b4, d4, b5, d5, b6, d6, rfl, rfl, rfl, rfl, rfl, rfl⟩ := O7.mr.form
  generalize hLL : ({ m with ds := m.ds ++ [(⟨m.nx, kd, io, pt, bk, sl, nm, bt, ot, af, bl⟩ : Dp)] } : MD).ds.length = LL at *
  obtain ⟨W8, hW8⟩ : ∃ W8, (w7.alloc (.cells #[.slice b1 m.xs.length d1, .slice b2 m.ys.length d2, .slice b3 m.is.length d3, .slice b4 m.bs.length d4, .slice b5 m.fs.length d5, .slice b6 LL d6, .int .i64 m.nx] 40)) = W8 := ⟨_, rfl⟩
  obtain ⟨W14, hW14⟩ : ∃ W14, W8.setCell ⟨w7.heap.size, 6, none⟩ (.int .i64 (m.nx + 1)) = W14 := ⟨_, rfl⟩
  have HF : Hid (AtC W8 w7.heap.size 40 #[.slice b1 m.xs.length d1, .slice b2 m.ys.length d2, .slice b3 m.is.length d3, .slice b4 m.bs.length d4, .slice b5 m.fs.length d5, .slice b6 LL d6, .int .i64 m.nx] ∧ AtC W14 (w.heap.size + 1) 52 #[.int .i64 m.nx, .int .i64 kd, .int .i64 io, .int .i64 pt, .int .i64 bk, .int .i64 sl, .string nm, .bool bt, .bool ot, .int .i64 af, .slice pa bl.length pc] ∧ AtC W14 (w.heap.size + 1 + 1) 40 noM ∧ AtC W14 w7.heap.size 40 #[.slice b1 m.xs.length d1, .slice b2 m.ys.length d2, .slice b3 m.is.length d3, .slice b4 m.bs.length d4, .slice b5 m.fs.length d5, .slice b6 LL d6, .int .i64 (m.nx + 1)] ∧ MO W14 (fun k => w.heap.size + 1 + 1 + 1 ≤ k ∧ k ≠ w7.heap.size) (.slice b1 m.xs.length d1) (.slice b2 m.ys.length d2) (.slice b3 m.is.length d3) (.slice b4 m.bs.length d4) (.slice b5 m.fs.length d5) (.slice b6 LL d6) ({ m with ds := m.ds ++ [(⟨m.nx, kd, io, pt, bk, sl, nm, bt, ot, af, bl⟩ : Dp)], nx := m.nx + 1 } : MD) ∧ Below w.heap.size w W14 ∧ w.heap.size + 1 + 1 + 1 ≤ w7.heap.size) := by
    obtain ⟨k1, k2, k3, k4, k5⟩ := H4.out
    have B47 := H6.out.2.2.2.2.trans (B7.mono H6.out.2.2.2.2.size)
    have hs7 := B47.size
    have K8 : AtC W8 w7.heap.size 40 #[.slice b1 m.xs.length d1, .slice b2 m.ys.length d2, .slice b3 m.is.length d3, .slice b4 m.bs.length d4, .slice b5 m.fs.length d5, .slice b6 LL d6, .int .i64 m.nx] := by rw [← hW8]; exact AtC.new w7 40 _
    have B48 : Below W4.heap.size W4 W8 := by rw [← hW8]; exact B47.alloc B47.size _
    have O8 := (O7.mono (S' := fun k => w.heap.size + 1 + 1 + 1 ≤ k) (fun k hk => by omega)).bound
    have K14 : AtC (W8.setCell ⟨w7.heap.size, 6, none⟩ (.int .i64 (m.nx + 1))) w7.heap.size 40 #[.slice b1 m.xs.length d1, .slice b2 m.ys.length d2, .slice b3 m.is.length d3, .slice b4 m.bs.length d4, .slice b5 m.fs.length d5, .slice b6 LL d6, .int .i64 (m.nx + 1)] := K8.set 6 _
    have M8 : MO W8 (fun k => w.heap.size + 1 + 1 + 1 ≤ k ∧ k < w7.heap.size) (.slice b1 m.xs.length d1) (.slice b2 m.ys.length d2) (.slice b3 m.is.length d3) (.slice b4 m.bs.length d4) (.slice b5 m.fs.length d5) (.slice b6 LL d6) { m with ds := m.ds ++ [(⟨m.nx, kd, io, pt, bk, sl, nm, bt, ot, af, bl⟩ : Dp)] } := by rw [← hW8]; exact O8.alloc _
    have M9 : MO W8 (fun k => w.heap.size + 1 + 1 + 1 ≤ k ∧ k < w7.heap.size) (.slice b1 m.xs.length d1) (.slice b2 m.ys.length d2) (.slice b3 m.is.length d3) (.slice b4 m.bs.length d4) (.slice b5 m.fs.length d5) (.slice b6 LL d6) ({ m with ds := m.ds ++ [(⟨m.nx, kd, io, pt, bk, sl, nm, bt, ot, af, bl⟩ : Dp)], nx := m.nx + 1 } : MD) := M8
    rw [← hW14]
    refine ⟨K8, (k2.over B48).other (by omega) _, (k3.over B48).other (by omega) _, K14, (M9.of_heap fun k hk _ => heap_setCell_other _ ⟨w7.heap.size, 6, none⟩ k _ (by show k ≠ w7.heap.size; omega)).mono fun k hk => by omega, (k4.trans (B48.mono k4.size)).setCell (by show w.heap.size ≤ w7.heap.size; omega) _, by omega⟩
  have g8 := HF.out.1
  have g8a : W8.cell? ⟨w7.heap.size, 6, none⟩ = some (.int .i64 m.nx) := g8.cell 6
  have g8b := g8.frozen 6
  have j2 := HF.out.2.1
  have j3 := HF.out.2.2.1
  have j4 := HF.out.2.2.2.1
  have i0 : W14.cell? ⟨w.heap.size + 1, 0, none⟩ = some (.int .i64 m.nx) := j2.cell 0
  have y0 : W14.cell? ⟨w7.heap.size, 0, none⟩ = some (.slice b1 m.xs.length d1) := j4.cell 0
  have y1 : W14.cell? ⟨w7.heap.size, 1, none⟩ = some (.slice b2 m.ys.length d2) := j4.cell 1
  have y2 : W14.cell? ⟨w7.heap.size, 2, none⟩ = some (.slice b3 m.is.length d3) := j4.cell 2
  have y3 : W14.cell? ⟨w7.heap.size, 3, none⟩ = some (.slice b4 m.bs.length d4) := j4.cell 3
  have y4 : W14.cell? ⟨w7.heap.size, 4, none⟩ = some (.slice b5 m.fs.length d5) := j4.cell 4
  have y5 : W14.cell? ⟨w7.heap.size, 5, none⟩ = some (.slice b6 LL d6) := j4.cell 5
  have y6 : W14.cell? ⟨w7.heap.size, 6, none⟩ = some (.int .i64 (m.nx + 1)) := j4.cell 6
  have r0 : W14.cell? ⟨(w.heap.size + 1 + 1), 0, none⟩ = some (.slice none 0 0) := j3.cell 0
  have r1 : W14.cell? ⟨(w.heap.size + 1 + 1), 1, none⟩ = some (.slice none 0 0) := j3.cell 1
  have r2 : W14.cell? ⟨(w.heap.size + 1 + 1), 2, none⟩ = some (.slice none 0 0) := j3.cell 2
  have r3 : W14.cell? ⟨(w.heap.size + 1 + 1), 3, none⟩ = some (.slice none 0 0) := j3.cell 3
  have r4 : W14.cell? ⟨(w.heap.size + 1 + 1), 4, none⟩ = some (.slice none 0 0) := j3.cell 4
  have r5 : W14.cell? ⟨(w.heap.size + 1 + 1), 5, none⟩ = some (.slice none 0 0) := j3.cell 5
  have r6 : W14.cell? ⟨(w.heap.size + 1 + 1), 6, none⟩ = some (.int .i64 0) := j3.cell 6
  have v0 := j3.frozen 0
  have v1 := j3.frozen 1
  have v2 := j3.frozen 2
  have v3 := j3.frozen 3
  have v4 := j3.frozen 4
  have v5 := j3.frozen 5
  have v6 := j3.frozen 6
  have HM : Hid (MO ((((((((W14.setCell ⟨(w.heap.size + 1 + 1), 0, none⟩ (.slice b1 m.xs.length d1)).setCell ⟨(w.heap.size + 1 + 1), 1, none⟩ (.slice b2 m.ys.length d2)).setCell ⟨(w.heap.size + 1 + 1), 2, none⟩ (.slice b3 m.is.length d3)).setCell ⟨(w.heap.size + 1 + 1), 3, none⟩ (.slice b4 m.bs.length d4)).setCell ⟨(w.heap.size + 1 + 1), 4, none⟩ (.slice b5 m.fs.length d5)).setCell ⟨(w.heap.size + 1 + 1), 5, none⟩ (.slice b6 LL d6)).setCell ⟨(w.heap.size + 1 + 1), 6, none⟩ (.int .i64 (m.nx + 1)))).drew (fun k => w.heap.size ≤ k) (.slice b1 m.xs.length d1) (.slice b2 m.ys.length d2) (.slice b3 m.is.length d3) (.slice b4 m.bs.length d4) (.slice b5 m.fs.length d5) (.slice b6 LL d6) ({ m with ds := m.ds ++ [(⟨m.nx, kd, io, pt, bk, sl, nm, bt, ot, af, bl⟩ : Dp)], nx := m.nx + 1 } : MD) ∧ Below w.heap.size w ((((((((W14.setCell ⟨(w.heap.size + 1 + 1), 0, none⟩ (.slice b1 m.xs.length d1)).setCell ⟨(w.heap.size + 1 + 1), 1, none⟩ (.slice b2 m.ys.length d2)).setCell ⟨(w.heap.size + 1 + 1), 2, none⟩ (.slice b3 m.is.length d3)).setCell ⟨(w.heap.size + 1 + 1), 3, none⟩ (.slice b4 m.bs.length d4)).setCell ⟨(w.heap.size + 1 + 1), 4, none⟩ (.slice b5 m.fs.length d5)).setCell ⟨(w.heap.size + 1 + 1), 5, none⟩ (.slice b6 LL d6)).setCell ⟨(w.heap.size + 1 + 1), 6, none⟩ (.int .i64 (m.nx + 1)))).drew) := by
    have h3 := HF.out.2.2.2.2.2.2
    exact ⟨(((HF.out.2.2.2.2.1.of_heap fun k hk _ => ((((((heap_setCell_other _ ⟨(w.heap.size + 1 + 1), 6, none⟩ k _ (by show k ≠ (w.heap.size + 1 + 1); omega)).trans (heap_setCell_other _ ⟨(w.heap.size + 1 + 1), 5, none⟩ k _ (by show k ≠ (w.heap.size + 1 + 1); omega))).trans (heap_setCell_other _ ⟨(w.heap.size + 1 + 1), 4, none⟩ k _ (by show k ≠ (w.heap.size + 1 + 1); omega))).trans (heap_setCell_other _ ⟨(w.heap.size + 1 + 1), 3, none⟩ k _ (by show k ≠ (w.heap.size + 1 + 1); omega))).trans (heap_setCell_other _ ⟨(w.heap.size + 1 + 1), 2, none⟩ k _ (by show k ≠ (w.heap.size + 1 + 1); omega))).trans (heap_setCell_other _ ⟨(w.heap.size + 1 + 1), 1, none⟩ k _ (by show k ≠ (w.heap.size + 1 + 1); omega))).trans (heap_setCell_other _ ⟨(w.heap.size + 1 + 1), 0, none⟩ k _ (by show k ≠ (w.heap.size + 1 + 1); omega))).mono fun k hk => by omega).below (Below.refl _ _).drew (Nat.le_refl _)), ((((((((HF.out.2.2.2.2.2.1).setCell (by show w.heap.size ≤ w.heap.size + 1 + 1; omega) _).setCell (by show w.heap.size ≤ w.heap.size + 1 + 1; omega) _).setCell (by show w.heap.size ≤ w.heap.size + 1 + 1; omega) _).setCell (by show w.heap.size ≤ w.heap.size + 1 + 1; omega) _).setCell (by show w.heap.size ≤ w.heap.size + 1 + 1; omega) _).setCell (by show w.heap.size ≤ w.heap.size + 1 + 1; omega) _).setCell (by show w.heap.size ≤ w.heap.size + 1 + 1; omega) _).drew⟩
  clear j2 j3 j4 g8 HF H4 H6 O7 B7 hLL x0 x1 x2 x3 x4 x5 x6
  go_wp2_with fail
  go_region
  go_wp2
  refine bodyPost_ret (v := .tuple #[.agg #[.slice b1 m.xs.length d1, .slice b2 m.ys.length d2, .slice b3 m.is.length d3, .slice b4 m.bs.length d4, .slice b5 m.fs.length d5, .slice b6 LL d6, .int .i64 (m.nx + 1)], .int .i64 m.nx]) (by simp [results, go_sem, r0, r1, r2, r3, r4, r5, r6]) rfl ⟨_, _, _, _, _, _, rfl, HM.out.1, HM.out.2⟩
end Go.Proofs.YtggjillpfclajaaGreat
/- A drawn region whose operations only read and make memory, ahead of others that may come in several orders: each way out is told by its lines. No Go function is spoken of. -/
namespace Go.Proofs.YtggjillpfclajaaGreat.Kit
open Go.RowKit
/-- At each state of the makers some are ready, and no other operation is, but at the states that are listed. -/
def makersOk2 (md : Region.Mode) (ops : Array Oper) (js : List Nat) (exits : List (List Nat)) : Bool :=
  (subs js).all fun t => t == js || exits.contains t || !closedB md ops t || (!(Region.ready md ops (mask ops.size t)).isEmpty && (Region.ready md ops (mask ops.size t)).all fun i => js.contains i && !t.contains i)
/-- At a state each that is ready opens one of the lines. -/
def altOk (md : Region.Mode) (ops : Array Oper) (t : List Nat) (lines : List (List Nat)) : Bool :=
  (Region.ready md ops (mask ops.size t)).all (fun j => lines.any fun l => match l with | i :: r => i == j && (ops[i]?).isSome && lineOk md ops (i :: t) r | [] => false) && !(Region.ready md ops (mask ops.size t)).isEmpty
section
variable {P : Program} {ops : Array Oper} {Q : Exit → Act → World → Prop} {md : Region.Mode}
theorem wpAny_alts (t : List Nat) (lines : List (List Nat)) (fuel : Nat) (a : Act) (w : World) (h : altOk md ops t lines = true) (hl : ∀ l ∈ lines, l.length ≤ fuel) (hw : ∀ l ∈ lines, wpList P ops Q (l.filterMap fun i => ops[i]?) a w) : wpAny P md ops Q fuel (mask ops.size t) a w := by
  simp only [altOk, Bool.and_eq_true, List.all_eq_true, List.any_eq_true] at h
  obtain ⟨h1, h2⟩ := h
  cases fuel with
  | zero =>
    exfalso
    cases hr : Region.ready md ops (mask ops.size t) with
    | nil => rw [hr] at h2; simp at h2
    | cons j r =>
      obtain ⟨l, hl1, hl2⟩ := h1 j (by rw [hr]; simp)
      cases l with
      | nil => simp at hl2
      | cons i r => have := hl _ hl1; simp at this
  | succ fuel =>
    refine wpAny_all rfl (by intro e; rw [e] at h2; simp at h2) fun j hj => ?_
    obtain ⟨l, hl1, hl2⟩ := h1 j hj
    cases l with
    | nil => simp at hl2
    | cons i r =>
      simp only [Bool.and_eq_true, beq_iff_eq] at hl2
      obtain ⟨⟨rfl, h3⟩, h4⟩ := hl2
      obtain ⟨o, ho⟩ := Option.isSome_iff_exists.1 h3
      rw [mask_set]
      have hw' : wpList P ops Q (o :: r.filterMap fun i => ops[i]?) a w := by simpa [ho] using hw _ hl1
      refine wpOp_mono (fun a w hq => wpAny_line r (i :: t) fuel a w h4 (by have := hl _ hl1; simpa using this) hq) ?_
      unfold wpOp
      rw [ho]
      exact hw'
theorem wpAny_makers2 (js : List Nat) (exits : List (List Nat)) (fuel : Nat) (act : (Nat → Value) → Act) (Inv : List Nat → (Nat → Value) → World → Prop) (ok : makersOk2 md ops js exits = true)
    (prod : ∀ j ∈ js, ∀ s x W, j ∈ Region.ready md ops (mask ops.size s) → ¬ j ∈ s → Inv s x W → ∀ K : Act → World → Prop, (∀ v W', Inv (j :: s) (upd x j v) W' → K (act (upd x j v)) W') → wpOp P ops Q j K (act x) W)
    (rest : ∀ s x W f, fuel ≤ f → (∀ i ∈ js, i ∈ s) → Inv s x W → wpAny P md ops Q f (mask ops.size js) (act x) W)
    (out : ∀ t ∈ exits, ∀ s x W f, fuel + (js.filter fun i => !t.contains i).length ≤ f → (∀ i, i ∈ s ↔ i ∈ t) → Inv s x W → wpAny P md ops Q f (mask ops.size t) (act x) W) :
    ∀ (m f : Nat) (s : List Nat) (x : Nat → Value) (W : World), (js.filter fun i => !s.contains i).length ≤ m → fuel ≤ f → (∀ i ∈ s, i ∈ js) → (∀ i ∈ s, ∀ o, ops[i]? = some o → ∀ e ∈ o.after, Region.binds md e = true → e.on ∈ s) → Inv s x W → wpAny P md ops Q (f + m) (mask ops.size s) (act x) W := by
  intro m
  induction m with
  | zero =>
    intro f s x W hc hf hs hcl hv
    have hall : ∀ i ∈ js, i ∈ s := fun i hi => by
      by_cases h : i ∈ s
      · exact h
      · have : i ∈ js.filter fun i => !s.contains i := List.mem_filter.2 ⟨hi, by simpa using h⟩
        rw [List.eq_nil_of_length_eq_zero (Nat.le_zero.1 hc)] at this
        cases this
    rw [mask_congr ops.size s js fun i => ⟨hs i, hall i⟩]
    exact rest s x W (f + 0) (by omega) hall hv
  | succ m ih =>
    intro f s x W hc hf hs hcl hv
    by_cases hall : ∀ i ∈ js, i ∈ s
    · rw [mask_congr ops.size s js fun i => ⟨hs i, hall i⟩]
      exact rest s x W _ (by omega) hall hv
    · have hst : ∀ i, i ∈ s ↔ i ∈ js.filter fun i => s.contains i := fun i => ⟨fun h => List.mem_filter.2 ⟨hs i h, by simpa using h⟩, fun h => by simpa using (List.mem_filter.1 h).2⟩
      have hmask : mask ops.size s = mask ops.size (js.filter fun i => s.contains i) := mask_congr _ _ _ hst
      by_cases hex : (js.filter fun i => s.contains i) ∈ exits
      · rw [hmask]
        refine out _ hex s x W _ ?_ hst hv
        have e : (js.filter fun i => !(js.filter fun i => s.contains i).contains i) = js.filter fun i => !s.contains i := by
          apply List.filter_congr
          intro i hi
          by_cases e2 : i ∈ s <;> simp [hi, e2]
        rw [e]
        omega
      have hk := List.all_eq_true.1 ok _ (filter_subs (fun i => s.contains i) js)
      have hne : ((js.filter fun i => s.contains i) == js) = false := by
        apply Bool.eq_false_iff.2
        intro e
        rw [beq_iff_eq] at e
        exact hall fun i hi => by
          rw [← e] at hi
          simpa using (List.mem_filter.1 hi).2
      have hexf : exits.contains (js.filter fun i => s.contains i) = false := by
        apply Bool.eq_false_iff.2
        intro e
        exact hex (by simpa using e)
      have hclo : closedB md ops (js.filter fun i => s.contains i) = true := by
        refine List.all_eq_true.2 fun i hi => ?_
        have his : i ∈ s := by simpa using (List.mem_filter.1 hi).2
        cases ho : ops[i]? with
        | none => rfl
        | some o =>
          simp only
          refine Array.all_eq_true_iff_forall_mem.2 fun e he => ?_
          cases hbi : Region.binds md e with
          | false => rfl
          | true =>
            have := hcl i his o ho e he hbi
            simp [this, hs _ this]
      rw [hne, hexf, hclo, Bool.false_or, Bool.false_or, Bool.not_true, Bool.false_or, Bool.and_eq_true] at hk
      obtain ⟨h1, h2⟩ := hk
      rw [← hmask] at h1 h2
      refine wpAny_all rfl (by intro e; rw [e] at h1; simp at h1) fun j hj => ?_
      have hj2 := List.all_eq_true.1 h2 j hj
      simp only [Bool.and_eq_true, List.contains_iff_mem, Bool.not_eq_true'] at hj2
      have hjs : j ∈ js := by simpa using hj2.1
      have hjn : ¬ j ∈ s := fun h => by
        have : j ∈ js.filter fun i => s.contains i := List.mem_filter.2 ⟨hjs, by simpa using h⟩
        have h3 := hj2.2
        simp [hjs, h] at h3
      rw [mask_set]
      refine prod j hjs s x W hj hjn hv _ fun v W' hv' => ih f (j :: s) _ W' ?_ hf (fun i hi => (List.mem_cons.1 hi).elim (fun e => e ▸ hjs) (hs i)) (fun i hi o ho e he hbi => List.mem_cons_of_mem _ ((List.mem_cons.1 hi).elim (fun q => by subst q; exact ready_dep hj ho ⟨e, he, rfl, hbi⟩) (fun q => hcl i q o ho e he hbi))) hv'
      have hlt : (js.filter fun i => !(j :: s).contains i).length < (js.filter fun i => !s.contains i).length := by
        have e : (js.filter fun i => !(j :: s).contains i) = (js.filter fun i => !s.contains i).filter fun i => !(i == j) := by
          rw [List.filter_filter]
          apply List.filter_congr
          intro i _
          by_cases e1 : i = j <;> by_cases e2 : i ∈ s <;> simp [e1, e2]
        rw [e, List.length_filter_lt_length_iff_exists]
        exact ⟨j, List.mem_filter.2 ⟨hjs, by simpa using hjn⟩, by simp⟩
      omega
/-- The lines of each way out fit in what is left. -/
def altsOk (md : Region.Mode) (ops : Array Oper) (js line : List Nat) (alts : List (List Nat × List (List Nat))) : Bool :=
  alts.all fun q => altOk md ops q.1 q.2 && q.2.all fun l => decide (l.length ≤ line.length + (js.filter fun i => !q.1.contains i).length)
/-- The region, whatever order is drawn, with the frame written out, and ways out ahead of the end. -/
theorem wp_region_alt {id : Nat} {w : World} {a0 : Act} (hm : P.follows .mixedOrders = true) (js line : List Nat) (alts : List (List Nat × List (List Nat))) (L : Nat → Mk) (act : (Nat → Value) → Act) (x0 : Nat → Value) (ha : a0 = act x0)
    (ok : makersOk2 .any ops js (alts.map (·.1)) = true) (okl : lineOk .any ops js line = true) (oka : altsOk .any ops js line alts = true) (okd : depsOk ops js (fun i => (L i).deps) = true) (hsz : line.length + js.length = ops.size)
    (prod : ∀ j ∈ js, ∀ s x iv W, (∀ k ∈ (L j).deps, k ∈ s) → PX w.drew s (fun i lo hi w x => (L i).P lo hi w (x i) x) x iv W → ∀ K : Act → World → Prop, (∀ v W', Below W.heap.size W W' → (L j).P W.heap.size W'.heap.size W' v (upd x j v) → K (act (upd x j v)) W') → wpOp P ops Q j K (act x) W)
    (rest : ∀ x iv W, PX w.drew js (fun i lo hi w x => (L i).P lo hi w (x i) x) x iv W → wpList P ops Q (line.filterMap fun i => ops[i]?) (act x) W)
    (out : ∀ q ∈ alts, ∀ l ∈ q.2, ∀ x iv W, PX w.drew q.1 (fun i lo hi w x => (L i).P lo hi w (x i) x) x iv W → wpList P ops Q (l.filterMap fun i => ops[i]?) (act x) W) : (Code.region id ops true).wp P Q a0 w := by
  have dep : ∀ j ∈ js, ∀ s, j ∈ Region.ready .any ops (mask ops.size s) → ∀ k ∈ (L j).deps, k ∈ s := by
    intro j hj s hr k hk
    have h := List.all_eq_true.1 okd j hj
    cases ho : ops[j]? with
    | none => rw [ho] at h; cases h
    | some o =>
      rw [ho] at h
      simp only [List.all_eq_true, Array.any_eq_true] at h
      obtain ⟨i, hi, h2⟩ := h k hk
      simp only [Bool.and_eq_true, beq_iff_eq] at h2
      exact ready_dep hr ho ⟨o.after[i], Array.getElem_mem hi, h2.1, h2.2⟩
  subst ha
  refine wp_region_any hm ?_
  have h := wpAny_makers2 (P := P) (Q := Q) (md := .any) js (alts.map (·.1)) line.length act (fun s x W => (∀ i ∈ s, ∀ k ∈ (L i).deps, k ∈ s) ∧ ∃ iv, PX w.drew s (fun i lo hi w x => (L i).P lo hi w (x i) x) x iv W) ok ?_ ?_ ?_ js.length line.length [] x0 w.drew (List.length_filter_le _ _) (Nat.le_refl _) (fun i hi => by cases hi) (fun i hi => by cases hi) ⟨(fun i hi => by cases hi), fun _ => (0, 0), ⟨Below.refl _ _, (fun i hi => by cases hi), (fun i hi => by cases hi), (fun i hi => by cases hi)⟩⟩
  · rw [hsz, mask_nil] at h
    exact h
  · intro j hj s x W hr hns hI K hK
    obtain ⟨hcl, iv2, hp⟩ := hI
    have hd := dep j hj s hr
    refine prod j hj s x iv2 W hd hp K fun v W' hb hpo => hK v W' ⟨fun i hi k hk => ?_, _, hp.add (fun i => (L i).deps) (fun i lo hi w w' x h hb => (L i).st lo hi w w' (x i) x h hb) (fun i lo hi w x x' e1 e2 h => by rw [← e1]; exact (L i).cg lo hi w (x i) x x' e2 h) hcl hns hb (by rw [upd_self]; exact hpo)⟩
    rcases List.mem_cons.1 hi with rfl | hi
    · exact List.mem_cons_of_mem _ (hd k hk)
    · exact List.mem_cons_of_mem _ (hcl i hi k hk)
  · intro s x W f hf hs hI
    obtain ⟨-, iv2, hp⟩ := hI
    exact wpAny_line line js f (act x) W okl hf (rest x iv2 W (hp.of_mem hs))
  · intro t ht s x W f hf hst hI
    obtain ⟨-, iv2, hp⟩ := hI
    obtain ⟨q, hq, rfl⟩ := List.mem_map.1 ht
    have h1 := List.all_eq_true.1 oka q hq
    simp only [Bool.and_eq_true, List.all_eq_true, decide_eq_true_eq] at h1
    exact wpAny_alts q.1 q.2 f (act x) W h1.1 (fun l hl => Nat.le_trans (h1.2 l hl) hf) fun l hl => out q hq l hl x iv2 W (hp.of_mem fun i hi => (hst i).2 hi)
end
end Go.Proofs.YtggjillpfclajaaGreat.Kit
