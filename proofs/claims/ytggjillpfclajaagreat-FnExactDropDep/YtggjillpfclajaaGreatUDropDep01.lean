/- Texts of the proof, bundled: Dl, Di, Ds. -/
import Derived.Test.YtggjillpfclajaaGreatU10
import Derived.Test.YtggjillpfclajaaGreatU13
/- An Id is struck: what the leaners are then. No Go function is spoken of. -/
namespace Go.Proofs.YtggjillpfclajaaGreat.Kit
open Go.RowKit Go.Maps
/-- Where what is kept stood. -/
theorem filter_at {α : Type} (p : α → Bool) : ∀ l : List α, ∃ f : Nat → Nat, (∀ (j : Nat) (h : j < (l.filter p).length), ∃ h' : f j < l.length, (l.filter p)[j] = l[f j] ∧ (l.take (f j)).filter p = (l.filter p).take j) ∧ ∀ i j, i < j → j < (l.filter p).length → f i < f j
  | [] => ⟨fun _ => 0, fun j h => by simp at h, fun i j _ h => by simp at h⟩
  | a :: l => by
    obtain ⟨f, h1, h2⟩ := filter_at p l
    by_cases hp : p a = true
    · refine ⟨fun j => match j with | 0 => 0 | j + 1 => f j + 1, fun j h => ?_, fun i j hij h => ?_⟩
      · cases j with
        | zero => exact ⟨by simp, by simp [hp], by simp⟩
        | succ j =>
          simp only [List.filter_cons, hp, if_true, List.length_cons] at h
          obtain ⟨q1, q2, q3⟩ := h1 j (by omega)
          refine ⟨by simpa using q1, ?_, ?_⟩
          · simp only [List.filter_cons, hp, if_true, List.getElem_cons_succ]
            exact q2
          · simp only [List.take_succ_cons, List.filter_cons, hp, if_true, q3]
      · simp only [List.filter_cons, hp, if_true, List.length_cons] at h
        cases j with
        | zero => omega
        | succ j =>
          cases i with
          | zero => simp
          | succ i =>
            have := h2 i j (by omega) (by omega)
            simp only
            omega
    · refine ⟨fun j => f j + 1, fun j h => ?_, fun i j hij h => ?_⟩
      · simp only [List.filter_cons, hp, Bool.false_eq_true, if_false] at h
        obtain ⟨q1, q2, q3⟩ := h1 j h
        refine ⟨by simpa using q1, ?_, ?_⟩
        · simp only [List.filter_cons, hp, Bool.false_eq_true, if_false, List.getElem_cons_succ]
          exact q2
        · simp only [List.take_succ_cons, List.filter_cons, hp, Bool.false_eq_true, if_false, q3]
      · simp only [List.filter_cons, hp, Bool.false_eq_true, if_false] at h
        have := h2 i j hij h
        simp only
        omega
theorem lastP_kept (id x : Int) (hx : x ≠ id) (l : List Ln) : ∀ acc : Option Nat, (l.filter fun e => !decide (e.d.id = id)).foldl (fun acc e => if e.d.id = x then some e.b else acc) acc = l.foldl (fun acc e => if e.d.id = x then some e.b else acc) acc := by
  induction l with
  | nil => exact fun _ => rfl
  | cons a l ih =>
    intro acc
    by_cases h : a.d.id = id
    · rw [List.filter_cons, if_neg (by simp [h]), ih, List.foldl_cons, if_neg (fun e => hx (by rw [← e, h]))]
    · rw [List.filter_cons, if_pos (by simp [h]), List.foldl_cons, List.foldl_cons, ih]
theorem lastP_filter (id x : Int) (hx : x ≠ id) (l : List Ln) : lastP x (l.filter fun e => !decide (e.d.id = id)) = lastP x l := lastP_kept id x hx l none
theorem lastP_gone (id : Int) (l : List Ln) : lastP id (l.filter fun e => !decide (e.d.id = id)) = none := by
  rcases lastP_spec id (l.filter fun e => !decide (e.d.id = id)) _ (Nat.le_refl _) with ⟨h, -⟩ | ⟨i, hi, -, -, h, -⟩
  · rw [List.take_length] at h; exact h
  · have := List.getElem_mem hi
    rw [List.mem_filter] at this
    simp [h] at this
theorem getD_at {α : Type} (l : List α) (d : α) (k : Nat) (h : k < l.length) : l.getD k d = l[k] := by simp [List.getD, h]
/-- Without those of an Id. -/
theorem LEN.del {P : Program} {w w' : World} {L B N : Nat} {E : List Ln} {ps : List Value} (h : LEN P w L B E ps N) {id : Int} {E' : List Ln} (hE' : (E.filter fun e => !decide (e.d.id = id)) = E') {D : DataW Nat} (hD : (∀ id, (Lit.int .i64 id).wf = true → D.atKey (.int .i64 id) .nil = datP (lastP id E)) ∧ ∀ id, (Lit.int .i64 id).wf = true → Maps.has D (.int .i64 id) = (lastP id E).isSome)
    (hm : w'.ownsMap P 3 ptrE B N (D.del (.int .i64 id))) (hg : w.grownBy w' (some B)) :
    ∃ ps', LEN P w' L B E' ps' N ∧ ((∀ i j : Fin E.length, i < j → E[i].pl < E[j].pl) → ∀ i j : Fin E'.length, i < j → E'[i].pl < E'[j].pl) := by
  have hlen := h.len
  have hfa := filter_at (fun e : Ln => !decide (e.d.id = id)) E
  rw [hE'] at hfa
  obtain ⟨f, h1, h2⟩ := hfa
  have hid : ∀ (j : Nat) (hj : j < E'.length), E'[j].d.id ≠ id := fun j hj => by
    have m : ∀ y ∈ E', y.d.id ≠ id := fun y hy => by
      rw [← hE', List.mem_filter] at hy
      simpa using hy.2
    exact m _ (List.getElem_mem hj)
  have fl : ∀ j, j < E'.length → f j < E.length := fun j hj => (h1 j hj).1
  have fi : ∀ i j, i < E'.length → j < E'.length → i ≠ j → f i ≠ f j := fun i j hi hj hne => by
    rcases Nat.lt_or_gt_of_ne hne with q | q
    · have := h2 i j q hj; omega
    · have := h2 j i q hi; omega
  have oth : ∀ k, k < w.heap.size → k ≠ B → w'.heap[k]? = w.heap[k]? := fun k hk hne => hg.block k hk (fun e => hne (by cases e; rfl))
  refine ⟨(List.range E'.length).map fun j => ps.getD (f j) undef, ⟨by simp, ⟨_, hm, fun x hx => ?_, fun x hx => ?_⟩, fun j hj hj' => ?_, fun j hj hj' => ?_, h.loB, fun j hj => ?_, fun j hj k hk => ?_, fun i j hi hj hne => ?_, fun j hj => ?_, fun i j hi hj hne k e1 => ?_, fun i j hi hj k e1 => ?_, fun i hi k e1 => ?_, fun j hj => ?_⟩, fun hpl i j hij => ?_⟩
  · by_cases e : x = id
    · subst e
      rw [atKey_del_same, ← hE', lastP_gone]; rfl
    · rw [atKey_del_other (fun q => e (by injection q)), hD.1 x hx, ← hE', lastP_filter id x e]
  · by_cases e : x = id
    · subst e
      rw [has_del_same, ← hE', lastP_gone]; rfl
    · rw [has_del_other (fun q => e (by injection q)), hD.2 x hx, ← hE', lastP_filter id x e]
  · obtain ⟨q1, q2, q3⟩ := h1 j hj
    have k := h.cell (f j) q1 (by omega)
    have hn := hid j hj
    have e1 : lastP E'[j].d.id (E'.take j) = lastP E[f j].d.id (E.take (f j)) := by
      rw [← q3, lastP_filter _ _ hn, q2]
    rw [e1]
    have e2 : ((List.range E'.length).map fun j => ps.getD (f j) undef)[j] = ps[f j]'(by omega) := by
      rw [List.getElem_map, List.getElem_range, getD_at _ _ _ (by omega)]
    rw [e2, q2]
    exact (oth _ k.lt (h.nB (f j) q1)).trans k
  · obtain ⟨q1, q2, q3⟩ := h1 j hj
    have k := h.own (f j) q1 (by omega)
    have e2 : ((List.range E'.length).map fun j => ps.getD (f j) undef)[j] = ps[f j]'(by omega) := by
      rw [List.getElem_map, List.getElem_range, getD_at _ _ _ (by omega)]
    rw [e2, q2]
    exact k.of_heap fun q hq => oth q (k.lt q hq).2 (h.npB (f j) (by omega) q hq)
  · obtain ⟨q1, q2, -⟩ := h1 j hj
    rw [q2]; exact h.lob (f j) q1
  · have hj' : j < E'.length := by simpa using hj
    have q1 := fl j hj'
    rw [List.getElem_map, List.getElem_range, getD_at _ _ _ (by omega)] at hk
    exact h.lop (f j) (by omega) k hk
  · obtain ⟨q1, q2, -⟩ := h1 i hi
    obtain ⟨r1, r2, -⟩ := h1 j hj
    rw [q2, r2]; exact h.nb _ _ q1 r1 (fi i j hi hj hne)
  · obtain ⟨q1, q2, -⟩ := h1 j hj
    rw [q2]; exact h.nB (f j) q1
  · have hi' : i < E'.length := by simpa using hi
    have hj' : j < E'.length := by simpa using hj
    have q1 := fl i hi'
    have q2 := fl j hj'
    rw [List.getElem_map, List.getElem_range, getD_at _ _ _ (by omega)] at e1 ⊢
    exact h.np (f i) (f j) (by omega) (by omega) (fi i j hi' hj' hne) k e1
  · have hi' : i < E'.length := by simpa using hi
    have q1 := fl i hi'
    obtain ⟨r1, r2, -⟩ := h1 j hj
    rw [List.getElem_map, List.getElem_range, getD_at _ _ _ (by omega)] at e1
    rw [r2]; exact h.npb (f i) (f j) (by omega) r1 k e1
  · have hi' : i < E'.length := by simpa using hi
    have q1 := fl i hi'
    rw [List.getElem_map, List.getElem_range, getD_at _ _ _ (by omega)] at e1
    exact h.npB (f i) (by omega) k e1
  · obtain ⟨q1, q2, -⟩ := h1 j hj
    rw [q2]; exact h.wf (f j) q1
  · obtain ⟨q1, q2, -⟩ := h1 i i.2
    obtain ⟨r1, r2, -⟩ := h1 j j.2
    show E'[i.1].pl < E'[j.1].pl
    rw [q2, r2]
    exact hpl ⟨f i, q1⟩ ⟨f j, r1⟩ (h2 i j hij j.2)
end Go.Proofs.YtggjillpfclajaaGreat.Kit
/- impl.DropDep by its contract. -/
namespace Go.Proofs.YtggjillpfclajaaGreat
open Go.RowKit Kit Go.Maps
/-- Those that lean, without one Id. -/
def dropDs (id : Int) (ds : List Dp) : List Dp := ds.filter fun d => !decide (d.id = id)
set_option maxRecDepth 100000 in
set_option maxHeartbeats 3200000 in
theorem dropI_any (id : Int) (hid : (Lit.int .i64 id).wf = true) (u v iv bv dv pv : Value) (m : MD) (w : World) (h : MR w u v iv bv dv pv m) (hB : BigM 1048576 m) (hw : ∀ (j : Nat) (h : j < m.ds.length), (Lit.int .i64 m.ds[j].id).wf = true) :
    Calls Tryz.prog 23 #[.agg #[u, v, iv, bv, dv, pv, .int .i64 m.nx], .int .i64 id] w fun e w' => ∃ u' v' i' b' d' p', e = .returned (.agg #[u', v', i', b', d', p', .int .i64 m.nx]) ∧ MO w' (fun k => w.heap.size ≤ k) u' v' i' b' d' p' { m with ds := dropDs id m.ds } ∧ Below w.heap.size w w' := by
  have H := hide h
  have HG := hide hB
  have HW := hide hw
  have HID := hide hid
  obtain ⟨a1, c1, a2, c2, a3, c3, a4, c4, a5, c5, a6, c6, rfl, rfl, rfl, rfl, rfl, rfl⟩ := h.form
  clear h hB hw hid
  have HC : Hid (∀ W, Below ((w.alloc (.cells #[.slice a1 m.xs.length c1, .slice a2 m.ys.length c2, .slice a3 m.is.length c3, .slice a4 m.bs.length c4, .slice a5 m.fs.length c5, .slice a6 m.ds.length c6, .int .i64 m.nx] 40)).alloc (.cells noM 40)).heap.size ((w.alloc (.cells #[.slice a1 m.xs.length c1, .slice a2 m.ys.length c2, .slice a3 m.is.length c3, .slice a4 m.bs.length c4, .slice a5 m.fs.length c5, .slice a6 m.ds.length c6, .int .i64 m.nx] 40)).alloc (.cells noM 40)) W → AtC W w.heap.size 40 #[.slice a1 m.xs.length c1, .slice a2 m.ys.length c2, .slice a3 m.is.length c3, .slice a4 m.bs.length c4, .slice a5 m.fs.length c5, .slice a6 m.ds.length c6, .int .i64 m.nx] ∧ AtC W (w.heap.size + 1) 40 noM ∧ Below w.heap.size w W ∧ w.heap.size + 1 + 1 ≤ W.heap.size) := fun W b2 => by
    have k1 := (AtC.new (w.alloc (.cells #[.slice a1 m.xs.length c1, .slice a2 m.ys.length c2, .slice a3 m.is.length c3, .slice a4 m.bs.length c4, .slice a5 m.fs.length c5, .slice a6 m.ds.length c6, .int .i64 m.nx] 40)) 40 noM).over b2
    have sz := b2.size
    simp at k1 sz
    exact ⟨((AtC.new w 40 _).alloc _).over b2, k1, (((Below.refl _ w).alloc (Nat.le_refl _) _).alloc (by simp) _).trans (b2.mono (by simp; omega)), sz⟩
  go_enter Tryz.func23, Tryz.ntmps23
  go_wp2_with fail
  refine (leanersOf_any _ m.ds _ ((H.out.p.below (HC.out _ (Below.refl _ _)).2.2.1 (Nat.le_refl _))) HG.out.l HG.out.b HG.out.t HW.out).mono ?_
  rintro e w2 ⟨B, E, ps, rfl, O2, F2, G2, B2⟩
  obtain ⟨D, m1, m2, m3⟩ := O2.map
  have HB2 := hide B2
  have HO2 := hide (And.intro O2 (And.intro F2 (And.intro G2 (And.intro m2 m3))))
  clear O2 F2 G2 m2 m3 B2
  obtain ⟨w5, hrun5, o5, t5⟩ := m1.drop (int_keyed Tryz.u3) Tryz.u78 (keyOf_int_mk Tryz.u3 HID.out) 0
  have HD : Hid (Below ((w.alloc (.cells #[.slice a1 m.xs.length c1, .slice a2 m.ys.length c2, .slice a3 m.is.length c3, .slice a4 m.bs.length c4, .slice a5 m.fs.length c5, .slice a6 m.ds.length c6, .int .i64 m.nx] 40)).alloc (.cells noM 40)).heap.size ((w.alloc (.cells #[.slice a1 m.xs.length c1, .slice a2 m.ys.length c2, .slice a3 m.is.length c3, .slice a4 m.bs.length c4, .slice a5 m.fs.length c5, .slice a6 m.ds.length c6, .int .i64 m.nx] 40)).alloc (.cells noM 40)) w5 ∧ ∃ E' ps', LEN Tryz.prog w5 ((w.alloc (.cells #[.slice a1 m.xs.length c1, .slice a2 m.ys.length c2, .slice a3 m.is.length c3, .slice a4 m.bs.length c4, .slice a5 m.fs.length c5, .slice a6 m.ds.length c6, .int .i64 m.nx] 40)).alloc (.cells noM 40)).heap.size B E' ps' E.length ∧ E'.map (·.d) = dropDs id m.ds ∧ (∀ i j : Fin E'.length, i < j → E'[i].pl < E'[j].pl) ∧ E'.length ≤ 1048576) := by
    obtain ⟨O2, F2, G2, m2, m3⟩ := HO2.out
    obtain ⟨ps', q1, q2⟩ := O2.del (id := id) rfl ⟨m2, m3⟩ o5 t5.grown
    refine ⟨HB2.out.grown t5.grown HB2.out.size (fun k hk => by cases hk; exact O2.loB), _, ps', q1, ?_, q2 (asc G2), ?_⟩
    · rw [← F2]
      simp only [dropDs, List.filter_map]
      rfl
    · have q3 := HG.out.l
      rw [← F2, List.length_map] at q3
      exact Nat.le_trans (List.length_filter_le _ _) q3
  obtain ⟨E', ps', L5, F5, G5, N5⟩ := HD.out.2
  have kA := (HC.out w5 HD.out.1).1
  have x0 : w5.cell? ⟨w.heap.size, 0, none⟩ = some (.slice a1 m.xs.length c1) := kA.cell 0
  have x1 : w5.cell? ⟨w.heap.size, 1, none⟩ = some (.slice a2 m.ys.length c2) := kA.cell 1
  have x2 : w5.cell? ⟨w.heap.size, 2, none⟩ = some (.slice a3 m.is.length c3) := kA.cell 2
  have x3 : w5.cell? ⟨w.heap.size, 3, none⟩ = some (.slice a4 m.bs.length c4) := kA.cell 3
  have x4 : w5.cell? ⟨w.heap.size, 4, none⟩ = some (.slice a5 m.fs.length c5) := kA.cell 4
  have x5 : w5.cell? ⟨w.heap.size, 5, none⟩ = some (.slice a6 m.ds.length c6) := kA.cell 5
  have x6 : w5.cell? ⟨w.heap.size, 6, none⟩ = some (.int .i64 m.nx) := kA.cell 6
  have HL5 := hide L5
  clear L5 kA o5 t5 HO2
  go_wp2_with fail
  refine (memWith_any _ B E' ps' _ _ _ _ _ _ m w5 (H.out.below (HC.out w5 HD.out.1).2.2.1 (Nat.le_refl _)) HG.out HL5.out G5 N5 HD.out.1.size).mono ?_
  rintro e w9 ⟨u1, u2, u3, u4, u5, u6, rfl, O9, B9⟩
  rw [F5] at O9
  obtain ⟨b1, d1, b2, d2, b3, d3, b4, d4, b5, d5, b6, d6, rfl, rfl, rfl, rfl, rfl, rfl⟩ := O9.mr.form
  have q9 := HC.out w9 (HD.out.1.trans (B9.mono HD.out.1.size))
  have kR := q9.2.1
  have r0 : w9.cell? ⟨w.heap.size + 1, 0, none⟩ = some (.slice none 0 0) := kR.cell 0
  have v0 := kR.frozen 0
  have r1 : w9.cell? ⟨w.heap.size + 1, 1, none⟩ = some (.slice none 0 0) := kR.cell 1
  have v1 := kR.frozen 1
  have r2 : w9.cell? ⟨w.heap.size + 1, 2, none⟩ = some (.slice none 0 0) := kR.cell 2
  have v2 := kR.frozen 2
  have r3 : w9.cell? ⟨w.heap.size + 1, 3, none⟩ = some (.slice none 0 0) := kR.cell 3
  have v3 := kR.frozen 3
  have r4 : w9.cell? ⟨w.heap.size + 1, 4, none⟩ = some (.slice none 0 0) := kR.cell 4
  have v4 := kR.frozen 4
  have r5 : w9.cell? ⟨w.heap.size + 1, 5, none⟩ = some (.slice none 0 0) := kR.cell 5
  have v5 := kR.frozen 5
  have r6 : w9.cell? ⟨w.heap.size + 1, 6, none⟩ = some (.int .i64 0) := kR.cell 6
  have v6 := kR.frozen 6
  have HM : Hid (MO ((((((((w9.setCell ⟨w.heap.size + 1, 0, none⟩ (.slice b1 m.xs.length d1)).setCell ⟨w.heap.size + 1, 1, none⟩ (.slice b2 m.ys.length d2)).setCell ⟨w.heap.size + 1, 2, none⟩ (.slice b3 m.is.length d3)).setCell ⟨w.heap.size + 1, 3, none⟩ (.slice b4 m.bs.length d4)).setCell ⟨w.heap.size + 1, 4, none⟩ (.slice b5 m.fs.length d5)).setCell ⟨w.heap.size + 1, 5, none⟩ (.slice b6 (dropDs id m.ds).length d6)).setCell ⟨w.heap.size + 1, 6, none⟩ (.int .i64 m.nx))) (fun k => w.heap.size ≤ k) (.slice b1 m.xs.length d1) (.slice b2 m.ys.length d2) (.slice b3 m.is.length d3) (.slice b4 m.bs.length d4) (.slice b5 m.fs.length d5) (.slice b6 (dropDs id m.ds).length d6) { m with ds := dropDs id m.ds } ∧ Below w.heap.size w ((((((((w9.setCell ⟨w.heap.size + 1, 0, none⟩ (.slice b1 m.xs.length d1)).setCell ⟨w.heap.size + 1, 1, none⟩ (.slice b2 m.ys.length d2)).setCell ⟨w.heap.size + 1, 2, none⟩ (.slice b3 m.is.length d3)).setCell ⟨w.heap.size + 1, 3, none⟩ (.slice b4 m.bs.length d4)).setCell ⟨w.heap.size + 1, 4, none⟩ (.slice b5 m.fs.length d5)).setCell ⟨w.heap.size + 1, 5, none⟩ (.slice b6 (dropDs id m.ds).length d6)).setCell ⟨w.heap.size + 1, 6, none⟩ (.int .i64 m.nx)))) := by
    have O10 := O9.mono (S' := fun k => w.heap.size + 1 + 1 ≤ k) (fun k hk => by simp at hk; omega)
    exact ⟨(O10.of_heap fun k hk _ => ((((((heap_setCell_other _ ⟨w.heap.size + 1, 6, none⟩ k _ (by show k ≠ w.heap.size + 1; omega)).trans (heap_setCell_other _ ⟨w.heap.size + 1, 5, none⟩ k _ (by show k ≠ w.heap.size + 1; omega))).trans (heap_setCell_other _ ⟨w.heap.size + 1, 4, none⟩ k _ (by show k ≠ w.heap.size + 1; omega))).trans (heap_setCell_other _ ⟨w.heap.size + 1, 3, none⟩ k _ (by show k ≠ w.heap.size + 1; omega))).trans (heap_setCell_other _ ⟨w.heap.size + 1, 2, none⟩ k _ (by show k ≠ w.heap.size + 1; omega))).trans (heap_setCell_other _ ⟨w.heap.size + 1, 1, none⟩ k _ (by show k ≠ w.heap.size + 1; omega))).trans (heap_setCell_other _ ⟨w.heap.size + 1, 0, none⟩ k _ (by show k ≠ w.heap.size + 1; omega))).mono fun k hk => by omega, (((((((q9.2.2.1).setCell (by simp) _).setCell (by simp) _).setCell (by simp) _).setCell (by simp) _).setCell (by simp) _).setCell (by simp) _).setCell (by simp) _⟩
  clear q9 kR O9 B9 HL5
  go_wp2
  refine bodyPost_ret (v := .agg #[.slice b1 m.xs.length d1, .slice b2 m.ys.length d2, .slice b3 m.is.length d3, .slice b4 m.bs.length d4, .slice b5 m.fs.length d5, .slice b6 (dropDs id m.ds).length d6, .int .i64 m.nx]) (by simp [results, go_sem, r0, r1, r2, r3, r4, r5, r6]) rfl ⟨_, _, _, _, _, _, rfl, HM.out.1, HM.out.2⟩
end Go.Proofs.YtggjillpfclajaaGreat
/- spec.DropDep by its contract. -/
namespace Go.Proofs.YtggjillpfclajaaGreat.Kit
open Go.RowKit Go.Maps
/-- The rows of what is kept. -/
def rowsK (id : Int) (ts : List Row) (ds : List Dp) : List Row := ((ts.zip ds).filter fun q => !decide (q.2.id = id)).map (·.1)
theorem rowsK_nil (id : Int) : rowsK id [] [] = [] := rfl
theorem rowsK_snoc (id : Int) (ts : List Row) (ds : List Dp) (hl : ts.length = ds.length) (j : Nat) (h1 : j < ts.length) (h2 : j < ds.length) : rowsK id (ts.take (j + 1)) (ds.take (j + 1)) = rowsK id (ts.take j) (ds.take j) ++ (if ds[j].id = id then [] else [ts[j]]) := by
  unfold rowsK
  rw [← List.take_append_getElem h1, ← List.take_append_getElem h2, List.zip_append (by rw [List.length_take, List.length_take]; omega), List.filter_append, List.map_append]
  congr 1
  by_cases e : ds[j].id = id <;> simp [e]
theorem GN.keep {w w2 : World} {S : Nat → Prop} {v lv : Value} {ts : List Row} {ds : List Dp} (h : GN KDep w S v ts ds) (id : Int) (hn : NOwns w2 52 11 lv (rowsK id ts ds)) (hlo : ∀ k, lv.ownBlock = some k → w.heap.size ≤ k) (hb : Below w.heap.size w w2) :
    GN KDep w2 (fun k => (S k ∧ k < w.heap.size) ∨ w.heap.size ≤ k) lv (rowsK id ts ds) (ds.filter fun d => !decide (d.id = id)) := by
  have hl := h.len
  obtain ⟨f, h1, h2⟩ := filter_at (fun q : Row × Dp => !decide (q.2.id = id)) (ts.zip ds)
  have e1 : (ds.filter fun d => !decide (d.id = id)) = ((ts.zip ds).filter fun q => !decide (q.2.id = id)).map (·.2) := by
    rw [show ds = (ts.zip ds).map (·.2) from (List.map_snd_zip (by omega)).symm]
    rw [List.filter_map, List.map_snd_zip (by omega)]
    rfl
  have hlz : (ts.zip ds).length = ts.length := by rw [List.length_zip]; omega
  have hr : ∀ (j : Nat) (hj : j < (rowsK id ts ds).length), ∃ (q1 : f j < ts.length) (q2 : f j < ds.length), (rowsK id ts ds)[j] = ts[f j] ∧ ∀ (h' : j < (ds.filter fun d => !decide (d.id = id)).length), (ds.filter fun d => !decide (d.id = id))[j] = ds[f j] := fun j hj => by
    have hj2 : j < ((ts.zip ds).filter fun q => !decide (q.2.id = id)).length := by simpa [rowsK] using hj
    obtain ⟨p1, p2, -⟩ := h1 j hj2
    refine ⟨by omega, by omega, ?_, fun h' => ?_⟩
    · simp only [rowsK, List.getElem_map, p2, List.getElem_zip]
    · simp only [e1, List.getElem_map, p2, List.getElem_zip]
  have fi : ∀ i j, i < (rowsK id ts ds).length → j < (rowsK id ts ds).length → i ≠ j → f i ≠ f j := fun i j hi hj hne => by
    have hi2 : i < ((ts.zip ds).filter fun q => !decide (q.2.id = id)).length := by simpa [rowsK] using hi
    have hj2 : j < ((ts.zip ds).filter fun q => !decide (q.2.id = id)).length := by simpa [rowsK] using hj
    rcases Nat.lt_or_gt_of_ne hne with q | q
    · have := h2 i j q hj2; omega
    · have := h2 j i q hi2; omega
  have hlt : ∀ (j : Nat) (hj : j < ts.length) (k : Nat), (KDep.p ts[j]).ownBlock = some k → k < w.heap.size := fun j hj k hk => KDep.lt (h.inn j hj (by omega)) k hk
  refine ⟨by rw [e1]; simp [rowsK], hn, fun j hj hj' => ?_, fun i j hi hj hne k => ?_, fun j hj k e2 e3 => ?_, fun k e => .inr (hlo k e), fun j hj k e => ?_⟩
  · obtain ⟨q1, q2, q3, q4⟩ := hr j hj
    rw [q3, q4 hj']
    exact KDep.heap (h.inn (f j) q1 q2) fun k hk => hb.block k (hlt (f j) q1 k hk)
  · obtain ⟨q1, q2, q3, -⟩ := hr i hi
    obtain ⟨r1, r2, r3, -⟩ := hr j hj
    rw [q3, r3]
    exact h.sep (f i) (f j) q1 r1 (fi i j hi hj hne) k
  · obtain ⟨q1, q2, q3, -⟩ := hr j hj
    rw [q3] at e2
    have := hlt (f j) q1 k e2
    have := hlo k e3
    omega
  · obtain ⟨q1, q2, q3, -⟩ := hr j hj
    rw [q3] at e
    exact .inl ⟨h.si (f j) q1 k e, hlt (f j) q1 k e⟩
end Go.Proofs.YtggjillpfclajaaGreat.Kit
namespace Go.Proofs.YtggjillpfclajaaGreat
open Go.RowKit Kit Go.Maps
set_option maxRecDepth 100000 in
set_option maxHeartbeats 3200000 in
theorem dropS_any (id : Int) (u v iv bv dv pv : Value) (m : MD) (w : World) (h : MR w u v iv bv dv pv m) (hB : BigM 1048576 m) :
    Calls Tryz.prog 22 #[.agg #[u, v, iv, bv, dv, pv, .int .i64 m.nx], .int .i64 id] w fun e w' => ∃ u' v' i' b' d' p', e = .returned (.agg #[u', v', i', b', d', p', .int .i64 m.nx]) ∧ MO w' (fun k => w.heap.size ≤ k) u' v' i' b' d' p' { m with ds := dropDs id m.ds } ∧ Below w.heap.size w w' := by
  have H := hide h
  have HG := hide hB
  have hdl : m.ds.length ≤ 1048576 := hB.l
  obtain ⟨a1, c1, a2, c2, a3, c3, a4, c4, a5, c5, a6, c6, rfl, rfl, rfl, rfl, rfl, rfl⟩ := h.form
  clear h hB
  have HC : Hid (∀ W, Below ((w.alloc (.cells #[.slice a1 m.xs.length c1, .slice a2 m.ys.length c2, .slice a3 m.is.length c3, .slice a4 m.bs.length c4, .slice a5 m.fs.length c5, .slice a6 m.ds.length c6, .int .i64 m.nx] 40)).alloc (.cells noM 40)).heap.size ((w.alloc (.cells #[.slice a1 m.xs.length c1, .slice a2 m.ys.length c2, .slice a3 m.is.length c3, .slice a4 m.bs.length c4, .slice a5 m.fs.length c5, .slice a6 m.ds.length c6, .int .i64 m.nx] 40)).alloc (.cells noM 40)) W → AtC W (w.heap.size + 1) 40 noM ∧ Below w.heap.size w W ∧ w.heap.size + 1 + 1 ≤ W.heap.size) := fun W b2 => by
    have k1 := (AtC.new (w.alloc (.cells #[.slice a1 m.xs.length c1, .slice a2 m.ys.length c2, .slice a3 m.is.length c3, .slice a4 m.bs.length c4, .slice a5 m.fs.length c5, .slice a6 m.ds.length c6, .int .i64 m.nx] 40)) 40 noM).over b2
    have sz := b2.size
    simp at k1 sz
    exact ⟨k1, (((Below.refl _ w).alloc (Nat.le_refl _) _).alloc (by simp) _).trans (b2.mono (by simp; omega)), sz⟩
  go_enter Tryz.func22, Tryz.ntmps22
  go_wp2_with fail
  refine (copyM_any _ _ _ _ _ _ m _ (H.out.below (HC.out _ (Below.refl _ _)).2.1 (Nat.le_refl _)) HG.out).mono ?_
  rintro e w2 ⟨u1, u2, u3, u4, u5, u6, rfl, O2, B2⟩
  obtain ⟨b1, d1, b2, d2, b3, d3, b4, d4, b5, d5, b6, d6, rfl, rfl, rfl, rfl, rfl, rfl⟩ := O2.mr.form
  have hz2 := (HC.out w2 B2).2.2
  obtain ⟨S1, S2, S3, ts, k1, k2, k3, k4, k5, k6, k7⟩ := (O2.mono (S' := fun k => w.heap.size + 1 + 1 ≤ k) (fun k hk => by simp at hk; omega)).bound
  have HS : Hid (∀ W, Below (w2.alloc (.cells #[.slice b1 m.xs.length d1, .slice b2 m.ys.length d2, .slice b3 m.is.length d3, .slice b4 m.bs.length d4, .slice b5 m.fs.length d5, .slice b6 m.ds.length d6, .int .i64 m.nx] 40)).heap.size (w2.alloc (.cells #[.slice b1 m.xs.length d1, .slice b2 m.ys.length d2, .slice b3 m.is.length d3, .slice b4 m.bs.length d4, .slice b5 m.fs.length d5, .slice b6 m.ds.length d6, .int .i64 m.nx] 40)) W → AtC W (w.heap.size + 1) 40 noM ∧ AtC W w2.heap.size 40 #[.slice b1 m.xs.length d1, .slice b2 m.ys.length d2, .slice b3 m.is.length d3, .slice b4 m.bs.length d4, .slice b5 m.fs.length d5, .slice b6 m.ds.length d6, .int .i64 m.nx] ∧ GN KDep W S3 (.slice b6 m.ds.length d6) ts m.ds ∧ Below w.heap.size w W) := fun W b => by
    have bb : Below w2.heap.size w2 W := ((Below.refl _ w2).alloc (Nat.le_refl _) _).trans (b.mono (by simp))
    have q := HC.out W (B2.trans (bb.mono B2.size))
    exact ⟨q.1, (AtC.new w2 40 _).over b, k4.below bb (Nat.le_refl _), q.2.1⟩
  have HKK := hide (And.intro k1 (And.intro k2 (And.intro k3 (And.intro k4 (And.intro k5 (And.intro k6 k7))))))
  have hln : ts.length = m.ds.length := k4.len
  have HB2 := hide B2
  clear O2 B2 k1 k2 k3 k4 k5 k6 k7
  go_wp2_with fail
  go_loopw [7, 6] (fun i lv wr => ∃ j : Nat, j ≤ m.ds.length ∧ i = .int .i64 j ∧ Hid (NOwns wr 52 11 lv (rowsK id (ts.take j) (m.ds.take j)) ∧ (∀ k, lv.ownBlock = some k → w2.heap.size + 1 ≤ k) ∧ Below (w2.alloc (.cells #[.slice b1 m.xs.length d1, .slice b2 m.ys.length d2, .slice b3 m.is.length d3, .slice b4 m.bs.length d4, .slice b5 m.fs.length d5, .slice b6 m.ds.length d6, .int .i64 m.nx] 40)).heap.size (w2.alloc (.cells #[.slice b1 m.xs.length d1, .slice b2 m.ys.length d2, .slice b3 m.is.length d3, .slice b4 m.bs.length d4, .slice b5 m.fs.length d5, .slice b6 m.ds.length d6, .int .i64 m.nx] 40)) wr)) (fun i lv _ => m.ds.length - (intOf i).toNat)
  case atStart =>
    refine ⟨0, Nat.zero_le _, rfl, ?_, ?_, (Below.refl _ _).alloc (Nat.le_refl _) _⟩
    · have := NOwns.of_at (n := 11) (ts := []) (AtC.new (w2.alloc (.cells #[.slice b1 m.xs.length d1, .slice b2 m.ys.length d2, .slice b3 m.is.length d3, .slice b4 m.bs.length d4, .slice b5 m.fs.length d5, .slice b6 m.ds.length d6, .int .i64 m.nx] 40)) 52 #[]) rfl (Even.nil _) (Nat.zero_le _)
      simpa [rowsK] using this
    · intro k hk
      simp [Value.ownBlock] at hk
      omega
  case round =>
    obtain ⟨j, hj, rfl, HR⟩ := hrel
    obtain ⟨hn, hlo, hbl⟩ := HR.out
    have q9 := HS.out wr hbl
    by_cases hlt : j < m.ds.length
    · have xb5 : wr.cell? ⟨w2.heap.size, 5, none⟩ = some (.slice b6 m.ds.length d6) := q9.2.1.cell 5
      obtain ⟨g, cap, ei, hcell, -, hg, -⟩ := q9.2.2.1.row.at j (by omega)
      rw [hln] at ei
      simp only [Value.slice.injEq, true_and] at ei
      obtain ⟨rfl, rfl⟩ := ei
      obtain ⟨p, hrow, hpo⟩ := q9.2.2.1.inn j (by omega) hlt
      have hst := rowsK_snoc id ts m.ds hln j (by omega) hlt
      rw [hrow] at hst
      have nn : DCells wr g (j * 11) m.ds[j] p := DCells.of fun i hi => by rw [← hrow]; exact hcell i hi
      obtain ⟨X, hX⟩ : ∃ X, m.ds[j] = X := ⟨_, rfl⟩
      rw [hX] at nn hpo hst
      obtain ⟨id2, kd, io, pt, bk, sl, nm, bt, ot, af, bl⟩ := X
      obtain ⟨pa, pc, rfl⟩ := hpo.rints.form
      simp only [DCells] at nn
      obtain ⟨n0, n1, n2, n3, n4, n5, n6, n7, n8, n9, n10⟩ := nn
      have HRR := hide (And.intro hn (And.intro hlo hbl))
      have HST := hide hst
      have j0 : (0 : Int) ≤ (j : Int) := by omega
      have j1 : (j : Int) < (m.ds.length : Int) := by omega
      clear hn hlo hbl q9 hcell hg hrow hpo hX hst HR
      by_cases hid : id2 = id
      · subst hid
        go_wp2
        go_roundw
        case rel =>
          refine ⟨j + 1, by omega, by go_num, ?_, HRR.out.2.1, HRR.out.2.2⟩
          have := HST.out
          simp only [if_true, List.append_nil] at this
          rw [this]
          exact HRR.out.1
        case measure => simp [intOf]; omega
      · have HT : Hid (NOwns (wr.alloc (.cells #[.int .i64 id2, .int .i64 kd, .int .i64 io, .int .i64 pt, .int .i64 bk, .int .i64 sl, .string nm, .bool bt, .bool ot, .int .i64 af, .slice pa bl.length pc] 52)) 52 11 u6 (rowsK id (ts.take j) (m.ds.take j))) := HRR.out.1.of_heap fun k hk => ((Below.refl _ wr).alloc (Nat.le_refl _) _).block k (HRR.out.1.lt k hk)
        have HTL : Hid ((rowsK id (ts.take j) (m.ds.take j)).length ≤ 100000000000) := by
          have q : (rowsK id (ts.take j) (m.ds.take j)).length ≤ j := by
            unfold rowsK
            rw [List.length_map]
            refine Nat.le_trans (List.length_filter_le _ _) ?_
            rw [List.length_zip, List.length_take, List.length_take]
            omega
          show _ ≤ _
          omega
        have HSTEP : Hid (∀ v' w', NOwns w' 52 11 v' (rowsK id (ts.take j) (m.ds.take j) ++ [(⟨id2, kd, io, pt, bk, sl, nm, bt, ot, af, bl⟩ : Dp).row (.slice pa bl.length pc)]) → (wr.alloc (.cells #[.int .i64 id2, .int .i64 kd, .int .i64 io, .int .i64 pt, .int .i64 bk, .int .i64 sl, .string nm, .bool bt, .bool ot, .int .i64 af, .slice pa bl.length pc] 52)).grownBy w' u6.ownBlock → (∀ k, v'.ownBlock = some k → u6.ownBlock = some k ∨ (wr.alloc (.cells #[.int .i64 id2, .int .i64 kd, .int .i64 io, .int .i64 pt, .int .i64 bk, .int .i64 sl, .string nm, .bool bt, .bool ot, .int .i64 af, .slice pa bl.length pc] 52)).heap.size ≤ k) → NOwns w' 52 11 v' (rowsK id (ts.take (j + 1)) (m.ds.take (j + 1))) ∧ (∀ k, v'.ownBlock = some k → w2.heap.size + 1 ≤ k) ∧ Below (w2.alloc (.cells #[.slice b1 m.xs.length d1, .slice b2 m.ys.length d2, .slice b3 m.is.length d3, .slice b4 m.bs.length d4, .slice b5 m.fs.length d5, .slice (some ⟨g, 0, none⟩) m.ds.length d6, .int .i64 m.nx] 40)).heap.size (w2.alloc (.cells #[.slice b1 m.xs.length d1, .slice b2 m.ys.length d2, .slice b3 m.is.length d3, .slice b4 m.bs.length d4, .slice b5 m.fs.length d5, .slice (some ⟨g, 0, none⟩) m.ds.length d6, .int .i64 m.nx] 40)) w') := fun v' w' q1 q2 q3 => by
          obtain ⟨hn, hlo, hbl⟩ := HRR.out
          have hsz := hbl.size
          have hs1 : (w2.alloc (.cells #[.slice b1 m.xs.length d1, .slice b2 m.ys.length d2, .slice b3 m.is.length d3, .slice b4 m.bs.length d4, .slice b5 m.fs.length d5, .slice (some ⟨g, 0, none⟩) m.ds.length d6, .int .i64 m.nx] 40)).heap.size = w2.heap.size + 1 := by simp
          have := HST.out
          rw [if_neg (by exact hid)] at this
          refine ⟨by rw [this]; exact q1, fun k hk => ?_, ?_⟩
          · rcases q3 k hk with e | e
            · exact hlo k e
            · simp at e; omega
          · exact (hbl.alloc hsz _).grown q2 (by simp at hsz ⊢; omega) (fun k hk => by rw [hs1]; exact hlo k hk)
        clear HRR HST
        go_wp2_with (at_builtin; refine wpList_step fun K' hK' => ?_; refine step_append_n _ rfl (.tmp 26) (.tmp 32) 38 rfl 52 Tryz.u38 _ 11 104 Tryz.i52 rfl (by decide) (by decide) u6 _ rfl HT.out wr.heap.size ((⟨id2, kd, io, pt, bk, sl, nm, bt, ot, af, bl⟩ : Dp).row (.slice pa bl.length pc)) rfl rfl (fun i u hu => (AtC.new wr 52 #[.int .i64 id2, .int .i64 kd, .int .i64 io, .int .i64 pt, .int .i64 bk, .int .i64 sl, .string nm, .bool bt, .bool ot, .int .i64 af, .slice pa bl.length pc]).at_ i u hu) (by simp [Dp.row, Value.oneCell']) HTL.out ?_; intro v12 w12 T12 G12 V12; refine hK' _ _ ?_; have HR12 := hide (HSTEP.out v12 w12 T12 G12 V12); clear T12 G12 V12 hK')
        go_roundw
        case rel => exact ⟨j + 1, by omega, by go_num, HR12.out⟩
        case measure => simp [intOf]; omega
    · have hj2 : j = m.ds.length := by omega
      subst hj2
      rw [List.take_length, show ts.take m.ds.length = ts by rw [← hln, List.take_length]] at hn
      obtain ⟨ga, gc, rfl, -⟩ := hn.form
      generalize hLN : (rowsK id ts m.ds).length = LN at *
      have hs1 : (w2.alloc (.cells #[.slice b1 m.xs.length d1, .slice b2 m.ys.length d2, .slice b3 m.is.length d3, .slice b4 m.bs.length d4, .slice b5 m.fs.length d5, .slice b6 m.ds.length d6, .int .i64 m.nx] 40)).heap.size = w2.heap.size + 1 := by simp
      have HM : Hid (MO (((((((((wr.setCell ⟨w2.heap.size, 5, none⟩ (.slice ga LN gc)).setCell ⟨w.heap.size + 1, 0, none⟩ (.slice b1 m.xs.length d1)).setCell ⟨w.heap.size + 1, 1, none⟩ (.slice b2 m.ys.length d2)).setCell ⟨w.heap.size + 1, 2, none⟩ (.slice b3 m.is.length d3)).setCell ⟨w.heap.size + 1, 3, none⟩ (.slice b4 m.bs.length d4)).setCell ⟨w.heap.size + 1, 4, none⟩ (.slice b5 m.fs.length d5)).setCell ⟨w.heap.size + 1, 5, none⟩ (.slice ga LN gc)).setCell ⟨w.heap.size + 1, 6, none⟩ (.int .i64 m.nx))) (fun k => w.heap.size ≤ k) (.slice b1 m.xs.length d1) (.slice b2 m.ys.length d2) (.slice b3 m.is.length d3) (.slice b4 m.bs.length d4) (.slice b5 m.fs.length d5) (.slice ga LN gc) { m with ds := dropDs id m.ds } ∧ Below w.heap.size w (((((((((wr.setCell ⟨w2.heap.size, 5, none⟩ (.slice ga LN gc)).setCell ⟨w.heap.size + 1, 0, none⟩ (.slice b1 m.xs.length d1)).setCell ⟨w.heap.size + 1, 1, none⟩ (.slice b2 m.ys.length d2)).setCell ⟨w.heap.size + 1, 2, none⟩ (.slice b3 m.is.length d3)).setCell ⟨w.heap.size + 1, 3, none⟩ (.slice b4 m.bs.length d4)).setCell ⟨w.heap.size + 1, 4, none⟩ (.slice b5 m.fs.length d5)).setCell ⟨w.heap.size + 1, 5, none⟩ (.slice ga LN gc)).setCell ⟨w.heap.size + 1, 6, none⟩ (.int .i64 m.nx)))) := by
        obtain ⟨k1, k2, k3, k4, k5, k6, k7⟩ := HKK.out
        have bb : Below w2.heap.size w2 wr := ((Below.refl _ w2).alloc (Nat.le_refl _) _).trans (hbl.mono (by simp))
        have G := ((k4.alloc (.cells #[.slice b1 m.xs.length d1, .slice b2 m.ys.length d2, .slice b3 m.is.length d3, .slice b4 m.bs.length d4, .slice b5 m.fs.length d5, .slice b6 m.ds.length d6, .int .i64 m.nx] 40)).keep id hn (fun k hk => by rw [hs1]; exact hlo k hk) hbl).mono (S' := fun k => S3 k ∨ w2.heap.size + 1 ≤ k) (fun k hk => hk.elim (fun e => Or.inl e.1) (fun e => Or.inr (by rw [hs1] at e; exact e)))
        have hoth : ∀ k, k ≠ w.heap.size + 1 → k ≠ w2.heap.size → (((((((((wr.setCell ⟨w2.heap.size, 5, none⟩ (.slice ga LN gc)).setCell ⟨w.heap.size + 1, 0, none⟩ (.slice b1 m.xs.length d1)).setCell ⟨w.heap.size + 1, 1, none⟩ (.slice b2 m.ys.length d2)).setCell ⟨w.heap.size + 1, 2, none⟩ (.slice b3 m.is.length d3)).setCell ⟨w.heap.size + 1, 3, none⟩ (.slice b4 m.bs.length d4)).setCell ⟨w.heap.size + 1, 4, none⟩ (.slice b5 m.fs.length d5)).setCell ⟨w.heap.size + 1, 5, none⟩ (.slice ga LN gc)).setCell ⟨w.heap.size + 1, 6, none⟩ (.int .i64 m.nx))).heap[k]? = wr.heap[k]? := fun k _ _ => (((((((heap_setCell_other _ ⟨w.heap.size + 1, 6, none⟩ k _ (by show k ≠ w.heap.size + 1; omega)).trans (heap_setCell_other _ ⟨w.heap.size + 1, 5, none⟩ k _ (by show k ≠ w.heap.size + 1; omega))).trans (heap_setCell_other _ ⟨w.heap.size + 1, 4, none⟩ k _ (by show k ≠ w.heap.size + 1; omega))).trans (heap_setCell_other _ ⟨w.heap.size + 1, 3, none⟩ k _ (by show k ≠ w.heap.size + 1; omega))).trans (heap_setCell_other _ ⟨w.heap.size + 1, 2, none⟩ k _ (by show k ≠ w.heap.size + 1; omega))).trans (heap_setCell_other _ ⟨w.heap.size + 1, 1, none⟩ k _ (by show k ≠ w.heap.size + 1; omega))).trans (heap_setCell_other _ ⟨w.heap.size + 1, 0, none⟩ k _ (by show k ≠ w.heap.size + 1; omega))).trans (heap_setCell_other _ ⟨w2.heap.size, 5, none⟩ k _ (by show k ≠ w2.heap.size; omega))
        have h3 : ∀ k, (S3 k ∨ w2.heap.size + 1 ≤ k) → k ≠ w.heap.size + 1 ∧ k ≠ w2.heap.size ∧ w.heap.size ≤ k := fun k hk => by
          rcases hk with hk | hk
          · have := k7 k (.inr (.inr hk)); omega
          · omega
        refine ⟨⟨S1, S2, fun k => S3 k ∨ w2.heap.size + 1 ≤ k, rowsK id ts m.ds, (k1.below bb (Nat.le_refl _)).of_heap fun k hk _ => hoth k (by have := k7 k (.inl hk); omega) (by have := k7 k (.inl hk); omega), (k2.below bb (Nat.le_refl _)).of_heap fun k hk => hoth k (by have := k7 k (.inr (.inl (k3 k hk))); omega) (by have := k7 k (.inr (.inl (k3 k hk))); omega), k3, G.of_heap fun k hk _ => hoth k (h3 k hk).1 (h3 k hk).2.1, fun k hk => ⟨(k5 k hk).1, fun e => ?_⟩, fun k hk e => ?_, fun k hk => ?_⟩, ((((((((q9.2.2.2).setCell (by show w.heap.size ≤ w2.heap.size; omega) _).setCell (by simp) _).setCell (by simp) _).setCell (by simp) _).setCell (by simp) _).setCell (by simp) _).setCell (by simp) _).setCell (by simp) _⟩
        · rcases e with e | e
          · exact (k5 k hk).2 e
          · have := k7 k (.inl hk); omega
        · rcases e with e | e
          · exact k6 k hk e
          · have := k7 k (.inr (.inl hk)); omega
        · rcases hk with hk | hk | hk
          · have := k7 k (.inl hk); show w.heap.size ≤ k; omega
          · have := k7 k (.inr (.inl hk)); show w.heap.size ≤ k; omega
          · exact (h3 k hk).2.2
      have r0 : wr.cell? ⟨w.heap.size + 1, 0, none⟩ = some (.slice none 0 0) := q9.1.cell 0
      have v0 := q9.1.frozen 0
      have r1 : wr.cell? ⟨w.heap.size + 1, 1, none⟩ = some (.slice none 0 0) := q9.1.cell 1
      have v1 := q9.1.frozen 1
      have r2 : wr.cell? ⟨w.heap.size + 1, 2, none⟩ = some (.slice none 0 0) := q9.1.cell 2
      have v2 := q9.1.frozen 2
      have r3 : wr.cell? ⟨w.heap.size + 1, 3, none⟩ = some (.slice none 0 0) := q9.1.cell 3
      have v3 := q9.1.frozen 3
      have r4 : wr.cell? ⟨w.heap.size + 1, 4, none⟩ = some (.slice none 0 0) := q9.1.cell 4
      have v4 := q9.1.frozen 4
      have r5 : wr.cell? ⟨w.heap.size + 1, 5, none⟩ = some (.slice none 0 0) := q9.1.cell 5
      have v5 := q9.1.frozen 5
      have r6 : wr.cell? ⟨w.heap.size + 1, 6, none⟩ = some (.int .i64 0) := q9.1.cell 6
      have v6 := q9.1.frozen 6
      have y0 : wr.cell? ⟨w2.heap.size, 0, none⟩ = some (.slice b1 m.xs.length d1) := q9.2.1.cell 0
      have y1 : wr.cell? ⟨w2.heap.size, 1, none⟩ = some (.slice b2 m.ys.length d2) := q9.2.1.cell 1
      have y2 : wr.cell? ⟨w2.heap.size, 2, none⟩ = some (.slice b3 m.is.length d3) := q9.2.1.cell 2
      have y3 : wr.cell? ⟨w2.heap.size, 3, none⟩ = some (.slice b4 m.bs.length d4) := q9.2.1.cell 3
      have y4 : wr.cell? ⟨w2.heap.size, 4, none⟩ = some (.slice b5 m.fs.length d5) := q9.2.1.cell 4
      have y5 : wr.cell? ⟨w2.heap.size, 5, none⟩ = some (.slice b6 m.ds.length d6) := q9.2.1.cell 5
      have y6 : wr.cell? ⟨w2.heap.size, 6, none⟩ = some (.int .i64 m.nx) := q9.2.1.cell 6
      have z5 := q9.2.1.frozen 5
      clear q9 hn hlo hbl HR HKK HS HB2
      go_wp2
      refine bodyPost_ret (v := .agg #[.slice b1 m.xs.length d1, .slice b2 m.ys.length d2, .slice b3 m.is.length d3, .slice b4 m.bs.length d4, .slice b5 m.fs.length d5, .slice ga LN gc, .int .i64 m.nx]) (by simp [results, go_sem, r0, r1, r2, r3, r4, r5, r6]) rfl ⟨_, _, _, _, _, _, rfl, HM.out.1, HM.out.2⟩
end Go.Proofs.YtggjillpfclajaaGreat
