/- An Id is struck: what the leaners are then. No Go function is spoken of. -/
import Derived.Test.YtggjillpfclajaaGreatLn
namespace Go.Proofs.YtggjillpfclajaaGreat.Kit
open Go.RowKit Go.Maps
/-- Where what is kept stood. -/
theorem filter_at {α : Type} (p : α → Bool) : ∀ l : List α, ∃ f : Nat → Nat, (∀ (j : Nat) (h : j < (l.filter p).length), ∃ h' : f j < l.length, (l.filter p)[j] = l[f j] ∧ (l.take (f j)).filter p = (l.filter p).take j) ∧ ∀ i j, i < j → j < (l.filter p).length → f i < f j
  | [] => ⟨fun _ => 0, fun j h => by simp at h, fun i j _ h => by simp at h⟩
  | a :: l => by
    obtain ⟨f, h1, h2⟩ := filter_at p l
    by_cases hp : p a = true
    · refine ⟨fun j => match j with | 0 => 0 | j + 1 => f j + 1, fun j h => ?_, fun i j hij h => ?_⟩
      · cases j with
        | zero => exact ⟨by simp, by simp [hp], by simp⟩
        | succ j =>
          simp only [List.filter_cons, hp, if_true, List.length_cons] at h
          obtain ⟨q1, q2, q3⟩ := h1 j (by omega)
          refine ⟨by simpa using q1, ?_, ?_⟩
          · simp only [List.filter_cons, hp, if_true, List.getElem_cons_succ]
            exact q2
          · simp only [List.take_succ_cons, List.filter_cons, hp, if_true, q3]
      · simp only [List.filter_cons, hp, if_true, List.length_cons] at h
        cases j with
        | zero => omega
        | succ j =>
          cases i with
          | zero => simp
          | succ i =>
            have := h2 i j (by omega) (by omega)
            simp only
            omega
    · refine ⟨fun j => f j + 1, fun j h => ?_, fun i j hij h => ?_⟩
      · simp only [List.filter_cons, hp, Bool.false_eq_true, if_false] at h
        obtain ⟨q1, q2, q3⟩ := h1 j h
        refine ⟨by simpa using q1, ?_, ?_⟩
        · simp only [List.filter_cons, hp, Bool.false_eq_true, if_false, List.getElem_cons_succ]
          exact q2
        · simp only [List.take_succ_cons, List.filter_cons, hp, Bool.false_eq_true, if_false, q3]
      · simp only [List.filter_cons, hp, Bool.false_eq_true, if_false] at h
        have := h2 i j hij h
        simp only
        omega
theorem lastP_kept (id x : Int) (hx : x ≠ id) (l : List Ln) : ∀ acc : Option Nat, (l.filter fun e => !decide (e.d.id = id)).foldl (fun acc e => if e.d.id = x then some e.b else acc) acc = l.foldl (fun acc e => if e.d.id = x then some e.b else acc) acc := by
  induction l with
  | nil => exact fun _ => rfl
  | cons a l ih =>
    intro acc
    by_cases h : a.d.id = id
    · rw [List.filter_cons, if_neg (by simp [h]), ih, List.foldl_cons, if_neg (fun e => hx (by rw [← e, h]))]
    · rw [List.filter_cons, if_pos (by simp [h]), List.foldl_cons, List.foldl_cons, ih]
theorem lastP_filter (id x : Int) (hx : x ≠ id) (l : List Ln) : lastP x (l.filter fun e => !decide (e.d.id = id)) = lastP x l := lastP_kept id x hx l none
theorem lastP_gone (id : Int) (l : List Ln) : lastP id (l.filter fun e => !decide (e.d.id = id)) = none := by
  rcases lastP_spec id (l.filter fun e => !decide (e.d.id = id)) _ (Nat.le_refl _) with ⟨h, -⟩ | ⟨i, hi, -, -, h, -⟩
  · rw [List.take_length] at h; exact h
  · have := List.getElem_mem hi
    rw [List.mem_filter] at this
    simp [h] at this
theorem getD_at {α : Type} (l : List α) (d : α) (k : Nat) (h : k < l.length) : l.getD k d = l[k] := by simp [List.getD, h]
/-- Without those of an Id. -/
theorem LEN.del {P : Program} {w w' : World} {L B N : Nat} {E : List Ln} {ps : List Value} (h : LEN P w L B E ps N) {id : Int} {E' : List Ln} (hE' : (E.filter fun e => !decide (e.d.id = id)) = E') {D : DataW Nat} (hD : (∀ id, (Lit.int .i64 id).wf = true → D.atKey (.int .i64 id) .nil = datP (lastP id E)) ∧ ∀ id, (Lit.int .i64 id).wf = true → Maps.has D (.int .i64 id) = (lastP id E).isSome)
    (hm : w'.ownsMap P 3 ptrE B N (D.del (.int .i64 id))) (hg : w.grownBy w' (some B)) :
    ∃ ps', LEN P w' L B E' ps' N ∧ ((∀ i j : Fin E.length, i < j → E[i].pl < E[j].pl) → ∀ i j : Fin E'.length, i < j → E'[i].pl < E'[j].pl) := by
  have hlen := h.len
  have hfa := filter_at (fun e : Ln => !decide (e.d.id = id)) E
  rw [hE'] at hfa
  obtain ⟨f, h1, h2⟩ := hfa
  have hid : ∀ (j : Nat) (hj : j < E'.length), E'[j].d.id ≠ id := fun j hj => by
    have m : ∀ y ∈ E', y.d.id ≠ id := fun y hy => by
      rw [← hE', List.mem_filter] at hy
      simpa using hy.2
    exact m _ (List.getElem_mem hj)
  have fl : ∀ j, j < E'.length → f j < E.length := fun j hj => (h1 j hj).1
  have fi : ∀ i j, i < E'.length → j < E'.length → i ≠ j → f i ≠ f j := fun i j hi hj hne => by
    rcases Nat.lt_or_gt_of_ne hne with q | q
    · have := h2 i j q hj; omega
    · have := h2 j i q hi; omega
  have oth : ∀ k, k < w.heap.size → k ≠ B → w'.heap[k]? = w.heap[k]? := fun k hk hne => hg.block k hk (fun e => hne (by cases e; rfl))
  refine ⟨(List.range E'.length).map fun j => ps.getD (f j) undef, ⟨by simp, ⟨_, hm, fun x hx => ?_, fun x hx => ?_⟩, fun j hj hj' => ?_, fun j hj hj' => ?_, h.loB, fun j hj => ?_, fun j hj k hk => ?_, fun i j hi hj hne => ?_, fun j hj => ?_, fun i j hi hj hne k e1 => ?_, fun i j hi hj k e1 => ?_, fun i hi k e1 => ?_, fun j hj => ?_⟩, fun hpl i j hij => ?_⟩
  · by_cases e : x = id
    · subst e
      rw [atKey_del_same, ← hE', lastP_gone]; rfl
    · rw [atKey_del_other (fun q => e (by injection q)), hD.1 x hx, ← hE', lastP_filter id x e]
  · by_cases e : x = id
    · subst e
      rw [has_del_same, ← hE', lastP_gone]; rfl
    · rw [has_del_other (fun q => e (by injection q)), hD.2 x hx, ← hE', lastP_filter id x e]
  · obtain ⟨q1, q2, q3⟩ := h1 j hj
    have k := h.cell (f j) q1 (by omega)
    have hn := hid j hj
    have e1 : lastP E'[j].d.id (E'.take j) = lastP E[f j].d.id (E.take (f j)) := by
      rw [← q3, lastP_filter _ _ hn, q2]
    rw [e1]
    have e2 : ((List.range E'.length).map fun j => ps.getD (f j) undef)[j] = ps[f j]'(by omega) := by
      rw [List.getElem_map, List.getElem_range, getD_at _ _ _ (by omega)]
    rw [e2, q2]
    exact (oth _ k.lt (h.nB (f j) q1)).trans k
  · obtain ⟨q1, q2, q3⟩ := h1 j hj
    have k := h.own (f j) q1 (by omega)
    have e2 : ((List.range E'.length).map fun j => ps.getD (f j) undef)[j] = ps[f j]'(by omega) := by
      rw [List.getElem_map, List.getElem_range, getD_at _ _ _ (by omega)]
    rw [e2, q2]
    exact k.of_heap fun q hq => oth q (k.lt q hq).2 (h.npB (f j) (by omega) q hq)
  · obtain ⟨q1, q2, -⟩ := h1 j hj
    rw [q2]; exact h.lob (f j) q1
  · have hj' : j < E'.length := by simpa using hj
    have q1 := fl j hj'
    rw [List.getElem_map, List.getElem_range, getD_at _ _ _ (by omega)] at hk
    exact h.lop (f j) (by omega) k hk
  · obtain ⟨q1, q2, -⟩ := h1 i hi
    obtain ⟨r1, r2, -⟩ := h1 j hj
    rw [q2, r2]; exact h.nb _ _ q1 r1 (fi i j hi hj hne)
  · obtain ⟨q1, q2, -⟩ := h1 j hj
    rw [q2]; exact h.nB (f j) q1
  · have hi' : i < E'.length := by simpa using hi
    have hj' : j < E'.length := by simpa using hj
    have q1 := fl i hi'
    have q2 := fl j hj'
    rw [List.getElem_map, List.getElem_range, getD_at _ _ _ (by omega)] at e1 ⊢
    exact h.np (f i) (f j) (by omega) (by omega) (fi i j hi' hj' hne) k e1
  · have hi' : i < E'.length := by simpa using hi
    have q1 := fl i hi'
    obtain ⟨r1, r2, -⟩ := h1 j hj
    rw [List.getElem_map, List.getElem_range, getD_at _ _ _ (by omega)] at e1
    rw [r2]; exact h.npb (f i) (f j) (by omega) r1 k e1
  · have hi' : i < E'.length := by simpa using hi
    have q1 := fl i hi'
    rw [List.getElem_map, List.getElem_range, getD_at _ _ _ (by omega)] at e1
    exact h.npB (f i) (by omega) k e1
  · obtain ⟨q1, q2, -⟩ := h1 j hj
    rw [q2]; exact h.wf (f j) q1
  · obtain ⟨q1, q2, -⟩ := h1 i i.2
    obtain ⟨r1, r2, -⟩ := h1 j j.2
    show E'[i.1].pl < E'[j.1].pl
    rw [q2, r2]
    exact hpl ⟨f i, q1⟩ ⟨f j, r1⟩ (h2 i j hij j.2)
end Go.Proofs.YtggjillpfclajaaGreat.Kit
