
/- 'xs = append(xs, x)' of inodes or blocks: the step's law, and what it makes of a list and of a disk of memory of their own. No Go function is spoken of. -/
import Derived.Test.YtggjillpfclajaaGreatDp
import Derived.Deep.AppendLies
namespace Go.Proofs.YtggjillpfclajaaGreat.Kit
open Go.RowKit
theorem step_append_three {P : Program} (W : World) {ops : Array Oper} {o : Oper} {a : Act} {K : Act → World → Prop} {Q : Exit → Act → World → Prop} {E : Prop} (hgd : o.guard = none) (s x : Operand) (t : TypeId)
    (ho : o.op = .call { callee := .builtin .append, args := #[s, x], argTypes := #[t, t] }) (e : TypeId) (ht : P.underlying t = some (.slice e)) (z : Value) (bytes : Nat)
    (hi : (P.info? e).map (fun i => (i.zero, i.size, i.bytes)) = some (some z, 3, bytes)) (hzc : z.cells.size = 3) (hby : bytes ≤ 64) (v : Value) (ts : List V3) (hs : a.eval s = v) (hown : TOwns W e v ts)
    (g : Nat) (y : V3) (hx : a.eval x = .slice (some ⟨g, 0, none⟩) 1 1) (hc : W.cell? ⟨g, 0, none⟩ = some y.1 ∧ W.cell? ⟨g, 1, none⟩ = some y.2.1 ∧ W.cell? ⟨g, 2, none⟩ = some y.2.2) (h1 : y.1.oneCell' = true ∧ y.2.1.oneCell' = true ∧ y.2.2.oneCell' = true) (hl : ts.length ≤ 1000000000000)
    (h : ∀ v' w', TOwns w' e v' (ts ++ [y]) → W.grownBy w' v.ownBlock → (∀ k, v'.ownBlock = some k → v.ownBlock = some k ∨ W.heap.size ≤ k) → K (a.put o.dst v') w') :
    if Region.wanted o (yielded ops a.tmps) = true then Oper.wp P o a W K Q else E := by
  obtain ⟨i0, hi, hz0, hz1, hz2⟩ := info_parts hi
  have hown2 : W.ownsRow 0 e 3 v ts.length (f3 ts) := hown
  refine step_append_lies _ hgd s x t ho 0 e i0 z 3 bytes ht hi hz0 hz1 hz2 hzc (by decide) v ts.length (f3 ts) hs hown2 ⟨g, 0, none⟩ 1 1 (f3 [y]) hx rfl ?_ ?_ (by decide) ?_ ?_ (Nat.zero_le _) W.heap.size rfl ?_
  · intro j u hj
    match j, hj with
    | 0, hj => simp [f3] at hj; subst hj; simpa [Addr.add] using hc.1
    | 1, hj => simp [f3] at hj; subst hj; simpa [Addr.add] using hc.2.1
    | 2, hj => simp [f3] at hj; subst hj; simpa [Addr.add] using hc.2.2
    | j + 3, hj => simp [f3] at hj
  · intro u hu
    simp only [f3, List.mem_cons, List.not_mem_nil, or_false] at hu
    rcases hu with rfl | rfl | rfl
    · exact h1.1
    · exact h1.2.1
    · exact h1.2.2
  · unfold maxLen; omega
  · have : (ts.length + 1) * bytes ≤ 1000000000001 * 64 := Nat.mul_le_mul (by omega) hby
    omega
  · intro g' cap w' hown' hgrow hat _
    refine h _ w' ?_ hgrow fun k hk => ?_
    · unfold TOwns
      rw [List.length_append, f3_append]
      exact hown'
    · simp only [Value.ownBlock, Option.some.injEq] at hk
      subst hk
      rcases hat with hat | hat
      · exact .inl hat
      · exact .inr (by omega)
theorem GO.append {α : Type} {K : Kd α} {w w1 w2 : World} {S : Nat → Prop} {v v' : Value} {ts : List V3} {xs : List α} {t' : V3} {x' : α} (h : GO K w S v ts xs) (hb : Below w.heap.size w w1) (hO : K.O w1 t' x') (hn : ∀ k, (K.p t').ownBlock = some k → w.heap.size ≤ k)
    (hr : TOwns w2 K.T v' (ts ++ [t'])) (hg : w1.grownBy w2 v.ownBlock) (hv : ∀ k, v'.ownBlock = some k → v.ownBlock = some k ∨ w1.heap.size ≤ k) : GO K w2 (fun k => (S k ∧ k < w.heap.size) ∨ w.heap.size ≤ k) v' (ts ++ [t']) (xs ++ [x']) := by
  have hl := h.len
  have hsz := hb.size
  have hlt : ∀ (i : Nat) (hi : i < ts.length) (k : Nat), (K.p ts[i]).ownBlock = some k → k < w.heap.size := fun i hi k hk => K.lt (h.inn i hi (by omega)) k hk
  have hlt' : ∀ k, (K.p t').ownBlock = some k → k < w1.heap.size := fun k hk => K.lt hO k hk
  have hvl : ∀ k, v.ownBlock = some k → k < w.heap.size := h.row.lt
  have at_l : ∀ (i : Nat) (hi : i < (ts ++ [t']).length), (∃ h' : i < ts.length, (ts ++ [t'])[i] = ts[i]) ∨ (i = ts.length ∧ (ts ++ [t'])[i] = t') := fun i hi => by
    by_cases e : i < ts.length
    · exact .inl ⟨e, List.getElem_append_left e⟩
    · have e2 : i = ts.length := by simp at hi; omega
      refine .inr ⟨e2, ?_⟩
      subst e2
      simp
  refine ⟨by simp [hl], hr, fun i hi hi' => ?_, fun i j hi hj hne k e1 e2 => ?_, fun i hi k e1 e2 => ?_, fun k e => ?_, fun i hi k e => ?_⟩
  · rcases at_l i hi with ⟨h', e⟩ | ⟨rfl, e⟩
    · rw [e, List.getElem_append_left (by omega)]
      exact K.heap (h.inn i h' (by omega)) fun k hk => (hg.block k (by have := hlt i h' k hk; omega) (fun e => h.out i h' k hk e.symm)).trans (hb.block k (hlt i h' k hk))
    · have e2 : (xs ++ [x'])[ts.length] = x' := by simp [hl]
      rw [e, e2]
      exact K.heap hO fun k hk => hg.block k (hlt' k hk) (fun e => by have := hvl k e.symm; have := hn k hk; omega)
  · rcases at_l i hi with ⟨h1, q1⟩ | ⟨q0, q1⟩ <;> rcases at_l j hj with ⟨h2, q2⟩ | ⟨q3, q2⟩ <;> rw [q1] at e1 <;> rw [q2] at e2
    · exact h.sep i j h1 h2 hne k e1 e2
    · have := hlt i h1 k e1; have := hn k e2; omega
    · have := hlt j h2 k e2; have := hn k e1; omega
    · omega
  · rcases at_l i hi with ⟨h1, q1⟩ | ⟨q0, q1⟩ <;> rw [q1] at e1
    · rcases hv k e2 with q | q
      · exact h.out i h1 k e1 q
      · have := hlt i h1 k e1; omega
    · rcases hv k e2 with q | q
      · have := hvl k q; have := hn k e1; omega
      · have := hlt' k e1; omega
  · rcases hv k e with q | q
    · exact .inl ⟨h.so k q, hvl k q⟩
    · exact .inr (by omega)
  · rcases at_l i hi with ⟨h1, q1⟩ | ⟨q0, q1⟩ <;> rw [q1] at e
    · exact .inl ⟨h.si i h1 k e, hlt i h1 k e⟩
    · exact .inr (hn k e)
/-- An inode of new memory is appended. -/
theorem DO.appI {w : World} {S : Nat → Prop} {u v iv bv : Value} {xs ys : List Bool} {is : List Ino} {bs : List Blk} (h : DO w S u v iv bv xs ys is bs) :
    ∃ ti, TOwns w 111 iv ti ∧ ti.length = is.length ∧ ∀ (w1 w2 : World) (iv' : Value) (t' : V3) (x' : Ino), Below w.heap.size w w1 → KI.O w1 t' x' → (∀ k, t'.2.2.ownBlock = some k → w.heap.size ≤ k) →
      TOwns w2 111 iv' (ti ++ [t']) → w1.grownBy w2 iv.ownBlock → (∀ k, iv'.ownBlock = some k → iv.ownBlock = some k ∨ w1.heap.size ≤ k) → DO w2 (fun k => S k ∨ w.heap.size ≤ k) u v iv' bv xs ys (is ++ [x']) bs := by
  obtain ⟨S1, S2, S3, ti, tb, h1, hs1, hi, hk, d1, d2, hU⟩ := h
  refine ⟨ti, hi.row, hi.len, fun w1 w2 iv' t' x' hb hO hn hr hg hv => ?_⟩
  have hsz := hb.size
  have h12 : ∀ m, (u.ownBlock = some m ∨ v.ownBlock = some m) → m < w.heap.size := fun m hm => hm.elim (fun e => (h1.a.lt m e).2) (fun e => (h1.b.lt m e).2)
  have hoth : ∀ k, k < w.heap.size → iv.ownBlock ≠ some k → w2.heap[k]? = w.heap[k]? := fun k hk hne => (hg.block k (by omega) (fun e => hne e.symm)).trans (hb.block k hk)
  refine ⟨fun k => u.ownBlock = some k ∨ v.ownBlock = some k, _, fun k => S3 k ∧ k < w.heap.size, _, tb, ⟨h1.a.of_heap fun k hk => hoth k (h12 k (.inl hk)) (fun e => (d1 k (hs1 k (.inl hk))).1 (hi.so k e)), h1.b.of_heap fun k hk => hoth k (h12 k (.inr hk)) (fun e => (d1 k (hs1 k (.inr hk))).1 (hi.so k e)), h1.ne⟩, fun k hk => hk, hi.append hb hO hn hr hg hv, hk.bound.of_heap fun k hk hlt => hoth k hlt (fun e => d2 k (hi.so k e) hk.1), fun k hk => ⟨fun e => ?_, fun e => (d1 k (hs1 k hk)).2 e.1⟩, fun k hk e => ?_, fun k hk => ?_⟩
  · rcases e with e | e
    · exact (d1 k (hs1 k hk)).1 e.1
    · have := h12 k hk; omega
  · rcases hk with hk | hk
    · exact d2 k hk.1 e.1
    · have := e.2; omega
  · rcases hk with hk | (hk | hk) | hk
    · exact .inl (hU k (.inl (hs1 k hk)))
    · exact .inl (hU k (.inr (.inl hk.1)))
    · exact .inr hk
    · exact .inl (hU k (.inr (.inr hk.1)))
/-- Blocks of new memory come in the place of none. -/
theorem DO.setB {w w1 : World} {S S' : Nat → Prop} {u v iv bv bv' : Value} {xs ys : List Bool} {is : List Ino} {bs bs' : List Blk} (h : DO w S u v iv bv xs ys is bs) (hb : Below w.heap.size w w1) {tb' : List V3} (hk' : GO KB w1 S' bv' tb' bs') (hs' : ∀ k, S' k → w.heap.size ≤ k) :
    DO w1 (fun k => S k ∨ w.heap.size ≤ k) u v iv bv' xs ys is bs' := by
  obtain ⟨S1, S2, S3, ti, tb, h1, hs1, hi, hk, d1, d2, hU⟩ := h
  have h12 : ∀ m, (u.ownBlock = some m ∨ v.ownBlock = some m) → m < w.heap.size := fun m hm => hm.elim (fun e => (h1.a.lt m e).2) (fun e => (h1.b.lt m e).2)
  refine ⟨fun k => u.ownBlock = some k ∨ v.ownBlock = some k, fun k => S2 k ∧ k < w.heap.size, S', ti, tb', h1.below hb (Nat.le_refl _), fun k hk => hk, hi.bound.below hb (Nat.le_refl _), hk', fun k hk => ⟨fun e => (d1 k (hs1 k hk)).1 e.1, fun e => ?_⟩, fun k hk e => ?_, fun k hk => ?_⟩
  · have := h12 k hk; have := hs' k e; omega
  · have := hk.2; have := hs' k e; omega
  · rcases hk with hk | hk | hk
    · exact .inl (hU k (.inl (hs1 k hk)))
    · exact .inl (hU k (.inr (.inl hk.1)))
    · exact .inr (hs' k hk)
end Go.Proofs.YtggjillpfclajaaGreat.Kit
