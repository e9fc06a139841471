/- The leaners in their order: leaners.inOrder by its contract. -/
import Derived.Test.YtggjillpfclajaaGreatSo
import Derived.Test.YtggjillpfclajaaGreatPt
namespace Go.Proofs.YtggjillpfclajaaGreat.Kit
open Go.RowKit Go.Maps
def lenOf : Value → Nat
  | .slice _ n _ => n
  | _ => 0
/-- Pointers found so far, in memory of their own. -/
structure Fo (w : World) (E : List Ln) (wr : World) (v : Value) (F : List (Fin E.length)) : Prop where
  own : NOwns wr 98 1 v (F.map fun j => [Value.pointer (some ⟨E[j].b, 0, none⟩)])
  lo : ∀ k, v.ownBlock = some k → w.heap.size < k
  bel : Below w.heap.size w wr
  sz : w.heap.size < wr.heap.size
  nd : F.Nodup
namespace Fo
variable {w wr w' : World} {E : List Ln} {v v' : Value} {F : List (Fin E.length)}
theorem len (h : Fo w E wr v F) : F.length ≤ E.length := by
  have := List.Nodup.length_le_of_subset h.nd (l₂ := List.finRange E.length) (fun a _ => List.mem_finRange a)
  simpa using this
theorem lenV (h : Fo w E wr v F) : lenOf v = F.length := by
  obtain ⟨a, c, rfl, -⟩ := h.own.form
  simp [lenOf]
theorem turn (h : Fo w E wr v F) (hg : wr.grownBy w' (some w.heap.size)) : Fo w E w' v F :=
  ⟨h.own.of_heap fun k hk => hg.block k (h.own.lt k hk) (fun e => by have := h.lo k hk; cases e; omega), h.lo, h.bel.grown hg (Nat.le_of_lt h.sz) (fun k hk => by cases hk; exact Nat.le_refl _), Nat.lt_of_lt_of_le h.sz hg.size, h.nd⟩
theorem app (h : Fo w E wr v F) (i : Fin E.length) (hi : i ∉ F) {o : Obj} (h1 : NOwns w' 98 1 v' ((F.map fun j => [Value.pointer (some ⟨E[j].b, 0, none⟩)]) ++ [[Value.pointer (some ⟨E[i].b, 0, none⟩)]])) (h2 : (wr.alloc o).grownBy w' v.ownBlock) (h3 : ∀ k, v'.ownBlock = some k → v.ownBlock = some k ∨ (wr.alloc o).heap.size ≤ k) : Fo w E w' v' (F ++ [i]) := by
  have hz := h.sz
  have hs : (wr.alloc o).heap.size = wr.heap.size + 1 := by simp
  refine ⟨by rw [List.map_append]; exact h1, fun k hk => ?_, ?_, ?_, ?_⟩
  · rcases h3 k hk with e | e
    · exact h.lo k e
    · omega
  · exact (h.bel.alloc (Nat.le_of_lt hz) o).grown h2 (by omega) (fun k hk => Nat.le_of_lt (h.lo k hk))
  · have := h2.size
    omega
  · rw [List.nodup_append]
    exact ⟨h.nd, by simp, fun a ha b hb => by simp at hb; subst hb; exact fun e => hi (e ▸ ha)⟩
end Fo
theorem sameKey_int (x y : Int) : (Lit.int .i64 x).sameKey (.int .i64 y) = decide (x = y) := by
  simp [Lit.sameKey]
theorem lastP_some (E : List Ln) (j : Nat) (hj : j < E.length) : lastP E[j].d.id E ≠ none := by
  intro e
  rcases lastP_spec E[j].d.id E E.length (Nat.le_refl _) with ⟨-, h⟩ | ⟨i, hi, -, h, -⟩
  · exact h j hj hj rfl
  · rw [List.take_length, e] at h
    cases h
/-- What leans, in rows. -/
def rowsL (E : List Ln) (ps : List Value) : List Row := List.zipWith (fun e p => e.d.row p) E ps
theorem rowsL_length {E : List Ln} {ps : List Value} (h : ps.length = E.length) : (rowsL E ps).length = E.length := by simp [rowsL, h]
theorem rowsL_at {E : List Ln} {ps : List Value} (j : Nat) (h : j < (rowsL E ps).length) (h1 : j < E.length) (h2 : j < ps.length) : (rowsL E ps)[j] = E[j].d.row ps[j] := by simp [rowsL]
/-- The list of all is made of what the leaners hold. -/
theorem LEN.list {P : Program} {w w2 : World} {L B N : Nat} {E : List Ln} {ps : List Value} (h : LEN P w L B E ps N) {lv : Value} (hn : NOwns w2 52 11 lv (rowsL E ps)) (hlo : ∀ k, lv.ownBlock = some k → w.heap.size ≤ k) (hb : Below w.heap.size w w2) :
    GN KDep w2 (fun k => (∃ (i : Nat) (hi : i < ps.length), ps[i].ownBlock = some k) ∨ w.heap.size ≤ k) lv (rowsL E ps) (E.map (·.d)) := by
  have hl := h.len
  have hlr := rowsL_length hl
  have hps : ∀ (j : Nat) (hj : j < (rowsL E ps).length), ∃ (h2 : j < ps.length), KDep.p (rowsL E ps)[j] = ps[j] := fun j hj => ⟨by omega, by rw [rowsL_at j hj (by omega) (by omega)]; rfl⟩
  have hlt : ∀ (j : Nat) (hj : j < ps.length) (k : Nat), ps[j].ownBlock = some k → k < w.heap.size := fun j hj k hk => ((h.own j (by omega) hj).lt k hk).2
  refine ⟨by simp [hlr], hn, fun j hj hj' => ?_, fun i j hi hj hne k e1 e2 => ?_, fun j hj k e1 e2 => ?_, fun k e => .inr (hlo k e), fun j hj k e => ?_⟩
  · refine ⟨ps[j]'(by omega), ?_, ?_⟩
    · rw [rowsL_at j hj (by omega) (by omega), List.getElem_map]
    · rw [List.getElem_map]
      exact (h.own j (by omega) (by omega)).below hb (Nat.le_refl _)
  · obtain ⟨q1, r1⟩ := hps i hi
    obtain ⟨q2, r2⟩ := hps j hj
    rw [r1] at e1
    rw [r2] at e2
    exact h.np i j q1 q2 hne k e1 e2
  · obtain ⟨q1, r1⟩ := hps j hj
    rw [r1] at e1
    have := hlt j q1 k e1
    have := hlo k e2
    omega
  · obtain ⟨q1, r1⟩ := hps j hj
    rw [r1] at e
    exact .inl ⟨j, q1, e⟩
end Go.Proofs.YtggjillpfclajaaGreat.Kit
namespace Go.Proofs.YtggjillpfclajaaGreat
open Go.RowKit Kit Go.Maps
theorem Tryz.u124 : Tryz.prog.underlying 124 = some (.slice 98) := by kernel_rfl
theorem Tryz.i98 : (Tryz.prog.info? 98).map (fun i => (i.zero, i.size, i.bytes)) = some (some (.pointer none), 1, 8) := by kernel_rfl
end Go.Proofs.YtggjillpfclajaaGreat
