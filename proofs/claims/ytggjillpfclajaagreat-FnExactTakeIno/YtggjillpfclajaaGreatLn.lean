/- Leaners: a map of pointers by Id; how they lie. No Go function is spoken of. -/
import Derived.Test.YtggjillpfclajaaGreatDd
import Derived.Test.YtggjillpfclajaaGreatCr
import Derived.Maps.RangeWalk
import Derived.Maps.OwnSet
namespace Go.Proofs.YtggjillpfclajaaGreat.Kit
open Go.RowKit Go.Maps
/-- A leaner: its place, what it holds, its block. -/
structure Ln where
  pl : Nat
  d : Dp
  b : Nat
/-- A pointer to a block, or none. -/
def ptrV : Option Nat → Value
  | none => .pointer none
  | some b => .pointer (some ⟨b, 0, none⟩)
def datP : Option Nat → DataW Nat
  | none => .nil
  | some b => .held b
/-- How such a pointer reads. -/
def ptrE : Value → Option (DataW Nat × List MemPlace)
  | .pointer none => some (.nil, [])
  | .pointer (some ⟨b, 0, none⟩) => some (.held b, [])
  | _ => none
theorem ptrE_mk (o : Option Nat) : ptrE (ptrV o) = some (datP o, []) := by cases o <;> rfl
theorem ptrE_inv {v : Value} {y : DataW Nat × List MemPlace} (h : ptrE v = some y) : ∃ o, v = ptrV o ∧ y = (datP o, []) := by
  unfold ptrE at h
  split at h
  · cases h; exact ⟨none, rfl, rfl⟩
  · cases h; exact ⟨some _, rfl, rfl⟩
  · cases h
theorem datP_inj {o o' : Option Nat} (h : datP o = datP o') : o = o' := by
  cases o <;> cases o' <;> simp [datP] at h ⊢
  exact h
/-- The last one's block with this Id. -/
def lastP (id : Int) (E : List Ln) : Option Nat := E.foldl (fun acc e => if e.d.id = id then some e.b else acc) none
theorem lastP_nil (id : Int) : lastP id [] = none := rfl
theorem lastP_snoc (id : Int) (E : List Ln) (e : Ln) : lastP id (E ++ [e]) = if e.d.id = id then some e.b else lastP id E := by simp [lastP, List.foldl_append]
theorem lastP_take (id : Int) (E : List Ln) (j : Nat) (h : j < E.length) : lastP id (E.take (j + 1)) = if E[j].d.id = id then some E[j].b else lastP id (E.take j) := by
  rw [← List.take_append_getElem h, lastP_snoc]
theorem lastP_spec (id : Int) (E : List Ln) : ∀ (t : Nat), t ≤ E.length → (lastP id (E.take t) = none ∧ ∀ (j : Nat) (h : j < E.length), j < t → E[j].d.id ≠ id) ∨ ∃ (i : Nat) (h : i < E.length), i < t ∧ lastP id (E.take t) = some E[i].b ∧ E[i].d.id = id ∧ ∀ (j : Nat) (h : j < E.length), i < j → j < t → E[j].d.id ≠ id := by
  intro t
  induction t with
  | zero => exact fun _ => .inl ⟨by simp [lastP], fun j _ h => by omega⟩
  | succ t ih =>
    intro ht
    rw [lastP_take id E t (by omega)]
    by_cases e : E[t].d.id = id
    · refine .inr ⟨t, by omega, by omega, by rw [if_pos e], e, fun j hj h1 h2 => by omega⟩
    · rw [if_neg e]
      rcases ih (by omega) with ⟨h1, h2⟩ | ⟨i, hi, h1, h2, h3, h4⟩
      · exact .inl ⟨h1, fun j hj hjt => by
          by_cases e2 : j = t
          · subst e2; exact e
          · exact h2 j hj (by omega)⟩
      · exact .inr ⟨i, hi, by omega, h2, h3, fun j hj h5 h6 => by
          by_cases e2 : j = t
          · subst e2; exact e
          · exact h4 j hj h5 (by omega)⟩
/-- The cells of a leaner. -/
def lnRow (d : Dp) (p : Value) (pl : Nat) (o : Option Nat) : Array Value := #[.int .i64 d.id, .int .i64 d.kd, .int .i64 d.io, .int .i64 d.pt, .int .i64 d.bk, .int .i64 d.sl, .string d.nm, .bool d.bt, .bool d.ot, .int .i64 d.af, p, .int .i64 (pl : Int), ptrV o]
/-- The map in block B holds the leaners E, whose lists are ps; all of it in blocks from L on. -/
structure LEN (P : Program) (w : World) (L B : Nat) (E : List Ln) (ps : List Value) (N : Nat) : Prop where
  len : ps.length = E.length
  map : ∃ D, w.ownsMap P 3 ptrE B N D ∧ (∀ id, (Lit.int .i64 id).wf = true → D.atKey (.int .i64 id) .nil = datP (lastP id E)) ∧ ∀ id, (Lit.int .i64 id).wf = true → Maps.has D (.int .i64 id) = (lastP id E).isSome
  cell : ∀ (j : Nat) (h : j < E.length) (h' : j < ps.length), AtC w E[j].b 101 (lnRow E[j].d ps[j] E[j].pl (lastP E[j].d.id (E.take j)))
  own : ∀ (j : Nat) (h : j < E.length) (h' : j < ps.length), ROwns w 0 3 ps[j] (ic E[j].d.bl)
  loB : L ≤ B
  lob : ∀ (j : Nat) (h : j < E.length), L ≤ E[j].b
  lop : ∀ (j : Nat) (h : j < ps.length) (k : Nat), ps[j].ownBlock = some k → L ≤ k
  nb : ∀ (i j : Nat) (hi : i < E.length) (hj : j < E.length), i ≠ j → E[i].b ≠ E[j].b
  nB : ∀ (j : Nat) (h : j < E.length), E[j].b ≠ B
  np : ∀ (i j : Nat) (hi : i < ps.length) (hj : j < ps.length), i ≠ j → ∀ k, ps[i].ownBlock = some k → ps[j].ownBlock ≠ some k
  npb : ∀ (i j : Nat) (hi : i < ps.length) (hj : j < E.length) (k : Nat), ps[i].ownBlock = some k → E[j].b ≠ k
  npB : ∀ (i : Nat) (hi : i < ps.length) (k : Nat), ps[i].ownBlock = some k → k ≠ B
  wf : ∀ (j : Nat) (h : j < E.length), (Lit.int .i64 E[j].d.id).wf = true
/-- The same, the map no longer than the list. -/
abbrev LE (P : Program) (w : World) (L B : Nat) (E : List Ln) (ps : List Value) : Prop := LEN P w L B E ps E.length
namespace LEN
variable {P : Program} {w w' w1 w2 : World} {L B : Nat} {E : List Ln} {ps : List Value} {N : Nat}
theorem lt (h : LEN P w L B E ps N) : B < w.heap.size := by obtain ⟨D, h1, -⟩ := h.map; exact h1.lt
theorem below (h : LEN P w L B E ps N) (hb : Below w.heap.size w w') : LEN P w' L B E ps N := by
  obtain ⟨D, h1, h2, h3⟩ := h.map
  exact ⟨h.len, ⟨D, h1.kept (grownBy_below hb none) (by simp), h2, h3⟩, fun j hj hj' => (h.cell j hj hj').over hb, fun j hj hj' => (h.own j hj hj').below hb (Nat.le_refl _), h.loB, h.lob, h.lop, h.nb, h.nB, h.np, h.npb, h.npB, h.wf⟩
theorem mono (h : LEN P w L B E ps N) {L' : Nat} (hl : L' ≤ L) : LEN P w L' B E ps N :=
  ⟨h.len, h.map, h.cell, h.own, Nat.le_trans hl h.loB, fun j hj => Nat.le_trans hl (h.lob j hj), fun j hj k hk => Nat.le_trans hl (h.lop j hj k hk), h.nb, h.nB, h.np, h.npb, h.npB, h.wf⟩
/-- What lies at an Id. -/
theorem look (h : LEN P w L B E ps N) {t e : TypeId} (hk : P.underlying 3 = some (.int .i64)) (ht : P.underlying t = some (.map 3 e)) (hz : ∀ w, (zeroValue e).run P w = .ok (.pointer none) w) {id : Int} (hw : (Lit.int .i64 id).wf = true) :
    (Instr.lookup t (.map (some B)) (.int .i64 id) false).run P w = .ok (ptrV (lastP id E)) w := by
  obtain ⟨D, h1, h2, -⟩ := h.map
  obtain ⟨v, q, hr, hv⟩ := h1.lookup (int_keyed hk) ht (hz w) (ptrE_mk none) (keyOf_int_mk hk hw)
  obtain ⟨o, rfl, ho⟩ := ptrE_inv hv
  have e1 : D.atKey (.int .i64 id) .nil = datP o := by
    have := congrArg Prod.fst ho
    exact this
  rw [h2 id hw] at e1
  rw [hr, datP_inj e1]
end LEN
namespace LE
variable {P : Program} {w w' w1 w2 : World} {L B : Nat} {E : List Ln} {ps : List Value}
theorem nil (P : Program) (w : World) : LE P (w.alloc (.map #[] 0)) w.heap.size w.heap.size [] [] :=
  ⟨rfl, ⟨_, World.ownsMap_made _ _ _ _, fun id _ => rfl, fun id _ => rfl⟩, fun j h => by simp at h, fun j h => by simp at h, Nat.le_refl _, fun j h => by simp at h, fun j h => by simp at h, fun i j h => by simp at h, fun j h => by simp at h, fun i j h => by simp at h, fun i j h => by simp at h, fun i h => by simp at h, fun j h => by simp at h⟩
/-- A leaner is put: in a world w1 that has only grown it lies in a block of its own, its list too; then the map is stored into. -/
theorem put (h : LE P w L B E ps) (hk : P.underlying 3 = some (.int .i64)) (hb : Below w.heap.size w w1) {g : Nat} {p : Value} {d : Dp} {pl : Nat} (hg : AtC w1 g 101 (lnRow d p pl (lastP d.id E))) (hgl : w.heap.size ≤ g) (hp : ROwns w1 0 3 p (ic d.bl)) (hpl : ∀ k, p.ownBlock = some k → w.heap.size ≤ k ∧ k ≠ g) (hw : (Lit.int .i64 d.id).wf = true) (hL : L ≤ w.heap.size) :
    ∃ D, w1.ownsMap P 3 ptrE B E.length D ∧ ∀ w2, w2.ownsMap P 3 ptrE B (E.length + 1) (D.put (.int .i64 d.id) (.held g)) → w1.grownBy w2 (some B) → LE P w2 L B (E ++ [⟨pl, d, g⟩]) (ps ++ [p]) := by
  have h1 := h.below hb
  have hBl := h.lt
  have hbl : ∀ (j : Nat) (hj : j < E.length), E[j].b < w.heap.size := fun j hj => (h.cell j hj (by rw [h.len]; exact hj)).lt
  have hpl0 : ∀ (j : Nat) (hj : j < ps.length) (k : Nat), ps[j].ownBlock = some k → k < w.heap.size := fun j hj k hk => ((h.own j (by rw [← h.len]; exact hj) hj).lt k hk).2
  obtain ⟨D, m1, m2, m3⟩ := h1.map
  refine ⟨D, m1, fun w2 hm hgr => ?_⟩
  have hsz := hb.size
  have oth : ∀ k, k < w1.heap.size → k ≠ B → w2.heap[k]? = w1.heap[k]? := fun k hk hne => hgr.block k hk (fun e => hne (by cases e; rfl))
  have hkl : WideAt.IsKeyLit (.int .i64 d.id) := (int_keyed hk).key (keyOf_int_mk hk hw)
  have hlen := h.len
  have at_e : ∀ (j : Nat) (hj : j < (E ++ [(⟨pl, d, g⟩ : Ln)]).length), (∃ h' : j < E.length, (E ++ [(⟨pl, d, g⟩ : Ln)])[j] = E[j] ∧ (E ++ [(⟨pl, d, g⟩ : Ln)]).take j = E.take j) ∨ (j = E.length ∧ (E ++ [(⟨pl, d, g⟩ : Ln)])[j] = ⟨pl, d, g⟩ ∧ (E ++ [(⟨pl, d, g⟩ : Ln)]).take j = E) := fun j hj => by
    by_cases e : j < E.length
    · exact .inl ⟨e, List.getElem_append_left e, List.take_append_of_le_length (Nat.le_of_lt e)⟩
    · have e2 : j = E.length := by simp at hj; omega
      subst e2
      exact .inr ⟨rfl, by simp, by simp⟩
  have at_p : ∀ (j : Nat) (hj : j < (ps ++ [p]).length), (∃ h' : j < ps.length, (ps ++ [p])[j] = ps[j]) ∨ (j = ps.length ∧ (ps ++ [p])[j] = p) := fun j hj => by
    by_cases e : j < ps.length
    · exact .inl ⟨e, List.getElem_append_left e⟩
    · have e2 : j = ps.length := by simp at hj; omega
      subst e2
      exact .inr ⟨rfl, by simp⟩
  refine ⟨by simp [hlen], ⟨_, by rw [List.length_append]; exact hm, fun id hid => ?_, fun id hid => ?_⟩, fun j hj hj' => ?_, fun j hj hj' => ?_, h.loB, fun j hj => ?_, fun j hj k hk => ?_, fun i j hi hj hne => ?_, fun j hj => ?_, fun i j hi hj hne k e1 e2 => ?_, fun i j hi hj k e1 => ?_, fun i hi k e1 => ?_, fun j hj => ?_⟩
  · rw [lastP_snoc]
    by_cases e : d.id = id
    · subst e
      rw [if_pos rfl, atKey_put_same m1.isMap hkl]
      rfl
    · rw [if_neg e, atKey_put_other (fun q => e (by injection q with _ q2; exact q2.symm)), m2 id hid]
  · rw [lastP_snoc]
    by_cases e : d.id = id
    · subst e
      rw [if_pos rfl, has_put_same m1.isMap hkl]
      rfl
    · rw [if_neg e, has_put_other (fun q => e (by injection q with _ q2; exact q2.symm)), m3 id hid]
  · rcases at_e j hj with ⟨h', q1, q2⟩ | ⟨q0, q1, q2⟩
    · rcases at_p j hj' with ⟨h2, r1⟩ | ⟨r0, -⟩
      · rw [q1, q2, r1]
        exact (oth _ (by have := hbl j h'; omega) (h.nB j h')).trans (h1.cell j h' h2)
      · omega
    · rcases at_p j hj' with ⟨h2, -⟩ | ⟨-, r1⟩
      · omega
      · rw [q1, q2, r1]
        exact (oth g hg.lt (by omega)).trans hg
  · rcases at_e j hj with ⟨h', q1, -⟩ | ⟨q0, q1, -⟩
    · rcases at_p j hj' with ⟨h2, r1⟩ | ⟨r0, -⟩
      · rw [q1, r1]
        exact (h1.own j h' h2).of_heap fun k hk => oth k (by have := hpl0 j h2 k hk; omega) (h.npB j h2 k hk)
      · omega
    · rcases at_p j hj' with ⟨h2, -⟩ | ⟨-, r1⟩
      · omega
      · rw [q1, r1]
        exact hp.of_heap fun k hk => oth k (hp.lt k hk).2 (by have := (hpl k hk).1; omega)
  · rcases at_e j hj with ⟨h', q1, -⟩ | ⟨-, q1, -⟩
    · rw [q1]; exact h.lob j h'
    · rw [q1]; show L ≤ g; omega
  · rcases at_p j hj with ⟨h2, r1⟩ | ⟨-, r1⟩
    · rw [r1] at hk; exact h.lop j h2 k hk
    · rw [r1] at hk; have := (hpl k hk).1; omega
  · rcases at_e i hi with ⟨h1', q1, -⟩ | ⟨q0, q1, -⟩ <;> rcases at_e j hj with ⟨h2', r1, -⟩ | ⟨r0, r1, -⟩ <;> rw [q1, r1]
    · exact h.nb i j h1' h2' hne
    · have := hbl i h1'; show E[i].b ≠ g; omega
    · have := hbl j h2'; show g ≠ E[j].b; omega
    · omega
  · rcases at_e j hj with ⟨h', q1, -⟩ | ⟨-, q1, -⟩
    · rw [q1]; exact h.nB j h'
    · rw [q1]; show g ≠ B; omega
  · rcases at_p i hi with ⟨h1', q1⟩ | ⟨q0, q1⟩ <;> rcases at_p j hj with ⟨h2', r1⟩ | ⟨r0, r1⟩ <;> rw [q1] at e1 <;> rw [r1] at e2
    · exact h.np i j h1' h2' hne k e1 e2
    · have := hpl0 i h1' k e1; have := (hpl k e2).1; omega
    · have := hpl0 j h2' k e2; have := (hpl k e1).1; omega
    · omega
  · rcases at_p i hi with ⟨h1', q1⟩ | ⟨q0, q1⟩ <;> rcases at_e j hj with ⟨h2', r1, -⟩ | ⟨r0, r1, -⟩ <;> rw [q1] at e1 <;> rw [r1]
    · exact h.npb i j h1' h2' k e1
    · have := hpl0 i h1' k e1; show g ≠ k; omega
    · have := (hpl k e1).1; have := hbl j h2'; show E[j].b ≠ k; omega
    · exact fun e => (hpl k e1).2 e.symm
  · rcases at_p i hi with ⟨h1', q1⟩ | ⟨q0, q1⟩ <;> rw [q1] at e1
    · exact h.npB i h1' k e1
    · have := (hpl k e1).1; omega
  · rcases at_e j hj with ⟨h', q1, -⟩ | ⟨-, q1, -⟩
    · rw [q1]; exact h.wf j h'
    · rw [q1]; exact hw
end LE
end Go.Proofs.YtggjillpfclajaaGreat.Kit
