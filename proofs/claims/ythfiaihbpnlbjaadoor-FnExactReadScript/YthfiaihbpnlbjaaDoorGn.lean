
/- Rows of structs of n cells each, one of which may be a slice with a block of its own: how they lie, how they are read, put, appended. No Go function is spoken of. -/
import Derived.Test.YthfiaihbpnlbjaaDoorAt
import Derived.Deep.AppendLies
namespace Go.Proofs.YthfiaihbpnlbjaaDoor.Kit
open Go.RowKit
/-- The cells of one struct. -/
abbrev Row := List Value
def Even (n : Nat) (ts : List Row) : Prop := ∀ t ∈ ts, t.length = n
theorem Even.nil (n : Nat) : Even n [] := fun _ h => by cases h
theorem Even.cons {n : Nat} {t : Row} {ts : List Row} (h : Even n (t :: ts)) : t.length = n ∧ Even n ts := ⟨h t (by simp), fun x hx => h x (by simp [hx])⟩
theorem Even.mk {n : Nat} {t : Row} {ts : List Row} (h1 : t.length = n) (h : Even n ts) : Even n (t :: ts) := fun x hx => (List.mem_cons.1 hx).elim (fun e => e ▸ h1) (h x)
theorem Even.append {n : Nat} {a b : List Row} (ha : Even n a) (hb : Even n b) : Even n (a ++ b) := fun x hx => (List.mem_append.1 hx).elim (ha x) (hb x)
theorem Even.at {n : Nat} {ts : List Row} (h : Even n ts) (j : Nat) (hj : j < ts.length) : ts[j].length = n := h _ (List.getElem_mem hj)
theorem Even.set {n : Nat} {ts : List Row} (h : Even n ts) (j : Nat) {t : Row} (ht : t.length = n) : Even n (ts.set j t) := fun x hx => (List.mem_or_eq_of_mem_set hx).elim (h x) (fun e => e ▸ ht)
theorem flat_length {n : Nat} {ts : List Row} (h : Even n ts) : ts.flatten.length = ts.length * n := by
  induction ts with
  | nil => simp
  | cons t r ih => rw [List.flatten_cons, List.length_append, ih h.cons.2, h.cons.1, List.length_cons, Nat.add_mul]; omega
theorem flat_at {n : Nat} {ts : List Row} (h : Even n ts) (j i : Nat) (hj : j < ts.length) (hi : i < n) : ts.flatten[j * n + i]? = ts[j][i]? := by
  induction ts generalizing j with
  | nil => simp at hj
  | cons t r ih =>
    have h1 := h.cons.1
    cases j with
    | zero =>
      rw [Nat.zero_mul, Nat.zero_add, List.flatten_cons, List.getElem?_append_left (by omega)]
      rfl
    | succ j =>
      rw [List.flatten_cons, List.getElem?_append_right (by rw [Nat.add_mul]; omega), show (j + 1) * n + i - t.length = j * n + i by rw [Nat.add_mul]; omega]
      exact ih h.cons.2 j (by simpa using hj)
theorem flat_set {n : Nat} {ts : List Row} (h : Even n ts) (j i : Nat) (hj : j < ts.length) (hi : i < n) (x : Value) : ts.flatten.set (j * n + i) x = (ts.set j (ts[j].set i x)).flatten := by
  induction ts generalizing j with
  | nil => simp at hj
  | cons t r ih =>
    have h1 := h.cons.1
    cases j with
    | zero =>
      rw [Nat.zero_mul, Nat.zero_add, List.flatten_cons, List.set_append_left _ _ (by omega)]
      rfl
    | succ j =>
      rw [List.flatten_cons, List.set_append_right _ _ (by rw [Nat.add_mul]; omega), show (j + 1) * n + i - t.length = j * n + i by rw [Nat.add_mul]; omega, ih h.cons.2 j (by simpa using hj)]
      rfl
/-- The cells of a row are stored from off on. -/
def setRow (w : World) (g off : Nat) : Row → World
  | [] => w
  | x :: r => setRow (w.setCell ⟨g, off, none⟩ x) g (off + 1) r
theorem setRow_other (g : Nat) (t : Row) : ∀ (w : World) (off k : Nat), k ≠ g → (setRow w g off t).heap[k]? = w.heap[k]? := by
  induction t with
  | nil => exact fun _ _ _ _ => rfl
  | cons x r ih => exact fun w off k hk => (ih _ _ k hk).trans (heap_setCell_other w ⟨g, off, none⟩ k x hk)
theorem setRow_size (g : Nat) (t : Row) : ∀ (w : World) (off : Nat), (setRow w g off t).heap.size = w.heap.size := by
  induction t with
  | nil => exact fun _ _ => rfl
  | cons x r ih => exact fun w off => (ih _ _).trans (by simp)
theorem setRow_same (g : Nat) (t : Row) : ∀ (w : World) (off : Nat), (setRow w g off t).os = w.os ∧ (setRow w g off t).tape = w.tape ∧ (setRow w g off t).output = w.output := by
  induction t with
  | nil => exact fun _ _ => ⟨rfl, rfl, rfl⟩
  | cons x r ih => exact fun w off => ih _ _
theorem setRow_below (g : Nat) (t : Row) {w0 w : World} {B : Nat} (h : Below B w0 w) (off : Nat) (hg : B ≤ g) : Below B w0 (setRow w g off t) :=
  ⟨(setRow_same g t w off).1.trans h.os, (setRow_same g t w off).2.1.trans h.tape, (setRow_same g t w off).2.2.trans h.output, by rw [setRow_size]; exact h.size, fun k hk => (setRow_other g t w off k (by omega)).trans (h.block k hk)⟩
/-- The slice value v owns the structs ts of n cells each (element type e). -/
def NOwns (w : World) (e : TypeId) (n : Nat) (v : Value) (ts : List Row) : Prop := Even n ts ∧ w.ownsRow 0 e n v ts.length ts.flatten
theorem NOwns.lt {w : World} {e : TypeId} {n : Nat} {v : Value} {l : List Row} (h : NOwns w e n v l) : ∀ k, v.ownBlock = some k → k < w.heap.size := fun k hk => (World.ownsRow.lt h.2 k hk).2
theorem NOwns.of_heap {w w' : World} {e : TypeId} {n : Nat} {v : Value} {l : List Row} (h : NOwns w e n v l) (hh : ∀ k, v.ownBlock = some k → w'.heap[k]? = w.heap[k]?) : NOwns w' e n v l := by
  refine ⟨h.1, h.2.1, ?_⟩
  rcases h.2.2 with h1 | ⟨g, cap, cur, h1, h2, h3, h4⟩
  · exact .inl h1
  · exact .inr ⟨g, cap, cur, h1, h2, by rw [hh g (by rw [h1]; rfl), h3], h4⟩
theorem NOwns.nil (w : World) (e : TypeId) (n : Nat) : NOwns w e n (.slice none 0 0) [] := ⟨Even.nil _, World.ownsRow_nil _ _ _ _⟩
theorem NOwns.form {w : World} {e : TypeId} {n : Nat} {v : Value} {l : List Row} (h : NOwns w e n v l) : ∃ a cap, v = .slice a l.length cap ∧ l.length ≤ cap ∧ (a = none → l = []) := by
  rcases h.2.2 with ⟨rfl, h0⟩ | ⟨g, cap, cur, rfl, _, _, hc, _⟩
  · exact ⟨none, 0, by rw [h0], by omega, fun _ => List.length_eq_zero_iff.1 h0⟩
  · exact ⟨_, _, rfl, hc, fun h => by cases h⟩
theorem NOwns.at {w : World} {e : TypeId} {n : Nat} {v : Value} {l : List Row} (h : NOwns w e n v l) (k : Nat) (hk : k < l.length) :
    ∃ g cap, v = .slice (some ⟨g, 0, none⟩) l.length cap ∧ (∀ i, i < n → w.cell? ⟨g, k * n + i, none⟩ = l[k][i]?) ∧ (∀ j, w.frozen? ⟨g, j, none⟩ = false) ∧ g < w.heap.size ∧ l.length ≤ cap := by
  have hlt := h.lt
  rcases h.2.2 with ⟨h1, h0⟩ | ⟨g, cap, cur, rfl, h2, h3, h4, h5, h6, h7⟩
  · omega
  · have h' : w.ownsRow 0 e n (.slice (some ⟨g, 0, none⟩) l.length cap) l.length l.flatten := h.2
    refine ⟨g, cap, rfl, fun i hi => (h'.cellAt _ ?_).trans (flat_at h.1 k i hk hi), h'.frozenAt, hlt g rfl, h4⟩
    have : (k + 1) * n ≤ l.length * n := Nat.mul_le_mul_right n hk
    rw [Nat.add_mul] at this
    omega
theorem NOwns.set {w : World} {g cap : Nat} {e : TypeId} {n : Nat} {l : List Row} (h : NOwns w e n (.slice (some ⟨g, 0, none⟩) l.length cap) l) (k i : Nat) (hk : k < l.length) (hi : i < n) (x : Value) :
    NOwns (w.setCell ⟨g, k * n + i, none⟩ x) e n (.slice (some ⟨g, 0, none⟩) l.length cap) (l.set k (l[k].set i x)) := by
  refine ⟨h.1.set k (by rw [List.length_set]; exact h.1.at k hk), ?_⟩
  rw [List.length_set, ← flat_set h.1 k i hk hi x]
  exact (World.ownsRow.stored h.2 (k * n + i) x).1
theorem NOwns.setRow {g cap : Nat} {e : TypeId} {n : Nat} (k : Nat) (t : Row) : ∀ (w : World) (l : List Row) (hk : k < l.length) (pre : Row), NOwns w e n (.slice (some ⟨g, 0, none⟩) l.length cap) l → pre.length + t.length = n → l[k].take pre.length = pre →
    NOwns (setRow w g (k * n + pre.length) t) e n (.slice (some ⟨g, 0, none⟩) l.length cap) (l.set k (pre ++ t)) := by
  induction t with
  | nil =>
    intro w l hk pre h hl hp
    have e1 : l[k] = pre := by
      have := h.1.at k hk
      rw [← hp, List.take_of_length_le (by simp at hl; omega)]
    rw [List.append_nil, ← e1, List.set_getElem_self]
    exact h
  | cons x r ih =>
    intro w l hk pre h hl hp
    have hlen := h.1.at k hk
    simp only [List.length_cons] at hl
    have h1 := h.set k pre.length hk (by omega) x
    have hk2 : k < (l.set k (l[k].set pre.length x)).length := by simpa using hk
    have h2 : NOwns (w.setCell ⟨g, k * n + pre.length, none⟩ x) e n (.slice (some ⟨g, 0, none⟩) (l.set k (l[k].set pre.length x)).length cap) (l.set k (l[k].set pre.length x)) := by rw [List.length_set]; exact h1
    have hp2 : (l.set k (l[k].set pre.length x))[k].take (pre ++ [x]).length = pre ++ [x] := by
      rw [List.getElem_set_self, List.length_append, List.length_singleton, List.take_add_one, List.take_set_of_le (Nat.le_refl _), hp, List.getElem?_set_self (by omega)]
      rfl
    have h3 := ih _ _ hk2 (pre ++ [x]) h2 (by simp; omega) hp2
    rw [List.length_append, List.length_singleton, List.length_set, List.set_set, List.append_assoc] at h3
    exact h3
theorem NOwns.of_at {w : World} {e : TypeId} {n g : Nat} {cs : Array Value} {ts : List Row} (h : AtC w g e cs) (hc : cs.toList = ts.flatten) (he : Even n ts) (hm : ts.length ≤ maxLen) : NOwns w e n (.slice (some ⟨g, 0, none⟩) ts.length ts.length) ts := by
  have hs : cs.size = ts.length * n := by rw [← Array.length_toList, hc, flat_length he]
  refine ⟨he, by rw [flat_length he], .inr ⟨g, ts.length, cs, rfl, Nat.zero_le _, h, Nat.le_refl _, hm, hs, ?_⟩⟩
  rw [hc, List.take_of_length_le (by rw [flat_length he]; exact Nat.le_refl _)]
theorem step_append_n {P : Program} (W : World) {ops : Array Oper} {o : Oper} {a : Act} {K : Act → World → Prop} {Q : Exit → Act → World → Prop} {E : Prop} (hgd : o.guard = none) (s x : Operand) (t : TypeId)
    (ho : o.op = .call { callee := .builtin .append, args := #[s, x], argTypes := #[t, t] }) (e : TypeId) (ht : P.underlying t = some (.slice e)) (z : Value) (n bytes : Nat)
    (hi : (P.info? e).map (fun i => (i.zero, i.size, i.bytes)) = some (some z, n, bytes)) (hzc : z.cells.size = n) (hn : 0 < n) (hby : bytes ≤ 640) (v : Value) (ts : List Row) (hs : a.eval s = v) (hown : NOwns W e n v ts)
    (g : Nat) (y : Row) (hy : y.length = n) (hx : a.eval x = .slice (some ⟨g, 0, none⟩) 1 1) (hc : ∀ (j : Nat) (u : Value), y[j]? = some u → W.cell? ⟨g, j, none⟩ = some u) (h1 : ∀ u ∈ y, u.oneCell' = true) (hl : ts.length ≤ 100000000000)
    (h : ∀ v' w', NOwns w' e n v' (ts ++ [y]) → W.grownBy w' v.ownBlock → (∀ k, v'.ownBlock = some k → v.ownBlock = some k ∨ W.heap.size ≤ k) → K (a.put o.dst v') w') :
    if Region.wanted o (yielded ops a.tmps) = true then Oper.wp P o a W K Q else E := by
  obtain ⟨i0, hi, hz0, hz1, hz2⟩ := info_parts hi
  refine step_append_lies _ hgd s x t ho 0 e i0 z n bytes ht hi hz0 hz1 hz2 hzc hn v ts.length ts.flatten hs hown.2 ⟨g, 0, none⟩ 1 1 y hx (by rw [hy, Nat.one_mul]) ?_ h1 (by decide) ?_ ?_ (Nat.zero_le _) W.heap.size rfl ?_
  · intro j u hj
    have := hc j u hj
    by_cases e : j = 0
    · subst e; simpa [Addr.add] using this
    · simpa [Addr.add, e] using this
  · unfold maxLen; omega
  · have : (ts.length + 1) * bytes ≤ 100000000001 * 640 := Nat.mul_le_mul (by omega) hby
    omega
  · intro g' cap w' hown' hgrow hat _
    refine h _ w' ⟨hown.1.append (Even.mk hy (Even.nil _)), ?_⟩ hgrow fun k hk => ?_
    · rw [List.length_append, List.flatten_append, show [y].flatten = y by simp]
      exact hown'
    · simp only [Value.ownBlock, Option.some.injEq] at hk
      subst hk
      rcases hat with hat | hat
      · exact .inl hat
      · exact .inr (by omega)
end Go.Proofs.YthfiaihbpnlbjaaDoor.Kit
