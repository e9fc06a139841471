
/- Rows of structs of n cells each, one of which may be a slice with a block of its own: how they lie, how they are read, put, appended. No Go function is spoken of. -/
import Derived.Test.YtgjbenbodegnjaaDk
import Derived.Test.YtgjbenbodegnjaaKAt
import Derived.Deep.AppendLies
namespace Go.Proofs.Ytgjbenbodegnjaa.Kit
open Go.RowKit
/-- The cells of one struct. -/
abbrev Row := List Value
def Even (n : Nat) (ts : List Row) : Prop := ∀ t ∈ ts, t.length = n
theorem Even.nil (n : Nat) : Even n [] := fun _ h => by cases h
theorem Even.cons {n : Nat} {t : Row} {ts : List Row} (h : Even n (t :: ts)) : t.length = n ∧ Even n ts := ⟨h t (by simp), fun x hx => h x (by simp [hx])⟩
theorem Even.mk {n : Nat} {t : Row} {ts : List Row} (h1 : t.length = n) (h : Even n ts) : Even n (t :: ts) := fun x hx => (List.mem_cons.1 hx).elim (fun e => e ▸ h1) (h x)
theorem Even.append {n : Nat} {a b : List Row} (ha : Even n a) (hb : Even n b) : Even n (a ++ b) := fun x hx => (List.mem_append.1 hx).elim (ha x) (hb x)
theorem Even.at {n : Nat} {ts : List Row} (h : Even n ts) (j : Nat) (hj : j < ts.length) : ts[j].length = n := h _ (List.getElem_mem hj)
theorem Even.set {n : Nat} {ts : List Row} (h : Even n ts) (j : Nat) {t : Row} (ht : t.length = n) : Even n (ts.set j t) := fun x hx => (List.mem_or_eq_of_mem_set hx).elim (h x) (fun e => e ▸ ht)
theorem flat_length {n : Nat} {ts : List Row} (h : Even n ts) : ts.flatten.length = ts.length * n := by
  induction ts with
  | nil => simp
  | cons t r ih => rw [List.flatten_cons, List.length_append, ih h.cons.2, h.cons.1, List.length_cons, Nat.add_mul]; omega
theorem flat_at {n : Nat} {ts : List Row} (h : Even n ts) (j i : Nat) (hj : j < ts.length) (hi : i < n) : ts.flatten[j * n + i]? = ts[j][i]? := by
  induction ts generalizing j with
  | nil => simp at hj
  | cons t r ih =>
    have h1 := h.cons.1
    cases j with
    | zero =>
      rw [Nat.zero_mul, Nat.zero_add, List.flatten_cons, List.getElem?_append_left (by omega)]
      rfl
    | succ j =>
      rw [List.flatten_cons, List.getElem?_append_right (by rw [Nat.add_mul]; omega), show (j + 1) * n + i - t.length = j * n + i by rw [Nat.add_mul]; omega]
      exact ih h.cons.2 j (by simpa using hj)
theorem flat_set {n : Nat} {ts : List Row} (h : Even n ts) (j i : Nat) (hj : j < ts.length) (hi : i < n) (x : Value) : ts.flatten.set (j * n + i) x = (ts.set j (ts[j].set i x)).flatten := by
  induction ts generalizing j with
  | nil => simp at hj
  | cons t r ih =>
    have h1 := h.cons.1
    cases j with
    | zero =>
      rw [Nat.zero_mul, Nat.zero_add, List.flatten_cons, List.set_append_left _ _ (by omega)]
      rfl
    | succ j =>
      rw [List.flatten_cons, List.set_append_right _ _ (by rw [Nat.add_mul]; omega), show (j + 1) * n + i - t.length = j * n + i by rw [Nat.add_mul]; omega, ih h.cons.2 j (by simpa using hj)]
      rfl
/-- The cells of a row are stored from off on. -/
def setRow (w : World) (g off : Nat) : Row → World
  | [] => w
  | x :: r => setRow (w.setCell ⟨g, off, none⟩ x) g (off + 1) r
theorem setRow_other (g : Nat) (t : Row) : ∀ (w : World) (off k : Nat), k ≠ g → (setRow w g off t).heap[k]? = w.heap[k]? := by
  induction t with
  | nil => exact fun _ _ _ _ => rfl
  | cons x r ih => exact fun w off k hk => (ih _ _ k hk).trans (heap_setCell_other w ⟨g, off, none⟩ k x hk)
theorem setRow_size (g : Nat) (t : Row) : ∀ (w : World) (off : Nat), (setRow w g off t).heap.size = w.heap.size := by
  induction t with
  | nil => exact fun _ _ => rfl
  | cons x r ih => exact fun w off => (ih _ _).trans (by simp)
theorem setRow_same (g : Nat) (t : Row) : ∀ (w : World) (off : Nat), (setRow w g off t).os = w.os ∧ (setRow w g off t).tape = w.tape ∧ (setRow w g off t).output = w.output := by
  induction t with
  | nil => exact fun _ _ => ⟨rfl, rfl, rfl⟩
  | cons x r ih => exact fun w off => ih _ _
theorem setRow_below (g : Nat) (t : Row) {w0 w : World} {B : Nat} (h : Below B w0 w) (off : Nat) (hg : B ≤ g) : Below B w0 (setRow w g off t) :=
  ⟨(setRow_same g t w off).1.trans h.os, (setRow_same g t w off).2.1.trans h.tape, (setRow_same g t w off).2.2.trans h.output, by rw [setRow_size]; exact h.size, fun k hk => (setRow_other g t w off k (by omega)).trans (h.block k hk)⟩
/-- The slice value v owns the structs ts of n cells each (element type e). -/
def NOwns (w : World) (e : TypeId) (n : Nat) (v : Value) (ts : List Row) : Prop := Even n ts ∧ w.ownsRow 0 e n v ts.length ts.flatten
theorem NOwns.lt {w : World} {e : TypeId} {n : Nat} {v : Value} {l : List Row} (h : NOwns w e n v l) : ∀ k, v.ownBlock = some k → k < w.heap.size := fun k hk => (World.ownsRow.lt h.2 k hk).2
theorem NOwns.of_heap {w w' : World} {e : TypeId} {n : Nat} {v : Value} {l : List Row} (h : NOwns w e n v l) (hh : ∀ k, v.ownBlock = some k → w'.heap[k]? = w.heap[k]?) : NOwns w' e n v l := by
  refine ⟨h.1, h.2.1, ?_⟩
  rcases h.2.2 with h1 | ⟨g, cap, cur, h1, h2, h3, h4⟩
  · exact .inl h1
  · exact .inr ⟨g, cap, cur, h1, h2, by rw [hh g (by rw [h1]; rfl), h3], h4⟩
theorem NOwns.nil (w : World) (e : TypeId) (n : Nat) : NOwns w e n (.slice none 0 0) [] := ⟨Even.nil _, World.ownsRow_nil _ _ _ _⟩
theorem NOwns.form {w : World} {e : TypeId} {n : Nat} {v : Value} {l : List Row} (h : NOwns w e n v l) : ∃ a cap, v = .slice a l.length cap ∧ l.length ≤ cap ∧ (a = none → l = []) := by
  rcases h.2.2 with ⟨rfl, h0⟩ | ⟨g, cap, cur, rfl, _, _, hc, _⟩
  · exact ⟨none, 0, by rw [h0], by omega, fun _ => List.length_eq_zero_iff.1 h0⟩
  · exact ⟨_, _, rfl, hc, fun h => by cases h⟩
theorem NOwns.at {w : World} {e : TypeId} {n : Nat} {v : Value} {l : List Row} (h : NOwns w e n v l) (k : Nat) (hk : k < l.length) :
    ∃ g cap, v = .slice (some ⟨g, 0, none⟩) l.length cap ∧ (∀ i, i < n → w.cell? ⟨g, k * n + i, none⟩ = l[k][i]?) ∧ (∀ j, w.frozen? ⟨g, j, none⟩ = false) ∧ g < w.heap.size ∧ l.length ≤ cap := by
  have hlt := h.lt
  rcases h.2.2 with ⟨h1, h0⟩ | ⟨g, cap, cur, rfl, h2, h3, h4, h5, h6, h7⟩
  · omega
  · have h' : w.ownsRow 0 e n (.slice (some ⟨g, 0, none⟩) l.length cap) l.length l.flatten := h.2
    refine ⟨g, cap, rfl, fun i hi => (h'.cellAt _ ?_).trans (flat_at h.1 k i hk hi), h'.frozenAt, hlt g rfl, h4⟩
    have : (k + 1) * n ≤ l.length * n := Nat.mul_le_mul_right n hk
    rw [Nat.add_mul] at this
    omega
theorem NOwns.set {w : World} {g cap : Nat} {e : TypeId} {n : Nat} {l : List Row} (h : NOwns w e n (.slice (some ⟨g, 0, none⟩) l.length cap) l) (k i : Nat) (hk : k < l.length) (hi : i < n) (x : Value) :
    NOwns (w.setCell ⟨g, k * n + i, none⟩ x) e n (.slice (some ⟨g, 0, none⟩) l.length cap) (l.set k (l[k].set i x)) := by
  refine ⟨h.1.set k (by rw [List.length_set]; exact h.1.at k hk), ?_⟩
  rw [List.length_set, ← flat_set h.1 k i hk hi x]
  exact (World.ownsRow.stored h.2 (k * n + i) x).1
theorem NOwns.setRow {g cap : Nat} {e : TypeId} {n : Nat} (k : Nat) (t : Row) : ∀ (w : World) (l : List Row) (hk : k < l.length) (pre : Row), NOwns w e n (.slice (some ⟨g, 0, none⟩) l.length cap) l → pre.length + t.length = n → l[k].take pre.length = pre →
    NOwns (setRow w g (k * n + pre.length) t) e n (.slice (some ⟨g, 0, none⟩) l.length cap) (l.set k (pre ++ t)) := by
  induction t with
  | nil =>
    intro w l hk pre h hl hp
    have e1 : l[k] = pre := by
      have := h.1.at k hk
      rw [← hp, List.take_of_length_le (by simp at hl; omega)]
    rw [List.append_nil, ← e1, List.set_getElem_self]
    exact h
  | cons x r ih =>
    intro w l hk pre h hl hp
    have hlen := h.1.at k hk
    simp only [List.length_cons] at hl
    have h1 := h.set k pre.length hk (by omega) x
    have hk2 : k < (l.set k (l[k].set pre.length x)).length := by simpa using hk
    have h2 : NOwns (w.setCell ⟨g, k * n + pre.length, none⟩ x) e n (.slice (some ⟨g, 0, none⟩) (l.set k (l[k].set pre.length x)).length cap) (l.set k (l[k].set pre.length x)) := by rw [List.length_set]; exact h1
    have hp2 : (l.set k (l[k].set pre.length x))[k].take (pre ++ [x]).length = pre ++ [x] := by
      rw [List.getElem_set_self, List.length_append, List.length_singleton, List.take_add_one, List.take_set_of_le (Nat.le_refl _), hp, List.getElem?_set_self (by omega)]
      rfl
    have h3 := ih _ _ hk2 (pre ++ [x]) h2 (by simp; omega) hp2
    rw [List.length_append, List.length_singleton, List.length_set, List.set_set, List.append_assoc] at h3
    exact h3
theorem NOwns.of_at {w : World} {e : TypeId} {n g : Nat} {cs : Array Value} {ts : List Row} (h : AtC w g e cs) (hc : cs.toList = ts.flatten) (he : Even n ts) (hm : ts.length ≤ maxLen) : NOwns w e n (.slice (some ⟨g, 0, none⟩) ts.length ts.length) ts := by
  have hs : cs.size = ts.length * n := by rw [← Array.length_toList, hc, flat_length he]
  refine ⟨he, by rw [flat_length he], .inr ⟨g, ts.length, cs, rfl, Nat.zero_le _, h, Nat.le_refl _, hm, hs, ?_⟩⟩
  rw [hc, List.take_of_length_le (by rw [flat_length he]; exact Nat.le_refl _)]
theorem step_append_n {P : Program} (W : World) {ops : Array Oper} {o : Oper} {a : Act} {K : Act → World → Prop} {Q : Exit → Act → World → Prop} {E : Prop} (hgd : o.guard = none) (s x : Operand) (t : TypeId)
    (ho : o.op = .call { callee := .builtin .append, args := #[s, x], argTypes := #[t, t] }) (e : TypeId) (ht : P.underlying t = some (.slice e)) (z : Value) (n bytes : Nat)
    (hi : (P.info? e).map (fun i => (i.zero, i.size, i.bytes)) = some (some z, n, bytes)) (hzc : z.cells.size = n) (hn : 0 < n) (hby : bytes ≤ 640) (v : Value) (ts : List Row) (hs : a.eval s = v) (hown : NOwns W e n v ts)
    (g : Nat) (y : Row) (hy : y.length = n) (hx : a.eval x = .slice (some ⟨g, 0, none⟩) 1 1) (hc : ∀ (j : Nat) (u : Value), y[j]? = some u → W.cell? ⟨g, j, none⟩ = some u) (h1 : ∀ u ∈ y, u.oneCell' = true) (hl : ts.length ≤ 100000000000)
    (h : ∀ v' w', NOwns w' e n v' (ts ++ [y]) → W.grownBy w' v.ownBlock → (∀ k, v'.ownBlock = some k → v.ownBlock = some k ∨ W.heap.size ≤ k) → K (a.put o.dst v') w') :
    if Region.wanted o (yielded ops a.tmps) = true then Oper.wp P o a W K Q else E := by
  obtain ⟨i0, hi, hz0, hz1, hz2⟩ := info_parts hi
  refine step_append_lies _ hgd s x t ho 0 e i0 z n bytes ht hi hz0 hz1 hz2 hzc hn v ts.length ts.flatten hs hown.2 ⟨g, 0, none⟩ 1 1 y hx (by rw [hy, Nat.one_mul]) ?_ h1 (by decide) ?_ ?_ (Nat.zero_le _) W.heap.size rfl ?_
  · intro j u hj
    have := hc j u hj
    by_cases e : j = 0
    · subst e; simpa [Addr.add] using this
    · simpa [Addr.add, e] using this
  · unfold maxLen; omega
  · have : (ts.length + 1) * bytes ≤ 100000000001 * 640 := Nat.mul_le_mul (by omega) hby
    omega
  · intro g' cap w' hown' hgrow hat _
    refine h _ w' ⟨hown.1.append (Even.mk hy (Even.nil _)), ?_⟩ hgrow fun k hk => ?_
    · rw [List.length_append, List.flatten_append, show [y].flatten = y by simp]
      exact hown'
    · simp only [Value.ownBlock, Option.some.injEq] at hk
      subst hk
      rcases hat with hat | hat
      · exact .inl hat
      · exact .inr (by omega)
/-- A kind of structs: how many cells, the type, which cell owns memory, how one owns and reads its value. -/
structure Kn (α : Type) where
  n : Nat
  T : TypeId
  p : Row → Value
  O : World → Row → α → Prop
  R : World → Row → α → Prop
  len : ∀ {w : World} {t : Row} {x : α}, O w t x → t.length = n
  heap : ∀ {w w' : World} {t : Row} {x : α}, O w t x → (∀ k, (p t).ownBlock = some k → w'.heap[k]? = w.heap[k]?) → O w' t x
  lt : ∀ {w : World} {t : Row} {x : α}, O w t x → ∀ k, (p t).ownBlock = some k → k < w.heap.size
  rd : ∀ {w : World} {t : Row} {x : α}, O w t x → R w t x
  bel : ∀ {w w' : World} {t : Row} {x : α} {B : Nat}, R w t x → Below B w w' → w.heap.size ≤ B → R w' t x
/-- A list of such structs, in blocks of S of its own, no two of which are one. -/
structure GN {α : Type} (K : Kn α) (w : World) (S : Nat → Prop) (v : Value) (ts : List Row) (xs : List α) : Prop where
  len : ts.length = xs.length
  row : NOwns w K.T K.n v ts
  inn : ∀ (j : Nat) (h : j < ts.length) (h' : j < xs.length), K.O w ts[j] xs[j]
  sep : ∀ (i j : Nat) (hi : i < ts.length) (hj : j < ts.length), i ≠ j → ∀ k, (K.p ts[i]).ownBlock = some k → (K.p ts[j]).ownBlock ≠ some k
  out : ∀ (j : Nat) (h : j < ts.length) (k : Nat), (K.p ts[j]).ownBlock = some k → v.ownBlock ≠ some k
  so : ∀ k, v.ownBlock = some k → S k
  si : ∀ (j : Nat) (h : j < ts.length) (k : Nat), (K.p ts[j]).ownBlock = some k → S k
namespace GN
variable {α : Type} {K : Kn α} {w w' w1 w2 : World} {S S' : Nat → Prop} {v v' : Value} {ts : List Row} {xs : List α} {t' : Row} {x' : α}
theorem of_heap (h : GN K w S v ts xs) (hh : ∀ k, S k → k < w.heap.size → w'.heap[k]? = w.heap[k]?) : GN K w' S v ts xs :=
  ⟨h.len, h.row.of_heap fun k hk => hh k (h.so k hk) (h.row.lt k hk), fun j hj hj' => K.heap (h.inn j hj hj') fun k hk => hh k (h.si j hj k hk) (K.lt (h.inn j hj hj') k hk), h.sep, h.out, h.so, h.si⟩
theorem below {B : Nat} (h : GN K w S v ts xs) (hb : Below B w w') (hB : w.heap.size ≤ B) : GN K w' S v ts xs := h.of_heap fun k _ hk => hb.block k (by omega)
theorem chg (h : GN K w S v ts xs) (hc : Chg S' w w') (hd : ∀ k, S k → ¬ S' k) : GN K w' S v ts xs := h.of_heap fun k hs hk => hc.block k hk (hd k hs)
theorem alloc (h : GN K w S v ts xs) (o : Obj) : GN K (w.alloc o) S v ts xs := h.below ((Below.refl _ w).alloc (Nat.le_refl _) o) (Nat.le_refl _)
theorem drew (h : GN K w S v ts xs) : GN K w.drew S v ts xs := h.below (Below.refl w.heap.size w).drew (Nat.le_refl _)
theorem mono (h : GN K w S v ts xs) (hs : ∀ k, S k → S' k) : GN K w S' v ts xs := ⟨h.len, h.row, h.inn, h.sep, h.out, fun k e => hs k (h.so k e), fun j hj k e => hs k (h.si j hj k e)⟩
theorem bound (h : GN K w S v ts xs) : GN K w (fun k => S k ∧ k < w.heap.size) v ts xs :=
  ⟨h.len, h.row, h.inn, h.sep, h.out, fun k e => ⟨h.so k e, h.row.lt k e⟩, fun j hj k e => ⟨h.si j hj k e, K.lt (h.inn j hj (by rw [← h.len]; exact hj)) k e⟩⟩
theorem form (h : GN K w S v ts xs) : ∃ a cap, v = .slice a xs.length cap := by
  obtain ⟨a, c, e, _⟩ := h.row.form
  exact ⟨a, c, by rw [e, h.len]⟩
theorem nil (w : World) (S : Nat → Prop) : GN K w S (.slice none 0 0) [] [] :=
  ⟨rfl, NOwns.nil _ _ _, fun j hj => by simp at hj, fun i j hi => by simp at hi, fun j hj => by simp at hj, (fun k e => by cases e), fun j hj => by simp at hj⟩
theorem len_of (h : GN K w S v ts xs) {a : Option Addr} {n cap : Nat} (hv : v = .slice a n cap) : n = ts.length := by
  obtain ⟨a', c, e, _⟩ := h.row.form
  rw [hv] at e
  simp only [Value.slice.injEq] at e
  exact e.2.1
theorem turn (h : GN K w S v ts xs) (j : Nat) (hj : j < ts.length) (t' : Row) (x' : α) (hr : NOwns w' K.T K.n v (ts.set j t')) (hO : K.O w' t' x')
    (hf : ∀ k, k < w.heap.size → v.ownBlock ≠ some k → (K.p ts[j]).ownBlock ≠ some k → w'.heap[k]? = w.heap[k]?)
    (hn : ∀ k, (K.p t').ownBlock = some k → (K.p ts[j]).ownBlock = some k ∨ w.heap.size ≤ k) (hs : ∀ k, S k → S' k) (hs2 : ∀ k, (K.p t').ownBlock = some k → S' k) : GN K w' S' v (ts.set j t') (xs.set j x') := by
  have hl := h.len
  have hv := h.row.lt
  refine ⟨by simp [hl], hr, fun i hi hi' => ?_, fun i i2 hi hi2 hne k e1 e2 => ?_, fun i hi k e1 e2 => ?_, fun k e => hs k (h.so k e), fun i hi k e => ?_⟩
  · simp only [List.length_set] at hi hi'
    by_cases e : j = i
    · subst e
      simp only [List.getElem_set_self]
      exact hO
    · simp only [List.getElem_set_ne e]
      exact K.heap (h.inn i hi hi') fun k hk => hf k (K.lt (h.inn i hi hi') k hk) (fun e' => h.out i hi k hk e') (fun e' => h.sep i j hi hj (fun q => e q.symm) k hk e')
  · simp only [List.length_set] at hi hi2
    by_cases ei : j = i
    · subst ei
      simp only [List.getElem_set_self] at e1
      rw [List.getElem_set_ne hne] at e2
      rcases hn k e1 with q | q
      · exact h.sep j i2 hi hi2 hne k q e2
      · have := K.lt (h.inn i2 hi2 (by omega)) k e2; omega
    · rw [List.getElem_set_ne ei] at e1
      by_cases e2' : j = i2
      · subst e2'
        simp only [List.getElem_set_self] at e2
        rcases hn k e2 with q | q
        · exact h.sep i j hi hj hne k e1 q
        · have := K.lt (h.inn i hi (by omega)) k e1; omega
      · rw [List.getElem_set_ne e2'] at e2
        exact h.sep i i2 hi hi2 hne k e1 e2
  · simp only [List.length_set] at hi
    by_cases ei : j = i
    · subst ei
      simp only [List.getElem_set_self] at e1
      rcases hn k e1 with q | q
      · exact h.out j hi k q e2
      · have := hv k e2; omega
    · rw [List.getElem_set_ne ei] at e1
      exact h.out i hi k e1 e2
  · simp only [List.length_set] at hi
    by_cases ei : j = i
    · subst ei
      simp only [List.getElem_set_self] at e
      exact hs2 k e
    · rw [List.getElem_set_ne ei] at e
      exact hs k (h.si i hi k e)
/-- A struct of new memory is put in its place. -/
theorem put (h : GN K w S v ts xs) {g n cap : Nat} (hv : v = .slice (some ⟨g, 0, none⟩) n cap) (j : Nat) (hj : j < ts.length) (hb : Below w.heap.size w w1) (hO : K.O w1 t' x')
    (hn : ∀ k, (K.p t').ownBlock = some k → w.heap.size ≤ k) (hs : ∀ k, S k → S' k) (hs2 : ∀ k, w.heap.size ≤ k → S' k) : GN K (setRow w1 g (j * K.n) t') S' v (ts.set j t') (xs.set j x') := by
  have hg : g < w.heap.size := h.row.lt g (by rw [hv]; rfl)
  have r1 : NOwns w1 K.T K.n v ts := h.row.of_heap fun k hk => hb.block k (h.row.lt k hk)
  have hlen := h.len_of hv
  subst hlen
  subst hv
  refine h.turn j hj t' x' ?_ (K.heap hO fun k hk => setRow_other g t' _ _ k (by have := hn k hk; omega)) (fun k hk h1 _ => (setRow_other g t' _ _ k (fun e => h1 (by rw [e]; rfl))).trans (hb.block k hk)) (fun k hk => .inr (hn k hk)) hs (fun k hk => hs2 k (hn k hk))
  have := NOwns.setRow (g := g) (cap := cap) j t' w1 ts hj [] r1 (by rw [List.length_nil, Nat.zero_add]; exact K.len hO) rfl
  exact this
/-- A struct of new memory is appended. -/
theorem append (h : GN K w S v ts xs) (hb : Below w.heap.size w w1) (hO : K.O w1 t' x') (hn : ∀ k, (K.p t').ownBlock = some k → w.heap.size ≤ k)
    (hr : NOwns w2 K.T K.n v' (ts ++ [t'])) (hg : w1.grownBy w2 v.ownBlock) (hv : ∀ k, v'.ownBlock = some k → v.ownBlock = some k ∨ w1.heap.size ≤ k) : GN K w2 (fun k => (S k ∧ k < w.heap.size) ∨ w.heap.size ≤ k) v' (ts ++ [t']) (xs ++ [x']) := by
  have hl := h.len
  have hsz := hb.size
  have hlt : ∀ (i : Nat) (hi : i < ts.length) (k : Nat), (K.p ts[i]).ownBlock = some k → k < w.heap.size := fun i hi k hk => K.lt (h.inn i hi (by omega)) k hk
  have hlt' : ∀ k, (K.p t').ownBlock = some k → k < w1.heap.size := fun k hk => K.lt hO k hk
  have hvl : ∀ k, v.ownBlock = some k → k < w.heap.size := h.row.lt
  have at_l : ∀ (i : Nat) (hi : i < (ts ++ [t']).length), (∃ h' : i < ts.length, (ts ++ [t'])[i] = ts[i]) ∨ (i = ts.length ∧ (ts ++ [t'])[i] = t') := fun i hi => by
    by_cases e : i < ts.length
    · exact .inl ⟨e, List.getElem_append_left e⟩
    · have e2 : i = ts.length := by simp at hi; omega
      refine .inr ⟨e2, ?_⟩
      subst e2
      simp
  refine ⟨by simp [hl], hr, fun i hi hi' => ?_, fun i j hi hj hne k e1 e2 => ?_, fun i hi k e1 e2 => ?_, fun k e => ?_, fun i hi k e => ?_⟩
  · rcases at_l i hi with ⟨h', e⟩ | ⟨rfl, e⟩
    · rw [e, List.getElem_append_left (by omega)]
      exact K.heap (h.inn i h' (by omega)) fun k hk => (hg.block k (by have := hlt i h' k hk; omega) (fun e => h.out i h' k hk e.symm)).trans (hb.block k (hlt i h' k hk))
    · have e2 : (xs ++ [x'])[ts.length] = x' := by simp [hl]
      rw [e, e2]
      exact K.heap hO fun k hk => hg.block k (hlt' k hk) (fun e => by have := hvl k e.symm; have := hn k hk; omega)
  · rcases at_l i hi with ⟨h1, q1⟩ | ⟨q0, q1⟩ <;> rcases at_l j hj with ⟨h2, q2⟩ | ⟨q3, q2⟩ <;> rw [q1] at e1 <;> rw [q2] at e2
    · exact h.sep i j h1 h2 hne k e1 e2
    · have := hlt i h1 k e1; have := hn k e2; omega
    · have := hlt j h2 k e2; have := hn k e1; omega
    · omega
  · rcases at_l i hi with ⟨h1, q1⟩ | ⟨q0, q1⟩ <;> rw [q1] at e1
    · rcases hv k e2 with q | q
      · exact h.out i h1 k e1 q
      · have := hlt i h1 k e1; omega
    · rcases hv k e2 with q | q
      · have := hvl k q; have := hn k e1; omega
      · have := hlt' k e1; omega
  · rcases hv k e with q | q
    · exact .inl ⟨h.so k q, hvl k q⟩
    · exact .inr (by omega)
  · rcases at_l i hi with ⟨h1, q1⟩ | ⟨q0, q1⟩ <;> rw [q1] at e
    · exact .inl ⟨h.si i h1 k e, hlt i h1 k e⟩
    · exact .inr (hn k e)
end GN
/-- A slice value is read as a list of such structs. -/
def RN {α : Type} (K : Kn α) (w : World) (v : Value) (xs : List α) : Prop := ∃ a cap, v = .slice a xs.length cap ∧ xs.length ≤ cap ∧ ∀ (j : Nat) (h : j < xs.length), ∃ g off t, a = some ⟨g, off, none⟩ ∧ g < w.heap.size ∧ (∀ i, i < K.n → w.cell? ⟨g, off + j * K.n + i, none⟩ = t[i]?) ∧ K.R w t xs[j]
theorem RN.below {α : Type} {K : Kn α} {w w' : World} {B : Nat} {v : Value} {xs : List α} (h : RN K w v xs) (hb : Below B w w') (hB : w.heap.size ≤ B) : RN K w' v xs := by
  obtain ⟨a, cap, h1, h2, h3⟩ := h
  refine ⟨a, cap, h1, h2, fun j hj => ?_⟩
  obtain ⟨g, off, t, k1, k2, k3, k4⟩ := h3 j hj
  exact ⟨g, off, t, k1, Nat.lt_of_lt_of_le k2 hb.size, fun i hi => (hb.cell (p := ⟨g, off + j * K.n + i, none⟩) (by show g < B; omega)).trans (k3 i hi), K.bel k4 hb hB⟩
theorem RN.alloc {α : Type} {K : Kn α} {w : World} {v : Value} {xs : List α} (h : RN K w v xs) (o : Obj) : RN K (w.alloc o) v xs := h.below ((Below.refl _ w).alloc (Nat.le_refl _) o) (Nat.le_refl _)
theorem RN.drew {α : Type} {K : Kn α} {w : World} {v : Value} {xs : List α} (h : RN K w v xs) : RN K w.drew v xs := h.below (Below.refl w.heap.size w).drew (Nat.le_refl _)
theorem RN.form {α : Type} {K : Kn α} {w : World} {v : Value} {xs : List α} (h : RN K w v xs) : ∃ a c, v = .slice a xs.length c := by
  obtain ⟨a, c, h, _⟩ := h
  exact ⟨a, c, h⟩
theorem GN.rn {α : Type} {K : Kn α} {w : World} {S : Nat → Prop} {v : Value} {ts : List Row} {xs : List α} (h : GN K w S v ts xs) : RN K w v xs := by
  obtain ⟨a, cap, e, hc, _⟩ := h.row.form
  have hl := h.len
  refine ⟨a, cap, by rw [e, hl], by omega, fun j hj => ?_⟩
  obtain ⟨g, c', e', k1, k2, k3, -⟩ := h.row.at j (by omega)
  rw [e] at e'
  simp only [Value.slice.injEq] at e'
  exact ⟨g, 0, ts[j], e'.1, k3, fun i hi => by rw [Nat.zero_add]; exact k1 i hi, K.rd (h.inn j (by omega) hj)⟩
end Go.Proofs.Ytgjbenbodegnjaa.Kit
