/- Texts of the proof, bundled: Gn, Mk, Dd, Om. -/
import Derived.Deep.AppendLies
import Derived.Deep.RegionHeld3
import Derived.Test.YtggjillpfclajaaGreatU02
import Derived.Test.YtggjillpfclajaaGreatU01
import Derived.Test.YtggjillpfclajaaGreatU04
import Derived.Test.YtggjillpfclajaaGreatU03
/- Rows of structs of n cells each, one of which may be a slice with a block of its own: how they lie, how they are read, put, appended. No Go function is spoken of. -/
namespace Go.Proofs.YtggjillpfclajaaGreat.Kit
open Go.RowKit
/-- The cells of one struct. -/
abbrev Row := List Value
def Even (n : Nat) (ts : List Row) : Prop := ∀ t ∈ ts, t.length = n
theorem Even.nil (n : Nat) : Even n [] := fun _ h => by cases h
theorem Even.cons {n : Nat} {t : Row} {ts : List Row} (h : Even n (t :: ts)) : t.length = n ∧ Even n ts := ⟨h t (by simp), fun x hx => h x (by simp [hx])⟩
theorem Even.mk {n : Nat} {t : Row} {ts : List Row} (h1 : t.length = n) (h : Even n ts) : Even n (t :: ts) := fun x hx => (List.mem_cons.1 hx).elim (fun e => e ▸ h1) (h x)
theorem Even.append {n : Nat} {a b : List Row} (ha : Even n a) (hb : Even n b) : Even n (a ++ b) := fun x hx => (List.mem_append.1 hx).elim (ha x) (hb x)
theorem Even.at {n : Nat} {ts : List Row} (h : Even n ts) (j : Nat) (hj : j < ts.length) : ts[j].length = n := h _ (List.getElem_mem hj)
theorem Even.set {n : Nat} {ts : List Row} (h : Even n ts) (j : Nat) {t : Row} (ht : t.length = n) : Even n (ts.set j t) := fun x hx => (List.mem_or_eq_of_mem_set hx).elim (h x) (fun e => e ▸ ht)
theorem flat_length {n : Nat} {ts : List Row} (h : Even n ts) : ts.flatten.length = ts.length * n := by
  induction ts with
  | nil => simp
  | cons t r ih => rw [List.flatten_cons, List.length_append, ih h.cons.2, h.cons.1, List.length_cons, Nat.add_mul]; omega
theorem flat_at {n : Nat} {ts : List Row} (h : Even n ts) (j i : Nat) (hj : j < ts.length) (hi : i < n) : ts.flatten[j * n + i]? = ts[j][i]? := by
  induction ts generalizing j with
  | nil => simp at hj
  | cons t r ih =>
    have h1 := h.cons.1
    cases j with
    | zero =>
      rw [Nat.zero_mul, Nat.zero_add, List.flatten_cons, List.getElem?_append_left (by omega)]
      rfl
    | succ j =>
      rw [List.flatten_cons, List.getElem?_append_right (by rw [Nat.add_mul]; omega), show (j + 1) * n + i - t.length = j * n + i by rw [Nat.add_mul]; omega]
      exact ih h.cons.2 j (by simpa using hj)
theorem flat_set {n : Nat} {ts : List Row} (h : Even n ts) (j i : Nat) (hj : j < ts.length) (hi : i < n) (x : Value) : ts.flatten.set (j * n + i) x = (ts.set j (ts[j].set i x)).flatten := by
  induction ts generalizing j with
  | nil => simp at hj
  | cons t r ih =>
    have h1 := h.cons.1
    cases j with
    | zero =>
      rw [Nat.zero_mul, Nat.zero_add, List.flatten_cons, List.set_append_left _ _ (by omega)]
      rfl
    | succ j =>
      rw [List.flatten_cons, List.set_append_right _ _ (by rw [Nat.add_mul]; omega), show (j + 1) * n + i - t.length = j * n + i by rw [Nat.add_mul]; omega, ih h.cons.2 j (by simpa using hj)]
      rfl
/-- The cells of a row are stored from off on. -/
def setRow (w : World) (g off : Nat) : Row → World
  | [] => w
  | x :: r => setRow (w.setCell ⟨g, off, none⟩ x) g (off + 1) r
theorem setRow_other (g : Nat) (t : Row) : ∀ (w : World) (off k : Nat), k ≠ g → (setRow w g off t).heap[k]? = w.heap[k]? := by
  induction t with
  | nil => exact fun _ _ _ _ => rfl
  | cons x r ih => exact fun w off k hk => (ih _ _ k hk).trans (heap_setCell_other w ⟨g, off, none⟩ k x hk)
theorem setRow_size (g : Nat) (t : Row) : ∀ (w : World) (off : Nat), (setRow w g off t).heap.size = w.heap.size := by
  induction t with
  | nil => exact fun _ _ => rfl
  | cons x r ih => exact fun w off => (ih _ _).trans (by simp)
theorem setRow_same (g : Nat) (t : Row) : ∀ (w : World) (off : Nat), (setRow w g off t).os = w.os ∧ (setRow w g off t).tape = w.tape ∧ (setRow w g off t).output = w.output := by
  induction t with
  | nil => exact fun _ _ => ⟨rfl, rfl, rfl⟩
  | cons x r ih => exact fun w off => ih _ _
theorem setRow_below (g : Nat) (t : Row) {w0 w : World} {B : Nat} (h : Below B w0 w) (off : Nat) (hg : B ≤ g) : Below B w0 (setRow w g off t) :=
  ⟨(setRow_same g t w off).1.trans h.os, (setRow_same g t w off).2.1.trans h.tape, (setRow_same g t w off).2.2.trans h.output, by rw [setRow_size]; exact h.size, fun k hk => (setRow_other g t w off k (by omega)).trans (h.block k hk)⟩
/-- The slice value v owns the structs ts of n cells each (element type e). -/
def NOwns (w : World) (e : TypeId) (n : Nat) (v : Value) (ts : List Row) : Prop := Even n ts ∧ w.ownsRow 0 e n v ts.length ts.flatten
theorem NOwns.lt {w : World} {e : TypeId} {n : Nat} {v : Value} {l : List Row} (h : NOwns w e n v l) : ∀ k, v.ownBlock = some k → k < w.heap.size := fun k hk => (World.ownsRow.lt h.2 k hk).2
theorem NOwns.of_heap {w w' : World} {e : TypeId} {n : Nat} {v : Value} {l : List Row} (h : NOwns w e n v l) (hh : ∀ k, v.ownBlock = some k → w'.heap[k]? = w.heap[k]?) : NOwns w' e n v l := by
  refine ⟨h.1, h.2.1, ?_⟩
  rcases h.2.2 with h1 | ⟨g, cap, cur, h1, h2, h3, h4⟩
  · exact .inl h1
  · exact .inr ⟨g, cap, cur, h1, h2, by rw [hh g (by rw [h1]; rfl), h3], h4⟩
theorem NOwns.nil (w : World) (e : TypeId) (n : Nat) : NOwns w e n (.slice none 0 0) [] := ⟨Even.nil _, World.ownsRow_nil _ _ _ _⟩
theorem NOwns.form {w : World} {e : TypeId} {n : Nat} {v : Value} {l : List Row} (h : NOwns w e n v l) : ∃ a cap, v = .slice a l.length cap ∧ l.length ≤ cap ∧ (a = none → l = []) := by
  rcases h.2.2 with ⟨rfl, h0⟩ | ⟨g, cap, cur, rfl, _, _, hc, _⟩
  · exact ⟨none, 0, by rw [h0], by omega, fun _ => List.length_eq_zero_iff.1 h0⟩
  · exact ⟨_, _, rfl, hc, fun h => by cases h⟩
theorem NOwns.at {w : World} {e : TypeId} {n : Nat} {v : Value} {l : List Row} (h : NOwns w e n v l) (k : Nat) (hk : k < l.length) :
    ∃ g cap, v = .slice (some ⟨g, 0, none⟩) l.length cap ∧ (∀ i, i < n → w.cell? ⟨g, k * n + i, none⟩ = l[k][i]?) ∧ (∀ j, w.frozen? ⟨g, j, none⟩ = false) ∧ g < w.heap.size ∧ l.length ≤ cap := by
  have hlt := h.lt
  rcases h.2.2 with ⟨h1, h0⟩ | ⟨g, cap, cur, rfl, h2, h3, h4, h5, h6, h7⟩
  · omega
  · have h' : w.ownsRow 0 e n (.slice (some ⟨g, 0, none⟩) l.length cap) l.length l.flatten := h.2
    refine ⟨g, cap, rfl, fun i hi => (h'.cellAt _ ?_).trans (flat_at h.1 k i hk hi), h'.frozenAt, hlt g rfl, h4⟩
    have : (k + 1) * n ≤ l.length * n := Nat.mul_le_mul_right n hk
    rw [Nat.add_mul] at this
    omega
theorem NOwns.set {w : World} {g cap : Nat} {e : TypeId} {n : Nat} {l : List Row} (h : NOwns w e n (.slice (some ⟨g, 0, none⟩) l.length cap) l) (k i : Nat) (hk : k < l.length) (hi : i < n) (x : Value) :
    NOwns (w.setCell ⟨g, k * n + i, none⟩ x) e n (.slice (some ⟨g, 0, none⟩) l.length cap) (l.set k (l[k].set i x)) := by
  refine ⟨h.1.set k (by rw [List.length_set]; exact h.1.at k hk), ?_⟩
  rw [List.length_set, ← flat_set h.1 k i hk hi x]
  exact (World.ownsRow.stored h.2 (k * n + i) x).1
theorem NOwns.setRow {g cap : Nat} {e : TypeId} {n : Nat} (k : Nat) (t : Row) : ∀ (w : World) (l : List Row) (hk : k < l.length) (pre : Row), NOwns w e n (.slice (some ⟨g, 0, none⟩) l.length cap) l → pre.length + t.length = n → l[k].take pre.length = pre →
    NOwns (setRow w g (k * n + pre.length) t) e n (.slice (some ⟨g, 0, none⟩) l.length cap) (l.set k (pre ++ t)) := by
  induction t with
  | nil =>
    intro w l hk pre h hl hp
    have e1 : l[k] = pre := by
      have := h.1.at k hk
      rw [← hp, List.take_of_length_le (by simp at hl; omega)]
    rw [List.append_nil, ← e1, List.set_getElem_self]
    exact h
  | cons x r ih =>
    intro w l hk pre h hl hp
    have hlen := h.1.at k hk
    simp only [List.length_cons] at hl
    have h1 := h.set k pre.length hk (by omega) x
    have hk2 : k < (l.set k (l[k].set pre.length x)).length := by simpa using hk
    have h2 : NOwns (w.setCell ⟨g, k * n + pre.length, none⟩ x) e n (.slice (some ⟨g, 0, none⟩) (l.set k (l[k].set pre.length x)).length cap) (l.set k (l[k].set pre.length x)) := by rw [List.length_set]; exact h1
    have hp2 : (l.set k (l[k].set pre.length x))[k].take (pre ++ [x]).length = pre ++ [x] := by
      rw [List.getElem_set_self, List.length_append, List.length_singleton, List.take_add_one, List.take_set_of_le (Nat.le_refl _), hp, List.getElem?_set_self (by omega)]
      rfl
    have h3 := ih _ _ hk2 (pre ++ [x]) h2 (by simp; omega) hp2
    rw [List.length_append, List.length_singleton, List.length_set, List.set_set, List.append_assoc] at h3
    exact h3
theorem NOwns.of_at {w : World} {e : TypeId} {n g : Nat} {cs : Array Value} {ts : List Row} (h : AtC w g e cs) (hc : cs.toList = ts.flatten) (he : Even n ts) (hm : ts.length ≤ maxLen) : NOwns w e n (.slice (some ⟨g, 0, none⟩) ts.length ts.length) ts := by
  have hs : cs.size = ts.length * n := by rw [← Array.length_toList, hc, flat_length he]
  refine ⟨he, by rw [flat_length he], .inr ⟨g, ts.length, cs, rfl, Nat.zero_le _, h, Nat.le_refl _, hm, hs, ?_⟩⟩
  rw [hc, List.take_of_length_le (by rw [flat_length he]; exact Nat.le_refl _)]
theorem step_append_n {P : Program} (W : World) {ops : Array Oper} {o : Oper} {a : Act} {K : Act → World → Prop} {Q : Exit → Act → World → Prop} {E : Prop} (hgd : o.guard = none) (s x : Operand) (t : TypeId)
    (ho : o.op = .call { callee := .builtin .append, args := #[s, x], argTypes := #[t, t] }) (e : TypeId) (ht : P.underlying t = some (.slice e)) (z : Value) (n bytes : Nat)
    (hi : (P.info? e).map (fun i => (i.zero, i.size, i.bytes)) = some (some z, n, bytes)) (hzc : z.cells.size = n) (hn : 0 < n) (hby : bytes ≤ 640) (v : Value) (ts : List Row) (hs : a.eval s = v) (hown : NOwns W e n v ts)
    (g : Nat) (y : Row) (hy : y.length = n) (hx : a.eval x = .slice (some ⟨g, 0, none⟩) 1 1) (hc : ∀ (j : Nat) (u : Value), y[j]? = some u → W.cell? ⟨g, j, none⟩ = some u) (h1 : ∀ u ∈ y, u.oneCell' = true) (hl : ts.length ≤ 100000000000)
    (h : ∀ v' w', NOwns w' e n v' (ts ++ [y]) → W.grownBy w' v.ownBlock → (∀ k, v'.ownBlock = some k → v.ownBlock = some k ∨ W.heap.size ≤ k) → K (a.put o.dst v') w') :
    if Region.wanted o (yielded ops a.tmps) = true then Oper.wp P o a W K Q else E := by
  obtain ⟨i0, hi, hz0, hz1, hz2⟩ := info_parts hi
  refine step_append_lies _ hgd s x t ho 0 e i0 z n bytes ht hi hz0 hz1 hz2 hzc hn v ts.length ts.flatten hs hown.2 ⟨g, 0, none⟩ 1 1 y hx (by rw [hy, Nat.one_mul]) ?_ h1 (by decide) ?_ ?_ (Nat.zero_le _) W.heap.size rfl ?_
  · intro j u hj
    have := hc j u hj
    by_cases e : j = 0
    · subst e; simpa [Addr.add] using this
    · simpa [Addr.add, e] using this
  · unfold maxLen; omega
  · have : (ts.length + 1) * bytes ≤ 100000000001 * 640 := Nat.mul_le_mul (by omega) hby
    omega
  · intro g' cap w' hown' hgrow hat _
    refine h _ w' ⟨hown.1.append (Even.mk hy (Even.nil _)), ?_⟩ hgrow fun k hk => ?_
    · rw [List.length_append, List.flatten_append, show [y].flatten = y by simp]
      exact hown'
    · simp only [Value.ownBlock, Option.some.injEq] at hk
      subst hk
      rcases hat with hat | hat
      · exact .inl hat
      · exact .inr (by omega)
/-- A kind of structs: how many cells, the type, which cell owns memory, how one owns and reads its value. -/
structure Kn (α : Type) where
  n : Nat
  T : TypeId
  p : Row → Value
  O : World → Row → α → Prop
  R : World → Row → α → Prop
  len : ∀ {w : World} {t : Row} {x : α}, O w t x → t.length = n
  heap : ∀ {w w' : World} {t : Row} {x : α}, O w t x → (∀ k, (p t).ownBlock = some k → w'.heap[k]? = w.heap[k]?) → O w' t x
  lt : ∀ {w : World} {t : Row} {x : α}, O w t x → ∀ k, (p t).ownBlock = some k → k < w.heap.size
  rd : ∀ {w : World} {t : Row} {x : α}, O w t x → R w t x
  bel : ∀ {w w' : World} {t : Row} {x : α} {B : Nat}, R w t x → Below B w w' → w.heap.size ≤ B → R w' t x
/-- A list of such structs, in blocks of S of its own, no two of which are one. -/
structure GN {α : Type} (K : Kn α) (w : World) (S : Nat → Prop) (v : Value) (ts : List Row) (xs : List α) : Prop where
  len : ts.length = xs.length
  row : NOwns w K.T K.n v ts
  inn : ∀ (j : Nat) (h : j < ts.length) (h' : j < xs.length), K.O w ts[j] xs[j]
  sep : ∀ (i j : Nat) (hi : i < ts.length) (hj : j < ts.length), i ≠ j → ∀ k, (K.p ts[i]).ownBlock = some k → (K.p ts[j]).ownBlock ≠ some k
  out : ∀ (j : Nat) (h : j < ts.length) (k : Nat), (K.p ts[j]).ownBlock = some k → v.ownBlock ≠ some k
  so : ∀ k, v.ownBlock = some k → S k
  si : ∀ (j : Nat) (h : j < ts.length) (k : Nat), (K.p ts[j]).ownBlock = some k → S k
namespace GN
variable {α : Type} {K : Kn α} {w w' w1 w2 : World} {S S' : Nat → Prop} {v v' : Value} {ts : List Row} {xs : List α} {t' : Row} {x' : α}
theorem of_heap (h : GN K w S v ts xs) (hh : ∀ k, S k → k < w.heap.size → w'.heap[k]? = w.heap[k]?) : GN K w' S v ts xs :=
  ⟨h.len, h.row.of_heap fun k hk => hh k (h.so k hk) (h.row.lt k hk), fun j hj hj' => K.heap (h.inn j hj hj') fun k hk => hh k (h.si j hj k hk) (K.lt (h.inn j hj hj') k hk), h.sep, h.out, h.so, h.si⟩
theorem below {B : Nat} (h : GN K w S v ts xs) (hb : Below B w w') (hB : w.heap.size ≤ B) : GN K w' S v ts xs := h.of_heap fun k _ hk => hb.block k (by omega)
theorem chg (h : GN K w S v ts xs) (hc : Chg S' w w') (hd : ∀ k, S k → ¬ S' k) : GN K w' S v ts xs := h.of_heap fun k hs hk => hc.block k hk (hd k hs)
theorem alloc (h : GN K w S v ts xs) (o : Obj) : GN K (w.alloc o) S v ts xs := h.below ((Below.refl _ w).alloc (Nat.le_refl _) o) (Nat.le_refl _)
theorem drew (h : GN K w S v ts xs) : GN K w.drew S v ts xs := h.below (Below.refl w.heap.size w).drew (Nat.le_refl _)
theorem mono (h : GN K w S v ts xs) (hs : ∀ k, S k → S' k) : GN K w S' v ts xs := ⟨h.len, h.row, h.inn, h.sep, h.out, fun k e => hs k (h.so k e), fun j hj k e => hs k (h.si j hj k e)⟩
theorem bound (h : GN K w S v ts xs) : GN K w (fun k => S k ∧ k < w.heap.size) v ts xs :=
  ⟨h.len, h.row, h.inn, h.sep, h.out, fun k e => ⟨h.so k e, h.row.lt k e⟩, fun j hj k e => ⟨h.si j hj k e, K.lt (h.inn j hj (by rw [← h.len]; exact hj)) k e⟩⟩
theorem form (h : GN K w S v ts xs) : ∃ a cap, v = .slice a xs.length cap := by
  obtain ⟨a, c, e, _⟩ := h.row.form
  exact ⟨a, c, by rw [e, h.len]⟩
theorem nil (w : World) (S : Nat → Prop) : GN K w S (.slice none 0 0) [] [] :=
  ⟨rfl, NOwns.nil _ _ _, fun j hj => by simp at hj, fun i j hi => by simp at hi, fun j hj => by simp at hj, (fun k e => by cases e), fun j hj => by simp at hj⟩
theorem len_of (h : GN K w S v ts xs) {a : Option Addr} {n cap : Nat} (hv : v = .slice a n cap) : n = ts.length := by
  obtain ⟨a', c, e, _⟩ := h.row.form
  rw [hv] at e
  simp only [Value.slice.injEq] at e
  exact e.2.1
theorem turn (h : GN K w S v ts xs) (j : Nat) (hj : j < ts.length) (t' : Row) (x' : α) (hr : NOwns w' K.T K.n v (ts.set j t')) (hO : K.O w' t' x')
    (hf : ∀ k, k < w.heap.size → v.ownBlock ≠ some k → (K.p ts[j]).ownBlock ≠ some k → w'.heap[k]? = w.heap[k]?)
    (hn : ∀ k, (K.p t').ownBlock = some k → (K.p ts[j]).ownBlock = some k ∨ w.heap.size ≤ k) (hs : ∀ k, S k → S' k) (hs2 : ∀ k, (K.p t').ownBlock = some k → S' k) : GN K w' S' v (ts.set j t') (xs.set j x') := by
  have hl := h.len
  have hv := h.row.lt
  refine ⟨by simp [hl], hr, fun i hi hi' => ?_, fun i i2 hi hi2 hne k e1 e2 => ?_, fun i hi k e1 e2 => ?_, fun k e => hs k (h.so k e), fun i hi k e => ?_⟩
  · simp only [List.length_set] at hi hi'
    by_cases e : j = i
    · subst e
      simp only [List.getElem_set_self]
      exact hO
    · simp only [List.getElem_set_ne e]
      exact K.heap (h.inn i hi hi') fun k hk => hf k (K.lt (h.inn i hi hi') k hk) (fun e' => h.out i hi k hk e') (fun e' => h.sep i j hi hj (fun q => e q.symm) k hk e')
  · simp only [List.length_set] at hi hi2
    by_cases ei : j = i
    · subst ei
      simp only [List.getElem_set_self] at e1
      rw [List.getElem_set_ne hne] at e2
      rcases hn k e1 with q | q
      · exact h.sep j i2 hi hi2 hne k q e2
      · have := K.lt (h.inn i2 hi2 (by omega)) k e2; omega
    · rw [List.getElem_set_ne ei] at e1
      by_cases e2' : j = i2
      · subst e2'
        simp only [List.getElem_set_self] at e2
        rcases hn k e2 with q | q
        · exact h.sep i j hi hj hne k e1 q
        · have := K.lt (h.inn i hi (by omega)) k e1; omega
      · rw [List.getElem_set_ne e2'] at e2
        exact h.sep i i2 hi hi2 hne k e1 e2
  · simp only [List.length_set] at hi
    by_cases ei : j = i
    · subst ei
      simp only [List.getElem_set_self] at e1
      rcases hn k e1 with q | q
      · exact h.out j hi k q e2
      · have := hv k e2; omega
    · rw [List.getElem_set_ne ei] at e1
      exact h.out i hi k e1 e2
  · simp only [List.length_set] at hi
    by_cases ei : j = i
    · subst ei
      simp only [List.getElem_set_self] at e
      exact hs2 k e
    · rw [List.getElem_set_ne ei] at e
      exact hs k (h.si i hi k e)
/-- A struct of new memory is put in its place. -/
theorem put (h : GN K w S v ts xs) {g n cap : Nat} (hv : v = .slice (some ⟨g, 0, none⟩) n cap) (j : Nat) (hj : j < ts.length) (hb : Below w.heap.size w w1) (hO : K.O w1 t' x')
    (hn : ∀ k, (K.p t').ownBlock = some k → w.heap.size ≤ k) (hs : ∀ k, S k → S' k) (hs2 : ∀ k, w.heap.size ≤ k → S' k) : GN K (setRow w1 g (j * K.n) t') S' v (ts.set j t') (xs.set j x') := by
  have hg : g < w.heap.size := h.row.lt g (by rw [hv]; rfl)
  have r1 : NOwns w1 K.T K.n v ts := h.row.of_heap fun k hk => hb.block k (h.row.lt k hk)
  have hlen := h.len_of hv
  subst hlen
  subst hv
  refine h.turn j hj t' x' ?_ (K.heap hO fun k hk => setRow_other g t' _ _ k (by have := hn k hk; omega)) (fun k hk h1 _ => (setRow_other g t' _ _ k (fun e => h1 (by rw [e]; rfl))).trans (hb.block k hk)) (fun k hk => .inr (hn k hk)) hs (fun k hk => hs2 k (hn k hk))
  have := NOwns.setRow (g := g) (cap := cap) j t' w1 ts hj [] r1 (by rw [List.length_nil, Nat.zero_add]; exact K.len hO) rfl
  exact this
/-- A struct of new memory is appended. -/
theorem append (h : GN K w S v ts xs) (hb : Below w.heap.size w w1) (hO : K.O w1 t' x') (hn : ∀ k, (K.p t').ownBlock = some k → w.heap.size ≤ k)
    (hr : NOwns w2 K.T K.n v' (ts ++ [t'])) (hg : w1.grownBy w2 v.ownBlock) (hv : ∀ k, v'.ownBlock = some k → v.ownBlock = some k ∨ w1.heap.size ≤ k) : GN K w2 (fun k => (S k ∧ k < w.heap.size) ∨ w.heap.size ≤ k) v' (ts ++ [t']) (xs ++ [x']) := by
  have hl := h.len
  have hsz := hb.size
  have hlt : ∀ (i : Nat) (hi : i < ts.length) (k : Nat), (K.p ts[i]).ownBlock = some k → k < w.heap.size := fun i hi k hk => K.lt (h.inn i hi (by omega)) k hk
  have hlt' : ∀ k, (K.p t').ownBlock = some k → k < w1.heap.size := fun k hk => K.lt hO k hk
  have hvl : ∀ k, v.ownBlock = some k → k < w.heap.size := h.row.lt
  have at_l : ∀ (i : Nat) (hi : i < (ts ++ [t']).length), (∃ h' : i < ts.length, (ts ++ [t'])[i] = ts[i]) ∨ (i = ts.length ∧ (ts ++ [t'])[i] = t') := fun i hi => by
    by_cases e : i < ts.length
    · exact .inl ⟨e, List.getElem_append_left e⟩
    · have e2 : i = ts.length := by simp at hi; omega
      refine .inr ⟨e2, ?_⟩
      subst e2
      simp
  refine ⟨by simp [hl], hr, fun i hi hi' => ?_, fun i j hi hj hne k e1 e2 => ?_, fun i hi k e1 e2 => ?_, fun k e => ?_, fun i hi k e => ?_⟩
  · rcases at_l i hi with ⟨h', e⟩ | ⟨rfl, e⟩
    · rw [e, List.getElem_append_left (by omega)]
      exact K.heap (h.inn i h' (by omega)) fun k hk => (hg.block k (by have := hlt i h' k hk; omega) (fun e => h.out i h' k hk e.symm)).trans (hb.block k (hlt i h' k hk))
    · have e2 : (xs ++ [x'])[ts.length] = x' := by simp [hl]
      rw [e, e2]
      exact K.heap hO fun k hk => hg.block k (hlt' k hk) (fun e => by have := hvl k e.symm; have := hn k hk; omega)
  · rcases at_l i hi with ⟨h1, q1⟩ | ⟨q0, q1⟩ <;> rcases at_l j hj with ⟨h2, q2⟩ | ⟨q3, q2⟩ <;> rw [q1] at e1 <;> rw [q2] at e2
    · exact h.sep i j h1 h2 hne k e1 e2
    · have := hlt i h1 k e1; have := hn k e2; omega
    · have := hlt j h2 k e2; have := hn k e1; omega
    · omega
  · rcases at_l i hi with ⟨h1, q1⟩ | ⟨q0, q1⟩ <;> rw [q1] at e1
    · rcases hv k e2 with q | q
      · exact h.out i h1 k e1 q
      · have := hlt i h1 k e1; omega
    · rcases hv k e2 with q | q
      · have := hvl k q; have := hn k e1; omega
      · have := hlt' k e1; omega
  · rcases hv k e with q | q
    · exact .inl ⟨h.so k q, hvl k q⟩
    · exact .inr (by omega)
  · rcases at_l i hi with ⟨h1, q1⟩ | ⟨q0, q1⟩ <;> rw [q1] at e
    · exact .inl ⟨h.si i h1 k e, hlt i h1 k e⟩
    · exact .inr (hn k e)
end GN
/-- A slice value is read as a list of such structs. -/
def RN {α : Type} (K : Kn α) (w : World) (v : Value) (xs : List α) : Prop := ∃ a cap, v = .slice a xs.length cap ∧ xs.length ≤ cap ∧ ∀ (j : Nat) (h : j < xs.length), ∃ g off t, a = some ⟨g, off, none⟩ ∧ g < w.heap.size ∧ (∀ i, i < K.n → w.cell? ⟨g, off + j * K.n + i, none⟩ = t[i]?) ∧ K.R w t xs[j]
theorem RN.below {α : Type} {K : Kn α} {w w' : World} {B : Nat} {v : Value} {xs : List α} (h : RN K w v xs) (hb : Below B w w') (hB : w.heap.size ≤ B) : RN K w' v xs := by
  obtain ⟨a, cap, h1, h2, h3⟩ := h
  refine ⟨a, cap, h1, h2, fun j hj => ?_⟩
  obtain ⟨g, off, t, k1, k2, k3, k4⟩ := h3 j hj
  exact ⟨g, off, t, k1, Nat.lt_of_lt_of_le k2 hb.size, fun i hi => (hb.cell (p := ⟨g, off + j * K.n + i, none⟩) (by show g < B; omega)).trans (k3 i hi), K.bel k4 hb hB⟩
theorem RN.alloc {α : Type} {K : Kn α} {w : World} {v : Value} {xs : List α} (h : RN K w v xs) (o : Obj) : RN K (w.alloc o) v xs := h.below ((Below.refl _ w).alloc (Nat.le_refl _) o) (Nat.le_refl _)
theorem RN.drew {α : Type} {K : Kn α} {w : World} {v : Value} {xs : List α} (h : RN K w v xs) : RN K w.drew v xs := h.below (Below.refl w.heap.size w).drew (Nat.le_refl _)
theorem RN.form {α : Type} {K : Kn α} {w : World} {v : Value} {xs : List α} (h : RN K w v xs) : ∃ a c, v = .slice a xs.length c := by
  obtain ⟨a, c, h, _⟩ := h
  exact ⟨a, c, h⟩
theorem GN.rn {α : Type} {K : Kn α} {w : World} {S : Nat → Prop} {v : Value} {ts : List Row} {xs : List α} (h : GN K w S v ts xs) : RN K w v xs := by
  obtain ⟨a, cap, e, hc, _⟩ := h.row.form
  have hl := h.len
  refine ⟨a, cap, by rw [e, hl], by omega, fun j hj => ?_⟩
  obtain ⟨g, c', e', k1, k2, k3, -⟩ := h.row.at j (by omega)
  rw [e] at e'
  simp only [Value.slice.injEq] at e'
  exact ⟨g, 0, ts[j], e'.1, k3, fun i hi => by rw [Nat.zero_add]; exact k1 i hi, K.rd (h.inn j (by omega) hj)⟩
end Go.Proofs.YtggjillpfclajaaGreat.Kit
/- Lists of inodes and of blocks that are marked, and held against their marks: the mathematics, laws.markInodeS, laws.markBlockS, laws.heldInodeS, laws.heldBlockS by their contracts. -/
namespace Go.Proofs.YtggjillpfclajaaGreat.Kit
open Go.RowKit
/-- The number behind a list whose members take so many marks each. -/
def cnt {α : Type} (sz : α → Nat) : Nat → List α → Nat
  | k, [] => k
  | k, x :: r => cnt sz (k + sz x) r
/-- The list, each member marked from its number on. -/
def mkL {α : Type} (sz : α → Nat) (mk : Nat → α → α) : Nat → List α → List α
  | _, [] => []
  | k, x :: r => mk k x :: mkL sz mk (k + sz x) r
section
variable {α : Type} {sz : α → Nat} {mk : Nat → α → α}
theorem cnt_append (k : Nat) (a b : List α) : cnt sz k (a ++ b) = cnt sz (cnt sz k a) b := by
  induction a generalizing k with
  | nil => rfl
  | cons x r ih => exact ih _
theorem mkL_append (k : Nat) (a b : List α) : mkL sz mk k (a ++ b) = mkL sz mk k a ++ mkL sz mk (cnt sz k a) b := by
  induction a generalizing k with
  | nil => rfl
  | cons x r ih => simp only [List.cons_append, mkL, cnt, ih]
theorem mkL_length (k : Nat) (l : List α) : (mkL sz mk k l).length = l.length := by
  induction l generalizing k with
  | nil => rfl
  | cons x r ih => simp only [mkL, List.length_cons, ih]
theorem cnt_ge (k : Nat) (l : List α) : k ≤ cnt sz k l := by
  induction l generalizing k with
  | nil => exact Nat.le_refl _
  | cons x r ih => have := ih (k + sz x); simp only [cnt]; omega
theorem cnt_len (hs : ∀ x, 1 ≤ sz x) (k : Nat) (l : List α) : k + l.length ≤ cnt sz k l := by
  induction l generalizing k with
  | nil => exact Nat.le_refl _
  | cons x r ih => have := ih (k + sz x); have := hs x; simp only [cnt, List.length_cons]; omega
theorem take_split (l : List α) (j : Nat) (h : j < l.length) : l.take (j + 1) = l.take j ++ [l[j]] := by simp
theorem cnt_succ (k : Nat) (l : List α) (j : Nat) (h : j < l.length) : cnt sz k (l.take (j + 1)) = cnt sz k (l.take j) + sz l[j] := by
  rw [take_split l j h, cnt_append]; rfl
theorem cnt_le (k : Nat) (l : List α) (j : Nat) (h : j < l.length) : cnt sz k (l.take j) + sz l[j] ≤ cnt sz k l := by
  rw [← cnt_succ k l j h]
  conv => rhs; rw [← List.take_append_drop (j + 1) l, cnt_append]
  exact cnt_ge _ _
theorem cnt_all (k : Nat) (l : List α) : cnt sz k (l.take l.length) = cnt sz k l := by rw [List.take_length]
/-- The first j members are marked already. -/
def mkd (sz : α → Nat) (mk : Nat → α → α) (k j : Nat) (l : List α) : List α := mkL sz mk k (l.take j) ++ l.drop j
theorem mkd_length (k j : Nat) (l : List α) : (mkd sz mk k j l).length = l.length := by
  rw [mkd, List.length_append, mkL_length, List.length_take, List.length_drop]; omega
theorem mkd_zero (k : Nat) (l : List α) : mkd sz mk k 0 l = l := by simp [mkd, mkL]
theorem mkd_all (k : Nat) (l : List α) : mkd sz mk k l.length l = mkL sz mk k l := by simp [mkd]
theorem mkd_at (k j : Nat) (l : List α) (h : j < l.length) (h' : j < (mkd sz mk k j l).length) : (mkd sz mk k j l)[j] = l[j] := by
  have e : (mkL sz mk k (l.take j)).length = j := by rw [mkL_length, List.length_take]; omega
  simp only [mkd]
  rw [List.getElem_append_right (by omega)]
  simp [e]
theorem mkd_set (k j : Nat) (l : List α) (h : j < l.length) : (mkd sz mk k j l).set j (mk (cnt sz k (l.take j)) l[j]) = mkd sz mk k (j + 1) l := by
  have e : (mkL sz mk k (l.take j)).length = j := by rw [mkL_length, List.length_take]; omega
  simp only [mkd]
  rw [take_split l j h, mkL_append, List.set_append_right _ _ (by omega), e, List.drop_eq_getElem_cons h]
  simp only [Nat.sub_self, List.set_cons_zero, mkL, List.append_assoc, List.cons_append, List.nil_append]
theorem mkL_at (k j : Nat) (l : List α) (h : j < l.length) (h' : j < (mkL sz mk k l).length) : (mkL sz mk k l)[j] = mk (cnt sz k (l.take j)) l[j] := by
  have e : (mkL sz mk k (l.take j)).length = j := by rw [mkL_length, List.length_take]; omega
  have s : mkL sz mk k l = mkL sz mk k (l.take j) ++ mk (cnt sz k (l.take j)) l[j] :: mkL sz mk (cnt sz k (l.take j) + sz l[j]) (l.drop (j + 1)) := by
    conv => lhs; rw [← List.take_append_drop j l, mkL_append, List.drop_eq_getElem_cons h]
    rfl
  have key : ∀ m : List α, mkL sz mk k l = m → ∀ q : j < m.length, (mkL sz mk k l)[j] = m[j] := by rintro m rfl q; rfl
  rw [key _ s (by rw [← s]; exact h')]
  rw [List.getElem_append_right (by omega)]
  simp [e]
end
theorem TOwns.set01 {w : World} {g cap : Nat} {e : TypeId} {l : List V3} (h : TOwns w e (.slice (some ⟨g, 0, none⟩) l.length cap) l) (k : Nat) (hk : k < l.length) (x y : Value) :
    TOwns ((w.setCell ⟨g, k * 3, none⟩ x).setCell ⟨g, k * 3 + 1, none⟩ y) e (.slice (some ⟨g, 0, none⟩) l.length cap) (l.set k (x, y, l[k].2.2)) := by
  have h1 := h.set0 k hk x
  have h2 : TOwns (w.setCell ⟨g, k * 3, none⟩ x) e (.slice (some ⟨g, 0, none⟩) (l.set k (x, l[k].2.1, l[k].2.2)).length cap) (l.set k (x, l[k].2.1, l[k].2.2)) := by rw [List.length_set]; exact h1
  have h3 := h2.set1 k (by simpa using hk) y
  simp only [List.length_set, List.getElem_set_self, List.set_set] at h3
  exact h3
theorem GO.len_of {α : Type} {K : Kd α} {w : World} {S : Nat → Prop} {v : Value} {ts : List V3} {xs : List α} (h : GO K w S v ts xs) {a : Option Addr} {n cap : Nat} (hv : v = .slice a n cap) : n = ts.length := by
  obtain ⟨a', c, e, _⟩ := h.row.form
  rw [hv] at e
  simp only [Value.slice.injEq] at e
  exact e.2.1
/-- One inode is marked: two cells are stored, and its list is turned. -/
theorem GO.markI {w w1 : World} {S : Nat → Prop} {v : Value} {ts : List V3} {xs : List Ino} (h : GO KI w S v ts xs) {g n cap : Nat} (hv : v = .slice (some ⟨g, 0, none⟩) n cap) (j : Nat) (hj : j < ts.length) (a b : Int) (l' : List Int)
    (hr : ROwns w1 0 3 ts[j].2.2 (ic l')) (hg : ((w.setCell ⟨g, j * 3, none⟩ (.int .i64 a)).setCell ⟨g, j * 3 + 1, none⟩ (.int .i64 b)).grownBy w1 ts[j].2.2.ownBlock) :
    GO KI w1 S v (ts.set j (.int .i64 a, .int .i64 b, ts[j].2.2)) (xs.set j (a, b, l')) ∧ Chg S w w1 := by
  have hlen := h.len_of hv
  subst hlen
  have ho := h.out j hj
  have hgw : g < w.heap.size := h.row.lt g (by rw [hv]; rfl)
  have hoth : ∀ k, k ≠ g → ((w.setCell ⟨g, j * 3, none⟩ (.int .i64 a)).setCell ⟨g, j * 3 + 1, none⟩ (.int .i64 b)).heap[k]? = w.heap[k]? := fun k hk =>
    (heap_setCell_other _ ⟨g, j * 3 + 1, none⟩ k _ (by simpa using hk)).trans (heap_setCell_other _ ⟨g, j * 3, none⟩ k _ (by simpa using hk))
  have hsz : ((w.setCell ⟨g, j * 3, none⟩ (.int .i64 a)).setCell ⟨g, j * 3 + 1, none⟩ (.int .i64 b)).heap.size = w.heap.size := by simp
  have hvg : v.ownBlock = some g := by rw [hv]; rfl
  have hrow := (hv ▸ h.row : TOwns w KI.T (.slice (some ⟨g, 0, none⟩) ts.length cap) ts).set01 j hj (.int .i64 a) (.int .i64 b)
  have hf : ∀ k, k < w.heap.size → v.ownBlock ≠ some k → (KI.p ts[j]).ownBlock ≠ some k → w1.heap[k]? = w.heap[k]? := fun k hk h1 h2 =>
    (hg.block k (by rw [hsz]; exact hk) (fun e => h2 (by rw [show (KI.p ts[j]) = ts[j].2.2 from rfl, ← e]))).trans (hoth k (fun e => h1 (by rw [e, hvg])))
  refine ⟨h.turn j hj _ _ ?_ ⟨rfl, rfl, hr⟩ hf (fun k hk => .inl hk) (fun _ h => h) (fun k hk => h.si j hj k hk), ⟨by rw [hg.os]; rfl, by rw [hg.tape]; rfl, by rw [hg.output]; rfl, by have := hg.size; rw [hsz] at this; exact this, fun k hk hn => hf k hk (fun e => hn (h.so k e)) (fun e => hn (h.si j hj k e))⟩⟩
  rw [hv]
  exact hrow.of_heap fun k hk => by
    have e : k = g := by simpa [Value.ownBlock] using hk.symm
    subst e
    exact hg.block k (by rw [hsz]; exact hgw) (fun e => ho k (by rw [show (KI.p ts[j]) = ts[j].2.2 from rfl, ← e]) hvg)
/-- One block is marked: a cell is stored, its slots are turned, a text is made and stored. -/
theorem GO.markB {w w1 w2 : World} {S : Nat → Prop} {v : Value} {ts : List V3} {xs : List Blk} (h : GO KB w S v ts xs) {g n cap : Nat} (hv : v = .slice (some ⟨g, 0, none⟩) n cap) (j : Nat) (hj : j < ts.length) (a : Bool) (t : ByteArray) (l' : List Sl)
    (hr : SOwns w1 0 132 ts[j].2.1 l') (hg : (w.setCell ⟨g, j * 3, none⟩ (.bool a)).grownBy w1 ts[j].2.1.ownBlock) (hb : Below w1.heap.size w1 w2) :
    GO KB (w2.setCell ⟨g, j * 3 + 2, none⟩ (.string t)) S v (ts.set j (.bool a, ts[j].2.1, .string t)) (xs.set j (a, l', t)) ∧ Chg S w (w2.setCell ⟨g, j * 3 + 2, none⟩ (.string t)) := by
  have hlen := h.len_of hv
  subst hlen
  have ho := h.out j hj
  have hgw : g < w.heap.size := h.row.lt g (by rw [hv]; rfl)
  have hsz : (w.setCell ⟨g, j * 3, none⟩ (.bool a)).heap.size = w.heap.size := by simp
  have hsz1 : w.heap.size ≤ w1.heap.size := by have := hg.size; rw [hsz] at this; exact this
  have hvg : v.ownBlock = some g := by rw [hv]; rfl
  have hin : ∀ k, ts[j].2.1.ownBlock = some k → k ≠ g := fun k hk e => ho k hk (by rw [e, hvg])
  have hrow := (hv ▸ h.row : TOwns w KB.T (.slice (some ⟨g, 0, none⟩) ts.length cap) ts).set0 j hj (.bool a)
  have hrow2 : TOwns w2 KB.T (.slice (some ⟨g, 0, none⟩) ts.length cap) (ts.set j (.bool a, ts[j].2.1, ts[j].2.2)) := hrow.of_heap fun k hk => by
    have e : k = g := by simpa [Value.ownBlock] using hk.symm
    subst e
    exact (hb.block k (by omega)).trans (hg.block k (by rw [hsz]; exact hgw) (fun e => hin k e.symm rfl))
  have hrow3 : TOwns w2 KB.T (.slice (some ⟨g, 0, none⟩) (ts.set j (.bool a, ts[j].2.1, ts[j].2.2)).length cap) (ts.set j (.bool a, ts[j].2.1, ts[j].2.2)) := by rw [List.length_set]; exact hrow2
  have hrow4 := hrow3.set2 j (by simpa using hj) (.string t)
  simp only [List.length_set, List.getElem_set_self, List.set_set] at hrow4
  have hf : ∀ k, k < w.heap.size → v.ownBlock ≠ some k → (KB.p ts[j]).ownBlock ≠ some k → (w2.setCell ⟨g, j * 3 + 2, none⟩ (.string t)).heap[k]? = w.heap[k]? := fun k hk h1 h2 =>
    have hne : k ≠ g := fun e => h1 (by rw [e, hvg])
    ((heap_setCell_other w2 ⟨g, j * 3 + 2, none⟩ k _ (by simpa using hne)).trans (hb.block k (by omega))).trans ((hg.block k (by rw [hsz]; exact hk) (fun e => h2 (by rw [show (KB.p ts[j]) = ts[j].2.1 from rfl, ← e]))).trans (heap_setCell_other w ⟨g, j * 3, none⟩ k _ (by simpa using hne)))
  have hr2 : SOwns (w2.setCell ⟨g, j * 3 + 2, none⟩ (.string t)) 0 132 ts[j].2.1 l' := (hr.below hb (Nat.le_refl _)).setCell_other (fun e => hin g e rfl) _
  refine ⟨h.turn j hj _ _ ?_ ⟨rfl, hr2, rfl⟩ hf (fun k hk => .inl hk) (fun _ h => h) (fun k hk => h.si j hj k hk), ⟨by show w2.os = w.os; rw [hb.os, hg.os]; rfl, by show w2.tape = w.tape; rw [hb.tape, hg.tape]; rfl, by show w2.output = w.output; rw [hb.output, hg.output]; rfl, by have := hb.size; simp; omega, fun k hk hn => hf k hk (fun e => hn (h.so k e)) (fun e => hn (h.si j hj k e))⟩⟩
  rw [hv]
  exact hrow4
end Go.Proofs.YtggjillpfclajaaGreat.Kit
/- What leans: its eleven cells, how lists of it lie and are read; a memory's parts. No Go function is spoken of. -/
namespace Go.Proofs.YtggjillpfclajaaGreat.Kit
open Go.RowKit
/-- One that leans. -/
structure Dp where
  id : Int
  kd : Int
  io : Int
  pt : Int
  bk : Int
  sl : Int
  nm : ByteArray
  bt : Bool
  ot : Bool
  af : Int
  bl : List Int
/-- Its cells, with the list's value. -/
def Dp.row (d : Dp) (p : Value) : Row := [.int .i64 d.id, .int .i64 d.kd, .int .i64 d.io, .int .i64 d.pt, .int .i64 d.bk, .int .i64 d.sl, .string d.nm, .bool d.bt, .bool d.ot, .int .i64 d.af, p]
/-- How such structs lie. -/
def KDep : Kn Dp where
  n := 11
  T := 52
  p := fun t => t.getD 10 (.slice none 0 0)
  O := fun w t x => ∃ p, t = x.row p ∧ ROwns w 0 3 p (ic x.bl)
  R := fun w t x => ∃ p, t = x.row p ∧ RInts w p x.bl
  len := fun h => by obtain ⟨p, rfl, -⟩ := h; rfl
  heap := fun h hh => by obtain ⟨p, rfl, h⟩ := h; exact ⟨p, rfl, h.of_heap hh⟩
  lt := fun h k hk => by obtain ⟨p, rfl, h⟩ := h; exact (h.lt k hk).2
  rd := fun h => by obtain ⟨p, rfl, h⟩ := h; exact ⟨p, rfl, h.rints⟩
  bel := fun h hb hB => by obtain ⟨p, rfl, h⟩ := h; exact ⟨p, rfl, h.below hb hB⟩
/-- The cells of one that leans, from o on. -/
def DCells (w : World) (g o : Nat) (d : Dp) (p : Value) : Prop := w.cell? ⟨g, o, none⟩ = some (.int .i64 d.id) ∧ w.cell? ⟨g, o + 1, none⟩ = some (.int .i64 d.kd) ∧ w.cell? ⟨g, o + 2, none⟩ = some (.int .i64 d.io) ∧ w.cell? ⟨g, o + 3, none⟩ = some (.int .i64 d.pt) ∧ w.cell? ⟨g, o + 4, none⟩ = some (.int .i64 d.bk) ∧ w.cell? ⟨g, o + 5, none⟩ = some (.int .i64 d.sl) ∧ w.cell? ⟨g, o + 6, none⟩ = some (.string d.nm) ∧ w.cell? ⟨g, o + 7, none⟩ = some (.bool d.bt) ∧ w.cell? ⟨g, o + 8, none⟩ = some (.bool d.ot) ∧ w.cell? ⟨g, o + 9, none⟩ = some (.int .i64 d.af) ∧ w.cell? ⟨g, o + 10, none⟩ = some (p)
theorem DCells.of {w : World} {g o : Nat} {d : Dp} {p : Value} (h : ∀ i, i < 11 → w.cell? ⟨g, o + i, none⟩ = (d.row p)[i]?) : DCells w g o d p :=
  ⟨h 0 (by decide), h 1 (by decide), h 2 (by decide), h 3 (by decide), h 4 (by decide), h 5 (by decide), h 6 (by decide), h 7 (by decide), h 8 (by decide), h 9 (by decide), h 10 (by decide)⟩
theorem DCells.below {w w' : World} {g o : Nat} {d : Dp} {p : Value} {B : Nat} (h : DCells w g o d p) (hb : Below B w w') (hg : g < B) : DCells w' g o d p := by
  obtain ⟨h0, h1, h2, h3, h4, h5, h6, h7, h8, h9, h10⟩ := h
  exact ⟨(hb.cell (p := ⟨g, o, none⟩) hg).trans h0, (hb.cell (p := ⟨g, o + 1, none⟩) hg).trans h1, (hb.cell (p := ⟨g, o + 2, none⟩) hg).trans h2, (hb.cell (p := ⟨g, o + 3, none⟩) hg).trans h3, (hb.cell (p := ⟨g, o + 4, none⟩) hg).trans h4, (hb.cell (p := ⟨g, o + 5, none⟩) hg).trans h5, (hb.cell (p := ⟨g, o + 6, none⟩) hg).trans h6, (hb.cell (p := ⟨g, o + 7, none⟩) hg).trans h7, (hb.cell (p := ⟨g, o + 8, none⟩) hg).trans h8, (hb.cell (p := ⟨g, o + 9, none⟩) hg).trans h9, (hb.cell (p := ⟨g, o + 10, none⟩) hg).trans h10⟩
theorem RN.dep {w : World} {v : Value} {xs : List Dp} (h : RN KDep w v xs) : ∃ a cap, v = .slice a xs.length cap ∧ xs.length ≤ cap ∧ ∀ (j : Nat) (h : j < xs.length), ∃ g off p, a = some ⟨g, off, none⟩ ∧ g < w.heap.size ∧ DCells w g (off + j * 11) xs[j] p ∧ RInts w p xs[j].bl := by
  obtain ⟨a, cap, e, hc, h⟩ := h
  refine ⟨a, cap, e, hc, fun j hj => ?_⟩
  obtain ⟨g, off, t, e1, hg, hc, p, rfl, hr⟩ := h j hj
  exact ⟨g, off, p, e1, hg, DCells.of fun i hi => hc i hi, hr⟩
theorem DO.bound {w : World} {S : Nat → Prop} {u v iv bv : Value} {xs ys : List Bool} {is : List Ino} {bs : List Blk} (h : DO w S u v iv bv xs ys is bs) : DO w (fun k => S k ∧ k < w.heap.size) u v iv bv xs ys is bs := by
  obtain ⟨T1, T2, T3, ti, tb, k1, k2, k3, k4, k5, k6, k7⟩ := h
  refine ⟨fun k => T1 k ∧ k < w.heap.size, fun k => T2 k ∧ k < w.heap.size, fun k => T3 k ∧ k < w.heap.size, ti, tb, k1, fun k hk => ⟨k2 k hk, hk.elim (fun e => (k1.a.lt k e).2) (fun e => (k1.b.lt k e).2)⟩, k3.bound, k4.bound, fun k hk => ⟨fun e => (k5 k hk.1).1 e.1, fun e => (k5 k hk.1).2 e.1⟩, fun k hk e => k6 k hk.1 e.1, fun k hk => ?_⟩
  rcases hk with hk | hk | hk
  · exact ⟨k7 k (.inl hk.1), hk.2⟩
  · exact ⟨k7 k (.inr (.inl hk.1)), hk.2⟩
  · exact ⟨k7 k (.inr (.inr hk.1)), hk.2⟩
/-- What a memory tells. -/
structure MD where
  xs : List Bool
  ys : List Bool
  is : List Ino
  bs : List Blk
  fs : List Bool
  ds : List Dp
  nx : Int
/-- The parts of a memory are read so. -/
structure MR (w : World) (u v iv bv dv pv : Value) (m : MD) : Prop where
  d : DR w u v iv bv m.xs m.ys m.is m.bs
  f : RFl w dv m.fs
  p : RN KDep w pv m.ds
namespace MR
variable {w w' : World} {u v iv bv dv pv : Value} {m : MD}
theorem below {B : Nat} (h : MR w u v iv bv dv pv m) (hb : Below B w w') (hB : w.heap.size ≤ B) : MR w' u v iv bv dv pv m := ⟨h.d.below hb hB, h.f.below hb hB, h.p.below hb hB⟩
theorem alloc (h : MR w u v iv bv dv pv m) (o : Obj) : MR (w.alloc o) u v iv bv dv pv m := h.below ((Below.refl _ w).alloc (Nat.le_refl _) o) (Nat.le_refl _)
theorem drew (h : MR w u v iv bv dv pv m) : MR w.drew u v iv bv dv pv m := h.below (Below.refl w.heap.size w).drew (Nat.le_refl _)
theorem form (h : MR w u v iv bv dv pv m) : ∃ a1 c1 a2 c2 a3 c3 a4 c4 a5 c5 a6 c6, u = .slice a1 m.xs.length c1 ∧ v = .slice a2 m.ys.length c2 ∧ iv = .slice a3 m.is.length c3 ∧ bv = .slice a4 m.bs.length c4 ∧ dv = .slice a5 m.fs.length c5 ∧ pv = .slice a6 m.ds.length c6 := by
  obtain ⟨a1, c1, a2, c2, a3, c3, a4, c4, e1, e2, e3, e4⟩ := h.d.form
  obtain ⟨a5, c5, e5⟩ := h.f.form
  obtain ⟨a6, c6, e6⟩ := h.p.form
  exact ⟨a1, c1, a2, c2, a3, c3, a4, c4, a5, c5, a6, c6, e1, e2, e3, e4, e5, e6⟩
end MR
/-- The parts of a memory are owned, each in blocks of its own, all of them of S. -/
def MO (w : World) (S : Nat → Prop) (u v iv bv dv pv : Value) (m : MD) : Prop :=
  ∃ (S1 S2 S3 : Nat → Prop) (ts : List Row), DO w S1 u v iv bv m.xs m.ys m.is m.bs ∧ ROwns w 0 4 dv (fc m.fs) ∧ (∀ k, dv.ownBlock = some k → S2 k) ∧ GN KDep w S3 pv ts m.ds ∧ (∀ k, S1 k → ¬ S2 k ∧ ¬ S3 k) ∧ (∀ k, S2 k → ¬ S3 k) ∧ ∀ k, S1 k ∨ S2 k ∨ S3 k → S k
namespace MO
variable {w w' : World} {S S' : Nat → Prop} {u v iv bv dv pv : Value} {m : MD}
theorem of_heap (h : MO w S u v iv bv dv pv m) (hh : ∀ k, S k → k < w.heap.size → w'.heap[k]? = w.heap[k]?) : MO w' S u v iv bv dv pv m := by
  obtain ⟨S1, S2, S3, ts, h1, h2, h3, h4, h5, h6, h7⟩ := h
  exact ⟨S1, S2, S3, ts, h1.of_heap fun k hs hk => hh k (h7 k (.inl hs)) hk, h2.of_heap fun k hk => hh k (h7 k (.inr (.inl (h3 k hk)))) (h2.lt k hk).2, h3, h4.of_heap fun k hs hk => hh k (h7 k (.inr (.inr hs))) hk, h5, h6, h7⟩
theorem below {B : Nat} (h : MO w S u v iv bv dv pv m) (hb : Below B w w') (hB : w.heap.size ≤ B) : MO w' S u v iv bv dv pv m := h.of_heap fun k _ hk => hb.block k (by omega)
theorem alloc (h : MO w S u v iv bv dv pv m) (o : Obj) : MO (w.alloc o) S u v iv bv dv pv m := h.below ((Below.refl _ w).alloc (Nat.le_refl _) o) (Nat.le_refl _)
theorem chg (h : MO w S u v iv bv dv pv m) (hc : Chg S' w w') (hd : ∀ k, S k → ¬ S' k) : MO w' S u v iv bv dv pv m := h.of_heap fun k hs hk => hc.block k hk (hd k hs)
theorem mono (h : MO w S u v iv bv dv pv m) (hs : ∀ k, S k → S' k) : MO w S' u v iv bv dv pv m := by
  obtain ⟨S1, S2, S3, ts, h1, h2, h3, h4, h5, h6, h7⟩ := h
  exact ⟨S1, S2, S3, ts, h1, h2, h3, h4, h5, h6, fun k hk => hs k (h7 k hk)⟩
theorem mr (h : MO w S u v iv bv dv pv m) : MR w u v iv bv dv pv m := by
  obtain ⟨S1, S2, S3, ts, h1, h2, h3, h4, -⟩ := h
  exact ⟨h1.dr, h2.rfl, h4.rn⟩
theorem bound (h : MO w S u v iv bv dv pv m) : MO w (fun k => S k ∧ k < w.heap.size) u v iv bv dv pv m := by
  obtain ⟨S1, S2, S3, ts, h1, h2, h3, h4, h5, h6, h7⟩ := h
  obtain ⟨T1, T2, T3, ti, tb, k1, k2, k3, k4, k5, k6, k7⟩ := h1
  refine ⟨fun k => S1 k ∧ k < w.heap.size, fun k => S2 k ∧ k < w.heap.size, fun k => S3 k ∧ k < w.heap.size, ts, ⟨fun k => T1 k ∧ k < w.heap.size, fun k => T2 k ∧ k < w.heap.size, fun k => T3 k ∧ k < w.heap.size, ti, tb, k1, fun k hk => ⟨k2 k hk, hk.elim (fun e => (k1.a.lt k e).2) (fun e => (k1.b.lt k e).2)⟩, k3.bound, k4.bound, fun k hk => ⟨fun e => (k5 k hk.1).1 e.1, fun e => (k5 k hk.1).2 e.1⟩, fun k hk e => k6 k hk.1 e.1, fun k hk => ?_⟩, h2, fun k hk => ⟨h3 k hk, (h2.lt k hk).2⟩, h4.bound, fun k hk => ⟨fun e => (h5 k hk.1).1 e.1, fun e => (h5 k hk.1).2 e.1⟩, fun k hk e => h6 k hk.1 e.1, fun k hk => ?_⟩
  · rcases hk with hk | hk | hk
    · exact ⟨k7 k (.inl hk.1), hk.2⟩
    · exact ⟨k7 k (.inr (.inl hk.1)), hk.2⟩
    · exact ⟨k7 k (.inr (.inr hk.1)), hk.2⟩
  · rcases hk with hk | hk | hk
    · exact ⟨h7 k (.inl hk.1), hk.2⟩
    · exact ⟨h7 k (.inr (.inl hk.1)), hk.2⟩
    · exact ⟨h7 k (.inr (.inr hk.1)), hk.2⟩
end MO
/-- Of no list is more than n told. -/
structure BigM (n : Nat) (m : MD) : Prop where
  d : Big n m.xs m.ys m.is m.bs
  f : m.fs.length ≤ n
  l : m.ds.length ≤ n
  b : ∀ (j : Nat) (h : j < m.ds.length), m.ds[j].bl.length ≤ n
  t : ∀ (j : Nat) (h : j < m.ds.length), m.ds[j].nm.size ≤ n
/-- Marks. -/
def szDp (x : Dp) : Nat := 10 + x.bl.length
def mkDp (k : Nat) (x : Dp) : Dp := ⟨(k : Int), ((k + 1 : Nat) : Int), ((k + 2 : Nat) : Int), ((k + 3 : Nat) : Int), ((k + 4 : Nat) : Int), ((k + 5 : Nat) : Int), mkT (k + 6), mk3 (k + 7), mk3 (k + 8), ((k + 9 : Nat) : Int), marksI (k + 10) x.bl.length⟩
end Go.Proofs.YtggjillpfclajaaGreat.Kit
/- A memory that comes in as an argument, opened: its lists and texts. -/
namespace Go.Proofs.YtggjillpfclajaaGreat.open_
open Go.ChangeShapes Go.WideShapes Go.ChangeAt Go.RowKit Kit Go.Joins
set_option linter.unusedVariables false
variable {H : Type} {enc : TypeId × Value → H} {W : World}
set_option maxRecDepth 100000 in
/-- One that leans, opened. -/
theorem dep_cells {n : Nat} {cs : List Value} {y : DataW H × List MemPlace} (hl : cs.length = 11) (h : DataW.trod enc Tryz.prog W 0 (fun _ => true) true n 49 cs = some y) :
    ∃ (d : Dp) (p : Value), cs = d.row p ∧ RInts W p d.bl ∧ d.bl.length ≤ maxLen ∧ d.nm.size ≤ maxLen ∧ (Lit.int .i64 d.id).wf = true := by
  obtain ⟨xs, k, hk, hxy, _, hxl, hf⟩ := DataW.trod_struct Tryz.underlying49 h
  match xs, hxl, cs, hl with
  | [y0, y1, y2, y3, y4, y5, y6, y7, y8, y9, y10], _, [v0, v1, v2, v3, v4, v5, v6, v7, v8, v9, v10], _ =>
    have k3 : Tryz.prog.cellsOf 3 = 1 := by kernel_rfl
    have k4 : Tryz.prog.cellsOf 4 = 1 := by kernel_rfl
    have k9 : Tryz.prog.cellsOf 9 = 1 := by kernel_rfl
    have k70 : Tryz.prog.cellsOf 47 = 1 := by kernel_rfl
    have g0 := hf 0 _ rfl
    have g1 := hf 1 _ rfl
    have g2 := hf 2 _ rfl
    have g3 := hf 3 _ rfl
    have g4 := hf 4 _ rfl
    have g5 := hf 5 _ rfl
    have g6 := hf 6 _ rfl
    have g7 := hf 7 _ rfl
    have g8 := hf 8 _ rfl
    have g9 := hf 9 _ rfl
    have g10 := hf 10 _ rfl
    simp [k3, k4, k9, k70] at g0 g1 g2 g3 g4 g5 g6 g7 g8 g9 g10
    obtain ⟨x0, e0, -, f0⟩ := DataW.trod_int Tryz.underlying3 g0
    obtain ⟨x1, e1, -⟩ := DataW.trod_int Tryz.underlying3 g1
    obtain ⟨x2, e2, -⟩ := DataW.trod_int Tryz.underlying3 g2
    obtain ⟨x3, e3, -⟩ := DataW.trod_int Tryz.underlying3 g3
    obtain ⟨x4, e4, -⟩ := DataW.trod_int Tryz.underlying3 g4
    obtain ⟨x5, e5, -⟩ := DataW.trod_int Tryz.underlying3 g5
    obtain ⟨x6, e6, -, l6⟩ := DataW.trod_string Tryz.underlying9 g6
    obtain ⟨x7, e7, -⟩ := DataW.trod_bool Tryz.underlying4 g7
    obtain ⟨x8, e8, -⟩ := DataW.trod_bool Tryz.underlying4 g8
    obtain ⟨x9, e9, -⟩ := DataW.trod_int Tryz.underlying3 g9
    obtain ⟨bl, hbl, lbl⟩ := ints_open g10
    simp at e0 e1 e2 e3 e4 e5 e6 e7 e8 e9
    exact ⟨⟨x0, x1, x2, x3, x4, x5, x6, x7, x8, x9, bl⟩, v10, by rw [e0, e1, e2, e3, e4, e5, e6, e7, e8, e9]; rfl, hbl, lbl, l6, f0⟩
theorem deps_open {n : Nat} {c : Value} {y : DataW H × List MemPlace} (h : DataW.trod enc Tryz.prog W 0 (fun _ => true) true n 29 [c] = some y) :
    ∃ xs : List Dp, RN KDep W c xs ∧ xs.length ≤ maxLen ∧ ∀ (j : Nat) (h : j < xs.length), xs[j].bl.length ≤ maxLen ∧ xs[j].nm.size ≤ maxLen ∧ (Lit.int .i64 xs[j].id).wf = true := by
  have ce : Tryz.prog.cellsOf 49 = 11 := by kernel_rfl
  haveI : Inhabited Dp := ⟨⟨0, 0, 0, 0, 0, 0, ⟨#[]⟩, false, false, 0, []⟩⟩
  rcases Go.Deep.open_slice Tryz.underlying29 h with ⟨hcs, _⟩ | ⟨a, len, cap, m, n, D, Pl, hcs, hb, hl, hm, hmm, _, hx⟩
  · simp at hcs
    subst hcs
    exact ⟨[], ⟨none, 0, rfl, Nat.le_refl _, fun j hj => by simp at hj⟩, by simp, fun j hj => by simp at hj⟩
  · simp at hcs
    subst hcs
    have hlm : len ≤ m := by simp at hmm; omega
    have key : ∀ i, i < len → ∃ q : Row × Dp, (∀ k, k < 11 → W.cell? (a.add (i * 11 + k)) = q.1[k]?) ∧ KDep.R W q.1 q.2 ∧ q.2.bl.length ≤ maxLen ∧ q.2.nm.size ≤ maxLen ∧ (Lit.int .i64 q.2.id).wf = true := by
      intro i hi
      obtain ⟨cs', h1, h2⟩ := hx i (by omega)
      rw [ce] at h1
      obtain ⟨_, hlen, hcell⟩ := World.cells?_some h1
      obtain ⟨d, p, e, hr, l1, l2, l3⟩ := dep_cells hlen h2
      refine ⟨(cs', d), fun k hk => ?_, ⟨p, e, hr⟩, l1, l2, l3⟩
      have e0 := hcell k (by omega)
      rw [Go.Deep.add_add] at e0
      rw [e0]
    obtain ⟨q, hq⟩ := Go.Deep.choose_lt key
    obtain ⟨b, off, spot⟩ := a
    have ha : spot = none → ∀ k, (⟨b, off, spot⟩ : Addr).add k = ⟨b, off + k, none⟩ := fun e k => by subst e; cases k <;> simp [Addr.add]
    refine ⟨(List.range len).map fun i => (q i).2, ⟨some ⟨b, off, spot⟩, cap, by simp, by simpa using hl, fun j hj => ?_⟩, by simp; omega, fun j hj => ?_⟩
    · have hj' : j < len := by simpa using hj
      obtain ⟨hc, hR, -, -⟩ := hq j hj'
      have h0 := hc 0 (by decide)
      obtain ⟨p, ep, hr⟩ := hR
      have hspot : spot = none := by
        obtain ⟨hc0, ⟨p0, ep0, -⟩, -, -⟩ := hq 0 (by omega)
        have h1 := hc0 0 (by decide)
        rw [ep0] at h1
        have h2 : W.cell? ((⟨b, off, spot⟩ : Addr).add (0 * 11 + 0)) = some (.int .i64 (q 0).2.id) := h1
        have := World.cell?_spot h2
        simpa [Addr.add] using this
      have h00 : W.cell? ⟨b, off + (j * 11 + 0), none⟩ = some (.int .i64 (q j).2.id) := by rw [← ha hspot, h0, ep]; rfl
      refine ⟨b, off, (q j).1, by rw [hspot], block_lt_of_cell h00, fun i hi => ?_, ?_⟩
      · rw [Nat.add_assoc, ← ha hspot]
        exact hc i hi
      · simp only [List.getElem_map, List.getElem_range]
        exact ⟨p, ep, hr⟩
    · have hj' : j < len := by simpa using hj
      simpa using (hq j hj').2.2
set_option maxRecDepth 100000 in
/-- A memory, opened. -/
theorem mem_open {r : Reach} {b0 : Nat} {v : Value} {d : DataW H} {p : List MemPlace} (hv : Value.okWide Tryz.prog W r b0 31 v) (h : DataW.Trod enc Tryz.prog W 0 (fun _ => true) true 31 v d p) :
    ∃ (u v' iv bv dv pv : Value) (m : MD), v = .agg #[u, v', iv, bv, dv, pv, .int .i64 m.nx] ∧ MR W u v' iv bv dv pv m ∧ BigM maxLen m ∧ (∀ (j : Nat) (h : j < m.ds.length), (Lit.int .i64 m.ds[j].id).wf = true) ∧ (Lit.int .i64 m.nx).wf = true := by
  obtain ⟨cs, rfl, hsz⟩ := okWide_struct Tryz.underlying31 hv
  have hC : Tryz.prog.cellsOf 31 = 7 := by kernel_rfl
  rw [hC] at hsz
  obtain ⟨l, hl⟩ : ∃ l, cs = List.toArray l := ⟨cs.toList, rfl⟩
  subst hl
  match l, hsz with
  | [c0, c1, c2, c3, c4, c5, c6], _ =>
    obtain ⟨fuel, hf⟩ := h
    obtain ⟨xs, k, hk, hxy, _, hxl, hg⟩ := DataW.trod_struct Tryz.underlying31 hf
    match xs, hxl with
    | [y0, y1, y2, y3], _ =>
      have k28 : Tryz.prog.cellsOf 28 = 4 := by kernel_rfl
      have k22 : Tryz.prog.cellsOf 22 = 1 := by kernel_rfl
      have k45 : Tryz.prog.cellsOf 29 = 1 := by kernel_rfl
      have k3 : Tryz.prog.cellsOf 3 = 1 := by kernel_rfl
      have g0 := hg 0 _ rfl
      have g1 := hg 1 _ rfl
      have g2 := hg 2 _ rfl
      have g3 := hg 3 _ rfl
      simp [Value.cells, k28, k22, k45, k3] at g0 g1 g2 g3
      obtain ⟨z0, z1, z2, n, hx, _, h0, h1, h2⟩ := Go.Deep.trod_struct3 Tryz.underlying28 g0
      have q0 : Tryz.prog.cellsOf 24 = 2 := by kernel_rfl
      have q1 : Tryz.prog.cellsOf 25 = 1 := by kernel_rfl
      have q2 : Tryz.prog.cellsOf 26 = 1 := by kernel_rfl
      simp [q0, q1, q2] at h0 h1 h2
      obtain ⟨t0, t1, mm, hz, _, s0, s1⟩ := trod_struct2 Tryz.underlying24 h0
      simp [k22] at s0 s1
      obtain ⟨xl, hx1, hx2⟩ := flags_open s0
      obtain ⟨yl, hy1, hy2⟩ := flags_open s1
      obtain ⟨il, hi1, hi2, hi3⟩ := inos_open h1
      obtain ⟨bl, hb1, hb2, hb3⟩ := blks_open h2
      obtain ⟨fl, hf1, hf2⟩ := flags_open g1
      obtain ⟨dl, hd1, hd2, hd3⟩ := deps_open g2
      obtain ⟨nx, e3, -, fx⟩ := DataW.trod_int Tryz.underlying3 g3
      simp at e3
      exact ⟨c0, c1, c2, c3, c4, c5, ⟨xl, yl, il, bl, fl, dl, nx⟩, by rw [e3], ⟨⟨hx1, hy1, hi1, hb1⟩, hf1, hd1⟩, ⟨⟨hx2, hy2, hi2, hi3, hb2, hb3⟩, hf2, hd2, fun j hj => (hd3 j hj).1, fun j hj => (hd3 j hj).2.1⟩, fun j hj => (hd3 j hj).2.2, fx⟩
end Go.Proofs.YtggjillpfclajaaGreat.open_
