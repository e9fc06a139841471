/- Texts of the proof, bundled: Gn, KRd, KWords, Bk, So, IOk, IRight, IROf, IText, ITextI. -/
import Derived.Deep.AppendLies
import Derived.Test.YtljooldjcefkoaaGreatRows
import Derived.Deep.RegionWith
import Derived.Deep.QuietTactic
import Derived.BigQuiet
import Derived.Deep.RegionHeld3
import Derived.RegionTactic
import Derived.BigRegion
import Derived.Test.YtljooldjcefkoaaGreatU02
import Derived.Test.YtljooldjcefkoaaGreatU01
import Derived.Test.YtljooldjcefkoaaGreatU04
/- Rows of structs of n cells each, one of which may be a slice with a block of its own: how they lie, how they are read, put, appended. No Go function is spoken of. -/
namespace Go.Proofs.YtljooldjcefkoaaGreat.Kit
open Go.RowKit
/-- The cells of one struct. -/
abbrev Row := List Value
def Even (n : Nat) (ts : List Row) : Prop := ∀ t ∈ ts, t.length = n
theorem Even.nil (n : Nat) : Even n [] := fun _ h => by cases h
theorem Even.cons {n : Nat} {t : Row} {ts : List Row} (h : Even n (t :: ts)) : t.length = n ∧ Even n ts := ⟨h t (by simp), fun x hx => h x (by simp [hx])⟩
theorem Even.mk {n : Nat} {t : Row} {ts : List Row} (h1 : t.length = n) (h : Even n ts) : Even n (t :: ts) := fun x hx => (List.mem_cons.1 hx).elim (fun e => e ▸ h1) (h x)
theorem Even.append {n : Nat} {a b : List Row} (ha : Even n a) (hb : Even n b) : Even n (a ++ b) := fun x hx => (List.mem_append.1 hx).elim (ha x) (hb x)
theorem Even.at {n : Nat} {ts : List Row} (h : Even n ts) (j : Nat) (hj : j < ts.length) : ts[j].length = n := h _ (List.getElem_mem hj)
theorem Even.set {n : Nat} {ts : List Row} (h : Even n ts) (j : Nat) {t : Row} (ht : t.length = n) : Even n (ts.set j t) := fun x hx => (List.mem_or_eq_of_mem_set hx).elim (h x) (fun e => e ▸ ht)
theorem flat_length {n : Nat} {ts : List Row} (h : Even n ts) : ts.flatten.length = ts.length * n := by
  induction ts with
  | nil => simp
  | cons t r ih => rw [List.flatten_cons, List.length_append, ih h.cons.2, h.cons.1, List.length_cons, Nat.add_mul]; omega
theorem flat_at {n : Nat} {ts : List Row} (h : Even n ts) (j i : Nat) (hj : j < ts.length) (hi : i < n) : ts.flatten[j * n + i]? = ts[j][i]? := by
  induction ts generalizing j with
  | nil => simp at hj
  | cons t r ih =>
    have h1 := h.cons.1
    cases j with
    | zero =>
      rw [Nat.zero_mul, Nat.zero_add, List.flatten_cons, List.getElem?_append_left (by omega)]
      rfl
    | succ j =>
      rw [List.flatten_cons, List.getElem?_append_right (by rw [Nat.add_mul]; omega), show (j + 1) * n + i - t.length = j * n + i by rw [Nat.add_mul]; omega]
      exact ih h.cons.2 j (by simpa using hj)
theorem flat_set {n : Nat} {ts : List Row} (h : Even n ts) (j i : Nat) (hj : j < ts.length) (hi : i < n) (x : Value) : ts.flatten.set (j * n + i) x = (ts.set j (ts[j].set i x)).flatten := by
  induction ts generalizing j with
  | nil => simp at hj
  | cons t r ih =>
    have h1 := h.cons.1
    cases j with
    | zero =>
      rw [Nat.zero_mul, Nat.zero_add, List.flatten_cons, List.set_append_left _ _ (by omega)]
      rfl
    | succ j =>
      rw [List.flatten_cons, List.set_append_right _ _ (by rw [Nat.add_mul]; omega), show (j + 1) * n + i - t.length = j * n + i by rw [Nat.add_mul]; omega, ih h.cons.2 j (by simpa using hj)]
      rfl
/-- The cells of a row are stored from off on. -/
def setRow (w : World) (g off : Nat) : Row → World
  | [] => w
  | x :: r => setRow (w.setCell ⟨g, off, none⟩ x) g (off + 1) r
theorem setRow_other (g : Nat) (t : Row) : ∀ (w : World) (off k : Nat), k ≠ g → (setRow w g off t).heap[k]? = w.heap[k]? := by
  induction t with
  | nil => exact fun _ _ _ _ => rfl
  | cons x r ih => exact fun w off k hk => (ih _ _ k hk).trans (heap_setCell_other w ⟨g, off, none⟩ k x hk)
theorem setRow_size (g : Nat) (t : Row) : ∀ (w : World) (off : Nat), (setRow w g off t).heap.size = w.heap.size := by
  induction t with
  | nil => exact fun _ _ => rfl
  | cons x r ih => exact fun w off => (ih _ _).trans (by simp)
theorem setRow_same (g : Nat) (t : Row) : ∀ (w : World) (off : Nat), (setRow w g off t).os = w.os ∧ (setRow w g off t).tape = w.tape ∧ (setRow w g off t).output = w.output := by
  induction t with
  | nil => exact fun _ _ => ⟨rfl, rfl, rfl⟩
  | cons x r ih => exact fun w off => ih _ _
theorem setRow_below (g : Nat) (t : Row) {w0 w : World} {B : Nat} (h : Below B w0 w) (off : Nat) (hg : B ≤ g) : Below B w0 (setRow w g off t) :=
  ⟨(setRow_same g t w off).1.trans h.os, (setRow_same g t w off).2.1.trans h.tape, (setRow_same g t w off).2.2.trans h.output, by rw [setRow_size]; exact h.size, fun k hk => (setRow_other g t w off k (by omega)).trans (h.block k hk)⟩
/-- The slice value v owns the structs ts of n cells each (element type e). -/
def NOwns (w : World) (e : TypeId) (n : Nat) (v : Value) (ts : List Row) : Prop := Even n ts ∧ w.ownsRow 0 e n v ts.length ts.flatten
theorem NOwns.lt {w : World} {e : TypeId} {n : Nat} {v : Value} {l : List Row} (h : NOwns w e n v l) : ∀ k, v.ownBlock = some k → k < w.heap.size := fun k hk => (World.ownsRow.lt h.2 k hk).2
theorem NOwns.of_heap {w w' : World} {e : TypeId} {n : Nat} {v : Value} {l : List Row} (h : NOwns w e n v l) (hh : ∀ k, v.ownBlock = some k → w'.heap[k]? = w.heap[k]?) : NOwns w' e n v l := by
  refine ⟨h.1, h.2.1, ?_⟩
  rcases h.2.2 with h1 | ⟨g, cap, cur, h1, h2, h3, h4⟩
  · exact .inl h1
  · exact .inr ⟨g, cap, cur, h1, h2, by rw [hh g (by rw [h1]; rfl), h3], h4⟩
theorem NOwns.nil (w : World) (e : TypeId) (n : Nat) : NOwns w e n (.slice none 0 0) [] := ⟨Even.nil _, World.ownsRow_nil _ _ _ _⟩
theorem NOwns.form {w : World} {e : TypeId} {n : Nat} {v : Value} {l : List Row} (h : NOwns w e n v l) : ∃ a cap, v = .slice a l.length cap ∧ l.length ≤ cap ∧ (a = none → l = []) := by
  rcases h.2.2 with ⟨rfl, h0⟩ | ⟨g, cap, cur, rfl, _, _, hc, _⟩
  · exact ⟨none, 0, by rw [h0], by omega, fun _ => List.length_eq_zero_iff.1 h0⟩
  · exact ⟨_, _, rfl, hc, fun h => by cases h⟩
theorem NOwns.at {w : World} {e : TypeId} {n : Nat} {v : Value} {l : List Row} (h : NOwns w e n v l) (k : Nat) (hk : k < l.length) :
    ∃ g cap, v = .slice (some ⟨g, 0, none⟩) l.length cap ∧ (∀ i, i < n → w.cell? ⟨g, k * n + i, none⟩ = l[k][i]?) ∧ (∀ j, w.frozen? ⟨g, j, none⟩ = false) ∧ g < w.heap.size ∧ l.length ≤ cap := by
  have hlt := h.lt
  rcases h.2.2 with ⟨h1, h0⟩ | ⟨g, cap, cur, rfl, h2, h3, h4, h5, h6, h7⟩
  · omega
  · have h' : w.ownsRow 0 e n (.slice (some ⟨g, 0, none⟩) l.length cap) l.length l.flatten := h.2
    refine ⟨g, cap, rfl, fun i hi => (h'.cellAt _ ?_).trans (flat_at h.1 k i hk hi), h'.frozenAt, hlt g rfl, h4⟩
    have : (k + 1) * n ≤ l.length * n := Nat.mul_le_mul_right n hk
    rw [Nat.add_mul] at this
    omega
theorem NOwns.set {w : World} {g cap : Nat} {e : TypeId} {n : Nat} {l : List Row} (h : NOwns w e n (.slice (some ⟨g, 0, none⟩) l.length cap) l) (k i : Nat) (hk : k < l.length) (hi : i < n) (x : Value) :
    NOwns (w.setCell ⟨g, k * n + i, none⟩ x) e n (.slice (some ⟨g, 0, none⟩) l.length cap) (l.set k (l[k].set i x)) := by
  refine ⟨h.1.set k (by rw [List.length_set]; exact h.1.at k hk), ?_⟩
  rw [List.length_set, ← flat_set h.1 k i hk hi x]
  exact (World.ownsRow.stored h.2 (k * n + i) x).1
theorem NOwns.setRow {g cap : Nat} {e : TypeId} {n : Nat} (k : Nat) (t : Row) : ∀ (w : World) (l : List Row) (hk : k < l.length) (pre : Row), NOwns w e n (.slice (some ⟨g, 0, none⟩) l.length cap) l → pre.length + t.length = n → l[k].take pre.length = pre →
    NOwns (setRow w g (k * n + pre.length) t) e n (.slice (some ⟨g, 0, none⟩) l.length cap) (l.set k (pre ++ t)) := by
  induction t with
  | nil =>
    intro w l hk pre h hl hp
    have e1 : l[k] = pre := by
      have := h.1.at k hk
      rw [← hp, List.take_of_length_le (by simp at hl; omega)]
    rw [List.append_nil, ← e1, List.set_getElem_self]
    exact h
  | cons x r ih =>
    intro w l hk pre h hl hp
    have hlen := h.1.at k hk
    simp only [List.length_cons] at hl
    have h1 := h.set k pre.length hk (by omega) x
    have hk2 : k < (l.set k (l[k].set pre.length x)).length := by simpa using hk
    have h2 : NOwns (w.setCell ⟨g, k * n + pre.length, none⟩ x) e n (.slice (some ⟨g, 0, none⟩) (l.set k (l[k].set pre.length x)).length cap) (l.set k (l[k].set pre.length x)) := by rw [List.length_set]; exact h1
    have hp2 : (l.set k (l[k].set pre.length x))[k].take (pre ++ [x]).length = pre ++ [x] := by
      rw [List.getElem_set_self, List.length_append, List.length_singleton, List.take_add_one, List.take_set_of_le (Nat.le_refl _), hp, List.getElem?_set_self (by omega)]
      rfl
    have h3 := ih _ _ hk2 (pre ++ [x]) h2 (by simp; omega) hp2
    rw [List.length_append, List.length_singleton, List.length_set, List.set_set, List.append_assoc] at h3
    exact h3
theorem NOwns.of_at {w : World} {e : TypeId} {n g : Nat} {cs : Array Value} {ts : List Row} (h : AtC w g e cs) (hc : cs.toList = ts.flatten) (he : Even n ts) (hm : ts.length ≤ maxLen) : NOwns w e n (.slice (some ⟨g, 0, none⟩) ts.length ts.length) ts := by
  have hs : cs.size = ts.length * n := by rw [← Array.length_toList, hc, flat_length he]
  refine ⟨he, by rw [flat_length he], .inr ⟨g, ts.length, cs, rfl, Nat.zero_le _, h, Nat.le_refl _, hm, hs, ?_⟩⟩
  rw [hc, List.take_of_length_le (by rw [flat_length he]; exact Nat.le_refl _)]
theorem step_append_n {P : Program} (W : World) {ops : Array Oper} {o : Oper} {a : Act} {K : Act → World → Prop} {Q : Exit → Act → World → Prop} {E : Prop} (hgd : o.guard = none) (s x : Operand) (t : TypeId)
    (ho : o.op = .call { callee := .builtin .append, args := #[s, x], argTypes := #[t, t] }) (e : TypeId) (ht : P.underlying t = some (.slice e)) (z : Value) (n bytes : Nat)
    (hi : (P.info? e).map (fun i => (i.zero, i.size, i.bytes)) = some (some z, n, bytes)) (hzc : z.cells.size = n) (hn : 0 < n) (hby : bytes ≤ 640) (v : Value) (ts : List Row) (hs : a.eval s = v) (hown : NOwns W e n v ts)
    (g : Nat) (y : Row) (hy : y.length = n) (hx : a.eval x = .slice (some ⟨g, 0, none⟩) 1 1) (hc : ∀ (j : Nat) (u : Value), y[j]? = some u → W.cell? ⟨g, j, none⟩ = some u) (h1 : ∀ u ∈ y, u.oneCell' = true) (hl : ts.length ≤ 100000000000)
    (h : ∀ v' w', NOwns w' e n v' (ts ++ [y]) → W.grownBy w' v.ownBlock → (∀ k, v'.ownBlock = some k → v.ownBlock = some k ∨ W.heap.size ≤ k) → K (a.put o.dst v') w') :
    if Region.wanted o (yielded ops a.tmps) = true then Oper.wp P o a W K Q else E := by
  obtain ⟨i0, hi, hz0, hz1, hz2⟩ := info_parts hi
  refine step_append_lies _ hgd s x t ho 0 e i0 z n bytes ht hi hz0 hz1 hz2 hzc hn v ts.length ts.flatten hs hown.2 ⟨g, 0, none⟩ 1 1 y hx (by rw [hy, Nat.one_mul]) ?_ h1 (by decide) ?_ ?_ (Nat.zero_le _) W.heap.size rfl ?_
  · intro j u hj
    have := hc j u hj
    by_cases e : j = 0
    · subst e; simpa [Addr.add] using this
    · simpa [Addr.add, e] using this
  · unfold maxLen; omega
  · have : (ts.length + 1) * bytes ≤ 100000000001 * 640 := Nat.mul_le_mul (by omega) hby
    omega
  · intro g' cap w' hown' hgrow hat _
    refine h _ w' ⟨hown.1.append (Even.mk hy (Even.nil _)), ?_⟩ hgrow fun k hk => ?_
    · rw [List.length_append, List.flatten_append, show [y].flatten = y by simp]
      exact hown'
    · simp only [Value.ownBlock, Option.some.injEq] at hk
      subst hk
      rcases hat with hat | hat
      · exact .inl hat
      · exact .inr (by omega)
/-- A kind of structs: how many cells, the type, which cell owns memory, how one owns and reads its value. -/
structure Kn (α : Type) where
  n : Nat
  T : TypeId
  p : Row → Value
  O : World → Row → α → Prop
  R : World → Row → α → Prop
  len : ∀ {w : World} {t : Row} {x : α}, O w t x → t.length = n
  heap : ∀ {w w' : World} {t : Row} {x : α}, O w t x → (∀ k, (p t).ownBlock = some k → w'.heap[k]? = w.heap[k]?) → O w' t x
  lt : ∀ {w : World} {t : Row} {x : α}, O w t x → ∀ k, (p t).ownBlock = some k → k < w.heap.size
  rd : ∀ {w : World} {t : Row} {x : α}, O w t x → R w t x
  bel : ∀ {w w' : World} {t : Row} {x : α} {B : Nat}, R w t x → Below B w w' → w.heap.size ≤ B → R w' t x
/-- A list of such structs, in blocks of S of its own, no two of which are one. -/
structure GN {α : Type} (K : Kn α) (w : World) (S : Nat → Prop) (v : Value) (ts : List Row) (xs : List α) : Prop where
  len : ts.length = xs.length
  row : NOwns w K.T K.n v ts
  inn : ∀ (j : Nat) (h : j < ts.length) (h' : j < xs.length), K.O w ts[j] xs[j]
  sep : ∀ (i j : Nat) (hi : i < ts.length) (hj : j < ts.length), i ≠ j → ∀ k, (K.p ts[i]).ownBlock = some k → (K.p ts[j]).ownBlock ≠ some k
  out : ∀ (j : Nat) (h : j < ts.length) (k : Nat), (K.p ts[j]).ownBlock = some k → v.ownBlock ≠ some k
  so : ∀ k, v.ownBlock = some k → S k
  si : ∀ (j : Nat) (h : j < ts.length) (k : Nat), (K.p ts[j]).ownBlock = some k → S k
namespace GN
variable {α : Type} {K : Kn α} {w w' w1 w2 : World} {S S' : Nat → Prop} {v v' : Value} {ts : List Row} {xs : List α} {t' : Row} {x' : α}
theorem of_heap (h : GN K w S v ts xs) (hh : ∀ k, S k → k < w.heap.size → w'.heap[k]? = w.heap[k]?) : GN K w' S v ts xs :=
  ⟨h.len, h.row.of_heap fun k hk => hh k (h.so k hk) (h.row.lt k hk), fun j hj hj' => K.heap (h.inn j hj hj') fun k hk => hh k (h.si j hj k hk) (K.lt (h.inn j hj hj') k hk), h.sep, h.out, h.so, h.si⟩
theorem below {B : Nat} (h : GN K w S v ts xs) (hb : Below B w w') (hB : w.heap.size ≤ B) : GN K w' S v ts xs := h.of_heap fun k _ hk => hb.block k (by omega)
theorem chg (h : GN K w S v ts xs) (hc : Chg S' w w') (hd : ∀ k, S k → ¬ S' k) : GN K w' S v ts xs := h.of_heap fun k hs hk => hc.block k hk (hd k hs)
theorem alloc (h : GN K w S v ts xs) (o : Obj) : GN K (w.alloc o) S v ts xs := h.below ((Below.refl _ w).alloc (Nat.le_refl _) o) (Nat.le_refl _)
theorem drew (h : GN K w S v ts xs) : GN K w.drew S v ts xs := h.below (Below.refl w.heap.size w).drew (Nat.le_refl _)
theorem mono (h : GN K w S v ts xs) (hs : ∀ k, S k → S' k) : GN K w S' v ts xs := ⟨h.len, h.row, h.inn, h.sep, h.out, fun k e => hs k (h.so k e), fun j hj k e => hs k (h.si j hj k e)⟩
theorem bound (h : GN K w S v ts xs) : GN K w (fun k => S k ∧ k < w.heap.size) v ts xs :=
  ⟨h.len, h.row, h.inn, h.sep, h.out, fun k e => ⟨h.so k e, h.row.lt k e⟩, fun j hj k e => ⟨h.si j hj k e, K.lt (h.inn j hj (by rw [← h.len]; exact hj)) k e⟩⟩
theorem form (h : GN K w S v ts xs) : ∃ a cap, v = .slice a xs.length cap := by
  obtain ⟨a, c, e, _⟩ := h.row.form
  exact ⟨a, c, by rw [e, h.len]⟩
theorem nil (w : World) (S : Nat → Prop) : GN K w S (.slice none 0 0) [] [] :=
  ⟨rfl, NOwns.nil _ _ _, fun j hj => by simp at hj, fun i j hi => by simp at hi, fun j hj => by simp at hj, (fun k e => by cases e), fun j hj => by simp at hj⟩
theorem len_of (h : GN K w S v ts xs) {a : Option Addr} {n cap : Nat} (hv : v = .slice a n cap) : n = ts.length := by
  obtain ⟨a', c, e, _⟩ := h.row.form
  rw [hv] at e
  simp only [Value.slice.injEq] at e
  exact e.2.1
theorem turn (h : GN K w S v ts xs) (j : Nat) (hj : j < ts.length) (t' : Row) (x' : α) (hr : NOwns w' K.T K.n v (ts.set j t')) (hO : K.O w' t' x')
    (hf : ∀ k, k < w.heap.size → v.ownBlock ≠ some k → (K.p ts[j]).ownBlock ≠ some k → w'.heap[k]? = w.heap[k]?)
    (hn : ∀ k, (K.p t').ownBlock = some k → (K.p ts[j]).ownBlock = some k ∨ w.heap.size ≤ k) (hs : ∀ k, S k → S' k) (hs2 : ∀ k, (K.p t').ownBlock = some k → S' k) : GN K w' S' v (ts.set j t') (xs.set j x') := by
  have hl := h.len
  have hv := h.row.lt
  refine ⟨by simp [hl], hr, fun i hi hi' => ?_, fun i i2 hi hi2 hne k e1 e2 => ?_, fun i hi k e1 e2 => ?_, fun k e => hs k (h.so k e), fun i hi k e => ?_⟩
  · simp only [List.length_set] at hi hi'
    by_cases e : j = i
    · subst e
      simp only [List.getElem_set_self]
      exact hO
    · simp only [List.getElem_set_ne e]
      exact K.heap (h.inn i hi hi') fun k hk => hf k (K.lt (h.inn i hi hi') k hk) (fun e' => h.out i hi k hk e') (fun e' => h.sep i j hi hj (fun q => e q.symm) k hk e')
  · simp only [List.length_set] at hi hi2
    by_cases ei : j = i
    · subst ei
      simp only [List.getElem_set_self] at e1
      rw [List.getElem_set_ne hne] at e2
      rcases hn k e1 with q | q
      · exact h.sep j i2 hi hi2 hne k q e2
      · have := K.lt (h.inn i2 hi2 (by omega)) k e2; omega
    · rw [List.getElem_set_ne ei] at e1
      by_cases e2' : j = i2
      · subst e2'
        simp only [List.getElem_set_self] at e2
        rcases hn k e2 with q | q
        · exact h.sep i j hi hj hne k e1 q
        · have := K.lt (h.inn i hi (by omega)) k e1; omega
      · rw [List.getElem_set_ne e2'] at e2
        exact h.sep i i2 hi hi2 hne k e1 e2
  · simp only [List.length_set] at hi
    by_cases ei : j = i
    · subst ei
      simp only [List.getElem_set_self] at e1
      rcases hn k e1 with q | q
      · exact h.out j hi k q e2
      · have := hv k e2; omega
    · rw [List.getElem_set_ne ei] at e1
      exact h.out i hi k e1 e2
  · simp only [List.length_set] at hi
    by_cases ei : j = i
    · subst ei
      simp only [List.getElem_set_self] at e
      exact hs2 k e
    · rw [List.getElem_set_ne ei] at e
      exact hs k (h.si i hi k e)
/-- A struct of new memory is put in its place. -/
theorem put (h : GN K w S v ts xs) {g n cap : Nat} (hv : v = .slice (some ⟨g, 0, none⟩) n cap) (j : Nat) (hj : j < ts.length) (hb : Below w.heap.size w w1) (hO : K.O w1 t' x')
    (hn : ∀ k, (K.p t').ownBlock = some k → w.heap.size ≤ k) (hs : ∀ k, S k → S' k) (hs2 : ∀ k, w.heap.size ≤ k → S' k) : GN K (setRow w1 g (j * K.n) t') S' v (ts.set j t') (xs.set j x') := by
  have hg : g < w.heap.size := h.row.lt g (by rw [hv]; rfl)
  have r1 : NOwns w1 K.T K.n v ts := h.row.of_heap fun k hk => hb.block k (h.row.lt k hk)
  have hlen := h.len_of hv
  subst hlen
  subst hv
  refine h.turn j hj t' x' ?_ (K.heap hO fun k hk => setRow_other g t' _ _ k (by have := hn k hk; omega)) (fun k hk h1 _ => (setRow_other g t' _ _ k (fun e => h1 (by rw [e]; rfl))).trans (hb.block k hk)) (fun k hk => .inr (hn k hk)) hs (fun k hk => hs2 k (hn k hk))
  have := NOwns.setRow (g := g) (cap := cap) j t' w1 ts hj [] r1 (by rw [List.length_nil, Nat.zero_add]; exact K.len hO) rfl
  exact this
/-- A struct of new memory is appended. -/
theorem append (h : GN K w S v ts xs) (hb : Below w.heap.size w w1) (hO : K.O w1 t' x') (hn : ∀ k, (K.p t').ownBlock = some k → w.heap.size ≤ k)
    (hr : NOwns w2 K.T K.n v' (ts ++ [t'])) (hg : w1.grownBy w2 v.ownBlock) (hv : ∀ k, v'.ownBlock = some k → v.ownBlock = some k ∨ w1.heap.size ≤ k) : GN K w2 (fun k => (S k ∧ k < w.heap.size) ∨ w.heap.size ≤ k) v' (ts ++ [t']) (xs ++ [x']) := by
  have hl := h.len
  have hsz := hb.size
  have hlt : ∀ (i : Nat) (hi : i < ts.length) (k : Nat), (K.p ts[i]).ownBlock = some k → k < w.heap.size := fun i hi k hk => K.lt (h.inn i hi (by omega)) k hk
  have hlt' : ∀ k, (K.p t').ownBlock = some k → k < w1.heap.size := fun k hk => K.lt hO k hk
  have hvl : ∀ k, v.ownBlock = some k → k < w.heap.size := h.row.lt
  have at_l : ∀ (i : Nat) (hi : i < (ts ++ [t']).length), (∃ h' : i < ts.length, (ts ++ [t'])[i] = ts[i]) ∨ (i = ts.length ∧ (ts ++ [t'])[i] = t') := fun i hi => by
    by_cases e : i < ts.length
    · exact .inl ⟨e, List.getElem_append_left e⟩
    · have e2 : i = ts.length := by simp at hi; omega
      refine .inr ⟨e2, ?_⟩
      subst e2
      simp
  refine ⟨by simp [hl], hr, fun i hi hi' => ?_, fun i j hi hj hne k e1 e2 => ?_, fun i hi k e1 e2 => ?_, fun k e => ?_, fun i hi k e => ?_⟩
  · rcases at_l i hi with ⟨h', e⟩ | ⟨rfl, e⟩
    · rw [e, List.getElem_append_left (by omega)]
      exact K.heap (h.inn i h' (by omega)) fun k hk => (hg.block k (by have := hlt i h' k hk; omega) (fun e => h.out i h' k hk e.symm)).trans (hb.block k (hlt i h' k hk))
    · have e2 : (xs ++ [x'])[ts.length] = x' := by simp [hl]
      rw [e, e2]
      exact K.heap hO fun k hk => hg.block k (hlt' k hk) (fun e => by have := hvl k e.symm; have := hn k hk; omega)
  · rcases at_l i hi with ⟨h1, q1⟩ | ⟨q0, q1⟩ <;> rcases at_l j hj with ⟨h2, q2⟩ | ⟨q3, q2⟩ <;> rw [q1] at e1 <;> rw [q2] at e2
    · exact h.sep i j h1 h2 hne k e1 e2
    · have := hlt i h1 k e1; have := hn k e2; omega
    · have := hlt j h2 k e2; have := hn k e1; omega
    · omega
  · rcases at_l i hi with ⟨h1, q1⟩ | ⟨q0, q1⟩ <;> rw [q1] at e1
    · rcases hv k e2 with q | q
      · exact h.out i h1 k e1 q
      · have := hlt i h1 k e1; omega
    · rcases hv k e2 with q | q
      · have := hvl k q; have := hn k e1; omega
      · have := hlt' k e1; omega
  · rcases hv k e with q | q
    · exact .inl ⟨h.so k q, hvl k q⟩
    · exact .inr (by omega)
  · rcases at_l i hi with ⟨h1, q1⟩ | ⟨q0, q1⟩ <;> rw [q1] at e
    · exact .inl ⟨h.si i h1 k e, hlt i h1 k e⟩
    · exact .inr (hn k e)
end GN
/-- A slice value is read as a list of such structs. -/
def RN {α : Type} (K : Kn α) (w : World) (v : Value) (xs : List α) : Prop := ∃ a cap, v = .slice a xs.length cap ∧ xs.length ≤ cap ∧ ∀ (j : Nat) (h : j < xs.length), ∃ g off t, a = some ⟨g, off, none⟩ ∧ g < w.heap.size ∧ (∀ i, i < K.n → w.cell? ⟨g, off + j * K.n + i, none⟩ = t[i]?) ∧ K.R w t xs[j]
theorem RN.below {α : Type} {K : Kn α} {w w' : World} {B : Nat} {v : Value} {xs : List α} (h : RN K w v xs) (hb : Below B w w') (hB : w.heap.size ≤ B) : RN K w' v xs := by
  obtain ⟨a, cap, h1, h2, h3⟩ := h
  refine ⟨a, cap, h1, h2, fun j hj => ?_⟩
  obtain ⟨g, off, t, k1, k2, k3, k4⟩ := h3 j hj
  exact ⟨g, off, t, k1, Nat.lt_of_lt_of_le k2 hb.size, fun i hi => (hb.cell (p := ⟨g, off + j * K.n + i, none⟩) (by show g < B; omega)).trans (k3 i hi), K.bel k4 hb hB⟩
theorem RN.alloc {α : Type} {K : Kn α} {w : World} {v : Value} {xs : List α} (h : RN K w v xs) (o : Obj) : RN K (w.alloc o) v xs := h.below ((Below.refl _ w).alloc (Nat.le_refl _) o) (Nat.le_refl _)
theorem RN.drew {α : Type} {K : Kn α} {w : World} {v : Value} {xs : List α} (h : RN K w v xs) : RN K w.drew v xs := h.below (Below.refl w.heap.size w).drew (Nat.le_refl _)
theorem RN.form {α : Type} {K : Kn α} {w : World} {v : Value} {xs : List α} (h : RN K w v xs) : ∃ a c, v = .slice a xs.length c := by
  obtain ⟨a, c, h, _⟩ := h
  exact ⟨a, c, h⟩
theorem GN.rn {α : Type} {K : Kn α} {w : World} {S : Nat → Prop} {v : Value} {ts : List Row} {xs : List α} (h : GN K w S v ts xs) : RN K w v xs := by
  obtain ⟨a, cap, e, hc, _⟩ := h.row.form
  have hl := h.len
  refine ⟨a, cap, by rw [e, hl], by omega, fun j hj => ?_⟩
  obtain ⟨g, c', e', k1, k2, k3, -⟩ := h.row.at j (by omega)
  rw [e] at e'
  simp only [Value.slice.injEq] at e'
  exact ⟨g, 0, ts[j], e'.1, k3, fun i hi => by rw [Nat.zero_add]; exact k1 i hi, K.rd (h.inn j (by omega) hj)⟩
end Go.Proofs.YtljooldjcefkoaaGreat.Kit
/- Plain facts on reading a number in base 128: what is read, and that just the shortest form is its own bytes; no Go function is spoken of. -/
namespace Go.Proofs.YtljooldjcefkoaaGreat.Kit
open Go.RowKit

/-- The number that bytes tell, the lowest first. -/
def val : List UInt8 → Nat
  | [] => 0
  | c :: r => c.toNat % 128 + 128 * val r

theorem val_snoc (l : List UInt8) (c : UInt8) : val (l ++ [c]) = val l + c.toNat % 128 * 128 ^ l.length := by
  induction l with
  | nil => simp [val]
  | cons a r ih =>
    simp only [List.cons_append, val, ih, List.length_cons]
    rw [Nat.pow_succ, Nat.mul_add, Nat.add_assoc, ← Nat.mul_assoc, ← Nat.mul_assoc, Nat.mul_comm (c.toNat % 128 * 128 ^ r.length) 128, Nat.mul_assoc]

theorem val_lt (l : List UInt8) : val l < 128 ^ l.length := by
  induction l with
  | nil => simp [val]
  | cons a r ih =>
    simp only [val, List.length_cons]
    rw [Nat.pow_succ]
    have : a.toNat % 128 < 128 := Nat.mod_lt _ (by decide)
    omega

/-- Reading: with fuel, the rest, how many were read, what they tell. -/
def rdF : Nat → List UInt8 → Nat → Nat → Option (Nat × Nat)
  | 0, _, _, _ => none
  | _ + 1, [], _, _ => none
  | f + 1, c :: r, k, n => if 128 ≤ c.toNat then rdF f r (k + 1) (n + c.toNat % 128 * 128 ^ k)
      else if 1000000000 < n + c.toNat % 128 * 128 ^ k ∨ (c.toNat = 0 ∧ 0 < k) then none else some (n + c.toNat % 128 * 128 ^ k, k + 1)

/-- What is read of a text from a place on. -/
def rd (s : ByteArray) (p : Nat) : Option (Nat × Nat) := rdF 5 (s.data.toList.drop p) 0 0

theorem vbF_ne (f n : Nat) : vbF f n ≠ [] := by
  cases f with
  | zero => simp [vbF]
  | succ f => unfold vbF; split <;> simp

theorem vbF_last (f : Nat) : ∀ n, 0 < n → n < 128 ^ (f + 1) → ∀ l c, vbF f n = l ++ [c] → c.toNat ≠ 0 := by
  induction f with
  | zero =>
    intro n h0 h1 l c h
    simp only [vbF] at h
    have : c = loB n := by
      cases l with
      | nil => simpa using h.symm
      | cons a t => simp at h
    subst this
    have h2 : n < 128 := by simpa using h1
    simp [loB, UInt8.toNat_ofNat']; omega
  | succ f ih =>
    intro n h0 h1 l c h
    by_cases hb : 127 < n
    · rw [vbF_big f n hb] at h
      cases l with
      | nil => simp at h; exact absurd h.2 (vbF_ne _ _)
      | cons a t =>
        simp at h
        refine ih (n / 128) (by omega) ?_ t c h.2
        rw [Nat.pow_succ] at h1
        omega
    · rw [vbF_small _ n (by omega)] at h
      have : c = loB n := by
        cases l with
        | nil => simpa using h.symm
        | cons a t => simp at h
      subst this
      simp [loB, UInt8.toNat_ofNat']; omega

theorem vbF_val (pre : List UInt8) : ∀ (f : Nat) (c : UInt8), pre.length ≤ f → (∀ b ∈ pre, 128 ≤ b.toNat) → c.toNat < 128 → (c.toNat ≠ 0 ∨ pre = []) →
    vbF f (val (pre ++ [c])) = pre ++ [c] := by
  induction pre with
  | nil =>
    intro f c _ _ hc _
    have hv : val ([] ++ [c]) = c.toNat := by simp [val]; omega
    rw [hv, vbF_small _ _ (by omega)]
    simp [loB]
  | cons b r ih =>
    intro f c hl hb hc hn
    have hc0 : c.toNat ≠ 0 := by simpa using hn
    cases f with
    | zero => simp at hl
    | succ f =>
      have hb0 : 128 ≤ b.toNat := hb b (by simp)
      have hb1 : b.toNat < 256 := b.toNat_lt
      have hpos : 0 < val (r ++ [c]) := by
        rw [val_snoc]
        have h1 : 0 < 128 ^ r.length := Nat.pow_pos (by decide)
        have h2 : 0 < c.toNat % 128 := by omega
        have := Nat.mul_pos h2 h1
        omega
      have hv : val (b :: r ++ [c]) = b.toNat % 128 + 128 * val (r ++ [c]) := rfl
      rw [hv, vbF_big f _ (by omega)]
      have e1 : (b.toNat % 128 + 128 * val (r ++ [c])) / 128 = val (r ++ [c]) := by omega
      have e2 : hiB (b.toNat % 128 + 128 * val (r ++ [c])) = b := by
        unfold hiB
        rw [show (b.toNat % 128 + 128 * val (r ++ [c])) % 128 + 128 = b.toNat by omega]
        simp
      rw [e1, e2, ih f c (by simpa using hl) (fun x hx => hb x (by simp [hx])) hc (.inl hc0)]
      rfl

/-- Just the shortest form is its own bytes. -/
theorem vb_val_iff (pre : List UInt8) (c : UInt8) (hl : pre.length ≤ 8) (hb : ∀ b ∈ pre, 128 ≤ b.toNat) (hc : c.toNat < 128) :
    vb (val (pre ++ [c])) = pre ++ [c] ↔ ¬ (c.toNat = 0 ∧ 0 < pre.length) := by
  constructor
  · rintro h ⟨h0, hp⟩
    by_cases hz : val (pre ++ [c]) = 0
    · rw [hz] at h
      have : (vb 0).length = 1 := rfl
      rw [h] at this
      simp at this
      simp [this] at hp
    · have hlt := val_lt (pre ++ [c])
      have hle : 128 ^ (pre ++ [c]).length ≤ 128 ^ (9 + 1) := Nat.pow_le_pow_right (by decide) (by simp; omega)
      exact vbF_last 9 _ (by omega) (by omega) pre c h h0
  · intro h
    refine vbF_val pre 9 c (by omega) hb hc ?_
    by_cases h0 : c.toNat = 0
    · right
      have : ¬ 0 < pre.length := fun hp => h ⟨h0, hp⟩
      exact List.length_eq_zero_iff.1 (by omega)
    · exact .inl h0

/-- What the walks of the two readers share: k bytes from p on were read, each goes on, they tell n, and what is read in the end is what is read from here on. -/
def AtK (s : ByteArray) (p k n : Nat) : Prop :=
  ∃ pre rest : List UInt8, s.data.toList.drop p = pre ++ rest ∧ pre.length = k ∧ (∀ b ∈ pre, 128 ≤ b.toNat) ∧ n = val pre ∧ rd s p = rdF (5 - k) rest k n

theorem AtK.start (s : ByteArray) (p : Nat) : AtK s p 0 0 := ⟨[], s.data.toList.drop p, rfl, rfl, by simp, rfl, rfl⟩

theorem AtK.lt {s : ByteArray} {p k n : Nat} (h : AtK s p k n) : n < 128 ^ k := by
  obtain ⟨pre, rest, _, rfl, _, rfl, _⟩ := h
  exact val_lt pre

theorem drop_head {s : ByteArray} {p k : Nat} {pre rest : List UInt8} (h : s.data.toList.drop p = pre ++ rest) (hk : pre.length = k) (hlt : p + k < s.size) : rest = s[p + k] :: rest.tail := by
  have h1 : (s.data.toList.drop p).drop k = rest := by rw [h, ← hk]; simp
  rw [List.drop_drop] at h1
  have h2 : p + k < s.data.toList.length := by simpa using hlt
  rw [List.drop_eq_getElem_cons h2] at h1
  rw [← h1]
  rfl

theorem AtK.out {s : ByteArray} {p k n : Nat} (h : AtK s p k n) (hx : s.size ≤ p + k ∨ 5 ≤ k) : rd s p = none := by
  obtain ⟨pre, rest, hd, hk, _, rfl, hr⟩ := h
  rw [hr]
  by_cases h5 : 5 ≤ k
  · rw [show 5 - k = 0 by omega]; rfl
  · have hs : s.size ≤ p + k := by omega
    have : rest = [] := by
      have hl := congrArg List.length hd
      simp at hl
      apply List.length_eq_zero_iff.1
      have : s.data.size = s.size := rfl
      omega
    subst this
    rw [show 5 - k = (4 - k) + 1 by omega]
    rfl

theorem AtK.next {s : ByteArray} {p k n : Nat} (h : AtK s p k n) (hlt : p + k < s.size) (h5 : k < 5) (hc : 128 ≤ (s[p + k]).toNat) :
    AtK s p (k + 1) (n + (s[p + k]).toNat % 128 * 128 ^ k) := by
  obtain ⟨pre, rest, hd, hk, hb, rfl, hr⟩ := h
  have hrest := drop_head hd hk hlt
  refine ⟨pre ++ [s[p + k]], rest.tail, ?_, by simp [hk], ?_, ?_, ?_⟩
  · rw [hd]; simp [List.append_assoc, ← hrest]
  · intro b hb'
    rcases List.mem_append.1 hb' with h1 | h1
    · exact hb b h1
    · simp at h1; subst h1; exact hc
  · rw [val_snoc, hk]
  · rw [hr]
    conv => lhs; rw [hrest, show 5 - k = (5 - (k + 1)) + 1 by omega]
    rw [rdF, if_pos hc]

theorem AtK.stop {s : ByteArray} {p k n : Nat} (h : AtK s p k n) (hlt : p + k < s.size) (h5 : k < 5) (hc : (s[p + k]).toNat < 128) :
    rd s p = if 1000000000 < n + (s[p + k]).toNat % 128 * 128 ^ k ∨ ((s[p + k]).toNat = 0 ∧ 0 < k) then none else some (n + (s[p + k]).toNat % 128 * 128 ^ k, k + 1) := by
  obtain ⟨pre, rest, hd, hk, hb, rfl, hr⟩ := h
  have hrest := drop_head hd hk hlt
  rw [hr]
  conv => lhs; rw [hrest, show 5 - k = (5 - (k + 1)) + 1 by omega]
  rw [rdF, if_neg (by omega)]

theorem extract_toList (s : ByteArray) (a b : Nat) : (s.extract a b).data.toList = (s.data.toList.drop a).take (b - a) := by
  simp [ByteArray.data_extract, List.take_drop]

theorem AtK.form {s : ByteArray} {p k n : Nat} (h : AtK s p k n) (hlt : p + k < s.size) (h5 : k < 5) (hc : (s[p + k]).toNat < 128) :
    vb (n + (s[p + k]).toNat % 128 * 128 ^ k) = (s.extract p (p + k + 1)).data.toList ↔ ¬ ((s[p + k]).toNat = 0 ∧ 0 < k) := by
  obtain ⟨pre, rest, hd, hk, hb, rfl, _⟩ := h
  have hrest := drop_head hd hk hlt
  have e : (s.extract p (p + k + 1)).data.toList = pre ++ [s[p + k]] := by
    rw [extract_toList, hd, hrest, show p + k + 1 - p = pre.length + 1 by omega, List.take_append]
    simp [List.take_of_length_le]
  have := vb_val_iff pre s[p + k] (by omega) hb hc
  rw [val_snoc, hk] at this
  rw [e]
  exact this
end Go.Proofs.YtljooldjcefkoaaGreat.Kit
/- Contracts of the words' functions at this seat: l01In, l01Var, VarText, ShortText, ReadVar, ReadShort, Clone. -/
namespace Go.Proofs.YtljooldjcefkoaaGreat
open Go.RowKit Kit

theorem Tryz.info5 : (Tryz.prog.info? 5).map (fun i => (i.zero, i.size, i.bytes)) = some (some (.int .u8 0), 1, 1) := by kernel_rfl
theorem vb_big {n f m : Nat} {pre : List UInt8} (h : 127 < m) (hv : vb n = pre ++ vbF (f + 1) m) : vb n = (pre ++ [hiB m]) ++ vbF f (m / 128) := by
  rw [hv, vbF_big f m h]; simp
theorem vb_small {n f m : Nat} {pre : List UInt8} (h : m ≤ 127) (hv : vb n = pre ++ vbF f m) : pre ++ [loB m] = vb n := by
  rw [hv, vbF_small f m h]
theorem byte_big (m : Nat) : (m : Int) % 128 + 128 = ((hiB m).toNat : Int) := by
  simp [hiB, UInt8.toNat_ofNat']; omega
theorem byte_small (m : Nat) (h : m ≤ 127) : (m : Int) = ((loB m).toNat : Int) := by
  simp [loB, UInt8.toNat_ofNat']; omega
def inB (x a b : Int) : Bool := decide (a ≤ x ∧ x ≤ b)
theorem inB_true {x a b : Int} (h : inB x a b = true) : a ≤ x ∧ x ≤ b := of_decide_eq_true h
theorem inB_false {x a b : Int} (h : inB x a b = false) : x < a ∨ b < x := by
  have := of_decide_eq_false h
  omega
theorem l01In_any (x a b : Int) (w : World) :
    Calls Tryz.prog 51 #[.int .i64 x, .int .i64 a, .int .i64 b] w fun e w' => e = .returned (.bool (inB x a b)) ∧ w' = w := by
  by_cases h0 : a ≤ x
  · by_cases h1 : x ≤ b
    · have hv : inB x a b = true := by simp [inB, h0, h1]
      have HV := hide hv
      clear hv
      go_enter Tryz.func51, Tryz.ntmps51
      go_wp2
      go_ret
      exact ⟨by rw [HV.out]; simp, rfl⟩
    · have hv : inB x a b = false := by simp [inB, h1]
      have HV := hide hv
      clear hv
      go_enter Tryz.func51, Tryz.ntmps51
      go_wp2
      go_ret
      exact ⟨by rw [HV.out]; simp, rfl⟩
  · have hv : inB x a b = false := by simp [inB, h0]
    have HV := hide hv
    clear hv
    go_enter Tryz.func51, Tryz.ntmps51
    go_wp2
    go_ret
    exact ⟨by rw [HV.out]; simp, rfl⟩

/-- The bytes of a length, as a string. -/
def headOf (n : Nat) : ByteArray := ⟨(vb n).toArray⟩
theorem headOf_size (n : Nat) : (headOf n).size ≤ 10 := by
  have := vbF_len 9 n
  simp only [headOf, ByteArray.size, vb, List.size_toArray]
  omega
/-- What is answered. -/
def rdVal (s : ByteArray) (p : Nat) : Value := match rd s p with
  | none => .tuple #[.int .i64 0, .int .i64 0, .bool false]
  | some (n, c) => .tuple #[.int .i64 n, .int .i64 (p + c : Nat), .bool true]
theorem rdVal_none {s : ByteArray} {p : Nat} (h : rd s p = none) : rdVal s p = .tuple #[.int .i64 0, .int .i64 0, .bool false] := by simp [rdVal, h]
theorem rdVal_some {s : ByteArray} {p n c : Nat} (h : rd s p = some (n, c)) : rdVal s p = .tuple #[.int .i64 n, .int .i64 (p + c : Nat), .bool true] := by simp [rdVal, h]
theorem pow_le {k : Nat} (h : k < 5) : 128 ^ k ≤ 268435456 := by
  have : 128 ^ k ≤ 128 ^ 4 := Nat.pow_le_pow_right (by decide) (by omega)
  simpa using this
theorem at_next {s : ByteArray} {p k m W c : Nat} (h : AtK s p k m) (hW : W = 128 ^ k) (hlt : p + k < s.size) (h5 : k < 5) (hc : (s[p + k]).toNat = c) (h1 : 127 < c) :
    AtK s p (k + 1) (m + c % 128 * W) ∧ m + c % 128 * W < W * 128 := by
  subst hW hc
  have hn := h.next hlt h5 (by omega)
  exact ⟨hn, by have := hn.lt; rwa [Nat.pow_succ] at this⟩
theorem at_none {s : ByteArray} {p k m W c : Nat} (h : AtK s p k m) (hW : W = 128 ^ k) (hlt : p + k < s.size) (h5 : k < 5) (hc : (s[p + k]).toNat = c) (h1 : c ≤ 127) (h2 : 1000000000 < m + c % 128 * W ∨ (c = 0 ∧ 0 < k)) :
    rdVal s p = .tuple #[.int .i64 0, .int .i64 0, .bool false] := by
  subst hW hc
  refine rdVal_none ?_
  rw [h.stop hlt h5 (by omega), if_pos h2]
theorem at_some {s : ByteArray} {p k m W c : Nat} (h : AtK s p k m) (hW : W = 128 ^ k) (hlt : p + k < s.size) (h5 : k < 5) (hc : (s[p + k]).toNat = c) (h1 : c ≤ 127) (h2 : ¬ (1000000000 < m + c % 128 * W ∨ (c = 0 ∧ 0 < k))) :
    rdVal s p = .tuple #[.int .i64 ((m : Int) + (c : Int) % 128 * (W : Int)), .int .i64 ((p : Int) + (k : Int) + 1), .bool true] := by
  subst hW hc
  have e := h.stop hlt h5 (by omega)
  rw [if_neg h2] at e
  rw [rdVal_some e]
  have e1 : ((m + (s[p + k]).toNat % 128 * 128 ^ k : Nat) : Int) = (m : Int) + ((s[p + k]).toNat : Int) % 128 * ((128 ^ k : Nat) : Int) := by
    rw [Int.natCast_add, Int.natCast_mul, Int.natCast_emod]; rfl
  rw [e1]
  simp only [Int.natCast_add]
  rw [show (p : Int) + ((k : Int) + ((1 : Nat) : Int)) = (p : Int) + (k : Int) + 1 by omega]
theorem cast3 (m c W : Nat) : ((m + c % 128 * W : Nat) : Int) = (m : Int) + (c : Int) % 128 * (W : Int) := by simp
theorem form_eq {s : ByteArray} {p k m W c : Nat} (h : AtK s p k m) (hW : W = 128 ^ k) (hlt : p + k < s.size) (h5 : k < 5) (hc : (s[p + k]).toNat = c) (h1 : c ≤ 127) :
    headOf (m + c % 128 * W) = s.extract p (p + k + 1) ↔ ¬ (c = 0 ∧ 0 < k) := by
  subst hW hc
  rw [← h.form hlt h5 (by omega)]
  constructor
  · intro e; rw [← e]; rfl
  · intro e
    unfold headOf
    rw [e]
theorem toNat3 (p k : Nat) : ((p : Int) + (k : Int) + 1).toNat = p + k + 1 := by omega
theorem form_no {s : ByteArray} {p k T c m W : Nat} (hT : m + c % 128 * W = T) (hf : headOf (m + c % 128 * W) = s.extract p (p + k + 1) ↔ ¬ (c = 0 ∧ 0 < k)) (h : (!(headOf T).toList == (s.extract p ((p : Int) + (k : Int) + 1).toNat).toList) = true) : c = 0 ∧ 0 < k := by
  rw [hT] at hf
  rw [toNat3] at h
  apply Classical.byContradiction
  intro hn
  rw [hf.2 hn] at h
  simp at h
theorem form_yes {s : ByteArray} {p k T c m W : Nat} (hT : m + c % 128 * W = T) (hf : headOf (m + c % 128 * W) = s.extract p (p + k + 1) ↔ ¬ (c = 0 ∧ 0 < k)) (h : (!(headOf T).toList == (s.extract p ((p : Int) + (k : Int) + 1).toNat).toList) = false) : ¬ (c = 0 ∧ 0 < k) := by
  rw [hT] at hf
  rw [toNat3] at h
  refine hf.1 ?_
  have h1 : (headOf T).toList = (s.extract p (p + k + 1)).toList := by simpa using h
  rw [ByteArray.toList_eq, ByteArray.toList_eq] at h1
  exact Go.WideShapes.bytes_inj h1
theorem of_drew {w w1 : World} (h : Below w.drew.heap.size w.drew w1) : Below w.heap.size w w1 := (Below.refl _ w).drew.trans h
theorem wrapId {x : Int} (h0 : 0 ≤ x) (h1 : x ≤ 1000000000000) : IntKind.i64.wrap x = x := by
  simp [IntKind.wrap, IntKind.signed, IntKind.bits]
  omega
theorem rdVal_form (s : ByteArray) (p : Nat) : ∃ (a b : Int) (c : Bool), rdVal s p = .tuple #[.int .i64 a, .int .i64 b, .bool c] := by
  unfold rdVal
  split
  · exact ⟨0, 0, false, rfl⟩
  · exact ⟨_, _, true, rfl⟩

theorem rdF_bound (f : Nat) : ∀ (rest : List UInt8) (k n m c : Nat), rdF f rest k n = some (m, c) → m ≤ 1000000000 ∧ c ≤ k + rest.length := by
  induction f with
  | zero => intro rest k n m c h; simp [rdF] at h
  | succ f ih =>
    intro rest k n m c h
    cases rest with
    | nil => simp [rdF] at h
    | cons b r =>
      rw [rdF] at h
      split at h
      · have := ih _ _ _ _ _ h
        simp only [List.length_cons]
        omega
      · split at h
        · cases h
        · simp only [Option.some.injEq, Prod.mk.injEq] at h
          simp only [List.length_cons]
          omega
theorem rd_bound {s : ByteArray} {p n c : Nat} (hp : p ≤ s.size) (h : rd s p = some (n, c)) : n ≤ 1000000000 ∧ p + c ≤ s.size := by
  have := rdF_bound 5 _ 0 0 n c h
  have h2 : s.data.toList.length = s.size := by simp
  rw [List.length_drop, h2] at this
  omega
/-- What is answered. -/
def rsVal (s : ByteArray) (p : Nat) : Value := match rd s p with
  | none => .tuple #[.string ⟨#[]⟩, .int .i64 0, .bool false]
  | some (n, c) => if 20000 < n ∨ s.size - (p + c) < n then .tuple #[.string ⟨#[]⟩, .int .i64 0, .bool false]
      else .tuple #[.string (s.extract (p + c) (p + c + n)), .int .i64 (p + c + n : Nat), .bool true]
theorem rsVal_none {s : ByteArray} {p : Nat} (h : rd s p = none) : rsVal s p = .tuple #[.string ⟨#[]⟩, .int .i64 0, .bool false] := by simp [rsVal, h]
theorem rsVal_bad {s : ByteArray} {p n c : Nat} (h : rd s p = some (n, c)) (h1 : 20000 < n ∨ s.size - (p + c) < n) : rsVal s p = .tuple #[.string ⟨#[]⟩, .int .i64 0, .bool false] := by simp [rsVal, h, h1]
theorem rsVal_good {s : ByteArray} {p n c : Nat} (h : rd s p = some (n, c)) (h1 : ¬ (20000 < n ∨ s.size - (p + c) < n)) : rsVal s p = .tuple #[.string (s.extract (p + c) (p + c + n)), .int .i64 (p + c + n : Nat), .bool true] := by simp [rsVal, h, h1]
theorem rsVal_form (s : ByteArray) (p : Nat) : ∃ (a : ByteArray) (b : Int) (c : Bool), rsVal s p = .tuple #[.string a, .int .i64 b, .bool c] := by
  unfold rsVal
  split
  · exact ⟨_, 0, false, rfl⟩
  · split
    · exact ⟨_, 0, false, rfl⟩
    · exact ⟨_, _, true, rfl⟩
end Go.Proofs.YtljooldjcefkoaaGreat
/- Of the specification: l11Block by its contract. -/
namespace Go.Proofs.YtljooldjcefkoaaGreat
open Go.RowKit Kit
/-- The block with a number, without text where there is none. -/
def blkAt (bs : List Blk) (x : Int) : Blk := if inB x 1 bs.length = true then bs.getD (x - 1).toNat (false, [], ⟨#[]⟩) else (false, [], ⟨#[]⟩)
set_option maxRecDepth 100000 in
set_option maxHeartbeats 1600000 in
theorem blk_any (x : Int) (u v iv bv : Value) (xs ys : List Bool) (is : List Ino) (bs : List Blk) (w0 w : World) (h : DR w0 u v iv bv xs ys is bs) (h0 : Below w0.heap.size w0 w) (hl : bs.length ≤ 1048576) :
    Calls Tryz.prog 52 #[.agg #[u, v, iv, bv], .int .i64 x] w fun e w' => ∃ sv, e = .returned (.tuple #[.agg #[.bool (blkAt bs x).1, sv, .string (blkAt bs x).2.2], .bool (inB x 1 bs.length)]) ∧ RSl w0 sv (blkAt bs x).2.1 ∧ Below w.heap.size w w' := by
  have HZ := hide h0
  obtain ⟨a4, c4, rfl, -, hc⟩ := h.k
  have HC := hide hc
  clear h hc h0
  have HB : Hid (∀ A, Below w.heap.size w (((w.alloc (.cells A 35)).alloc (.cells #[.bool false, .slice none 0 0, .string ⟨#[]⟩] 73)))) := fun A => ((Below.refl _ w).alloc (Nat.le_refl _) _).alloc (by simp) _
  cases hb : inB x 1 bs.length with
  | false =>
    have HX := hide hb
    have e0 : blkAt bs x = (false, [], ⟨#[]⟩) := by unfold blkAt; rw [hb]; rfl
    rw [e0]
    clear hb e0
    go_enter Tryz.func52, Tryz.ntmps52
    go_wp2_with fail
    refine (l01In_any x 1 _ _).mono ?_
    rintro e w1 ⟨rfl, rfl⟩
    rw [HX.out]
    go_wp2
    refine bodyPost_ret (v := .tuple #[.agg #[.bool false, .slice none 0 0, .string ⟨#[]⟩], .bool false]) (by simp [results, go_sem]) rfl ⟨_, rfl, ?_, ?_⟩
    · exact ⟨none, 0, rfl, Nat.le_refl _, fun j hj => by simp at hj⟩
    · exact HB.out _
  | true =>
    have HX := hide hb
    obtain ⟨h1, h2⟩ := inB_true hb
    obtain ⟨j, rfl⟩ : ∃ j : Nat, x = (j : Int) + 1 := ⟨(x - 1).toNat, by omega⟩
    have hj : j < bs.length := by omega
    have e0 : blkAt bs ((j : Int) + 1) = bs[j] := by
      unfold blkAt
      rw [hb, if_pos rfl, show ((j : Int) + 1 - 1).toNat = j by omega]
      simp [hj]
    rw [e0]
    clear hb e0
    obtain ⟨g, off, t, rfl, hg, k0, k1, k2, r1, r2, r3⟩ := HC.out j hj
    replace k0 := (HZ.out.cell (p := ⟨g, off + j * 3, none⟩) hg).trans k0
    replace k1 := (HZ.out.cell (p := ⟨g, off + j * 3 + 1, none⟩) hg).trans k1
    replace k2 := (HZ.out.cell (p := ⟨g, off + j * 3 + 2, none⟩) hg).trans k2
    replace hg : g < w.heap.size := Nat.lt_of_lt_of_le hg HZ.out.size
    obtain ⟨t0, t1, t2⟩ := t
    simp only at r1 r2 r3 k0 k1 k2
    subst r1 r3
    generalize bs[j].1 = d at *
    generalize bs[j].2.2 = tx at *
    generalize bs[j].2.1 = ss at *
    have HR := hide r2
    obtain ⟨pa, pc, rfl, -⟩ := r2
    have HB2 : Hid (∀ (A B : Array Value), Below w.heap.size w ((w.alloc (.cells A 35)).alloc (.cells B 73))) := fun A B => ((Below.refl _ w).alloc (Nat.le_refl _) _).alloc (by simp) _
    have n0 : ((w.alloc (.cells #[u, v, iv, .slice (some ⟨g, off, none⟩) bs.length c4] 35)).alloc (.cells #[.bool false, .slice none 0 0, .string ⟨#[]⟩] 73)).cell? ⟨g, off + j * 3, none⟩ = some (.bool d) := ((HB.out _).cell (p := ⟨g, off + j * 3, none⟩) hg).trans k0
    have n1 : ((w.alloc (.cells #[u, v, iv, .slice (some ⟨g, off, none⟩) bs.length c4] 35)).alloc (.cells #[.bool false, .slice none 0 0, .string ⟨#[]⟩] 73)).cell? ⟨g, off + j * 3 + 1, none⟩ = some (.slice pa ss.length pc) := ((HB.out _).cell (p := ⟨g, off + j * 3 + 1, none⟩) hg).trans k1
    have n2 : ((w.alloc (.cells #[u, v, iv, .slice (some ⟨g, off, none⟩) bs.length c4] 35)).alloc (.cells #[.bool false, .slice none 0 0, .string ⟨#[]⟩] 73)).cell? ⟨g, off + j * 3 + 2, none⟩ = some (.string tx) := ((HB.out _).cell (p := ⟨g, off + j * 3 + 2, none⟩) hg).trans k2
    have j0 : (0 : Int) ≤ (j : Int) := by omega
    have j1 : (j : Int) < (bs.length : Int) := by omega
    clear k0 k1 k2
    go_enter Tryz.func52, Tryz.ntmps52
    go_wp2_with fail
    refine (l01In_any _ 1 _ _).mono ?_
    rintro e w1 ⟨rfl, rfl⟩
    rw [HX.out]
    go_wp2
    refine bodyPost_ret (v := .tuple #[.agg #[.bool d, .slice pa ss.length pc, .string tx], .bool true]) (by simp [results, go_sem]) rfl ⟨_, rfl, ?_, ?_⟩
    · exact HR.out
    · exact HB2.out _ _
end Go.Proofs.YtljooldjcefkoaaGreat
/- Of the specification: SlotOf by its contract. -/
namespace Go.Proofs.YtljooldjcefkoaaGreat
open Go.RowKit Kit
theorem emp_false {s : ByteArray} (h : 0 < s.size) : s.toList.isEmpty = false := by
  rw [List.isEmpty_eq_false_iff, ByteArray.toList_eq]
  intro e
  have h2 : s.data.toList.length = s.size := rfl
  rw [e, List.length_nil] at h2
  omega
theorem beq_false {a b : ByteArray} (h : ¬ a = b) : (a.toList == b.toList) = false := by
  rw [beq_eq_false_iff_ne, ByteArray.toList_eq, ByteArray.toList_eq]
  intro e
  exact h (ByteArray.ext (Array.toList_inj.1 e))
/-- What SlotOf answers: no slot, or one of the name, which is not empty. -/
def SlotIs (ss : List Sl) (nm : ByteArray) (k : Int) : Prop := (k = -1 ∧ (nm.size ≠ 0 → ∀ (i : Nat) (hi : i < ss.length), ¬ ss[i].1 = nm)) ∨ ∃ (j : Nat) (hj : j < ss.length), k = (j : Int) ∧ ss[j].1 = nm ∧ nm.size ≠ 0 ∧ ∀ (i : Nat) (hi : i < j), ¬ (ss[i]'(Nat.lt_trans hi hj)).1 = nm
end Go.Proofs.YtljooldjcefkoaaGreat
/- spec.InodeOk by its contract. -/
namespace Go.Proofs.YtljooldjcefkoaaGreat
open Go.RowKit Kit
/-- An inode of two pointers is right. -/
def okR (k l p q : Int) : Bool := decide ((k = 0 ∧ l = 0 ∧ p = 0 ∧ q = 0) ∨ ((k = 1 ∨ k = 2) ∧ 0 ≤ l ∧ l ≤ 200 ∧ 0 ≤ p ∧ p ≤ 16 ∧ 0 ≤ q ∧ q ≤ 16))
theorem okR_true {k l p q : Int} (h : (k = 0 ∧ l = 0 ∧ p = 0 ∧ q = 0) ∨ ((k = 1 ∨ k = 2) ∧ 0 ≤ l ∧ l ≤ 200 ∧ 0 ≤ p ∧ p ≤ 16 ∧ 0 ≤ q ∧ q ≤ 16)) : true = okR k l p q := by simp only [okR]; exact (decide_eq_true h).symm
theorem okR_false {k l p q : Int} (h : ¬ ((k = 0 ∧ l = 0 ∧ p = 0 ∧ q = 0) ∨ ((k = 1 ∨ k = 2) ∧ 0 ≤ l ∧ l ≤ 200 ∧ 0 ≤ p ∧ p ≤ 16 ∧ 0 ≤ q ∧ q ≤ 16))) : false = okR k l p q := by simp only [okR]; exact (decide_eq_false h).symm
theorem okR_z {k l p q : Int} (hk : k = 0) (hp : (p != 0) = true) : false = okR k l p q := okR_false (by simp at hp; omega)
theorem okR_zq {k l p q : Int} (hk : k = 0) (hp : (q != 0) = true) : false = okR k l p q := okR_false (by simp at hp; omega)
theorem okR_l {k l p q : Int} (hk : k = 0) (hp : (p != 0) = false) (hq : (q != 0) = false) : (l == 0) = okR k l p q := by
  simp at hp hq
  subst hk hp hq
  by_cases h : l = 0
  · rw [← okR_true (by omega)]; simp [h]
  · rw [← okR_false (by omega)]; simp [h]
theorem RInts.two {w : World} {v : Value} {p q : Int} (h : RInts w v [p, q]) : ∃ g off c, v = .slice (some ⟨g, off, none⟩) 2 c ∧ g < w.heap.size ∧ w.cell? ⟨g, off, none⟩ = some (.int .i64 p) ∧ w.cell? ⟨g, off + 1, none⟩ = some (.int .i64 q) := by
  obtain ⟨a, c, rfl, h⟩ := h
  obtain ⟨g, off, rfl, hg, h0⟩ := h 0 (by simp)
  obtain ⟨g1, off1, e, _, h1⟩ := h 1 (by simp)
  simp at e
  obtain ⟨rfl, rfl⟩ := e
  exact ⟨g, off, c, rfl, hg, h0, h1⟩

set_option maxRecDepth 100000 in
set_option maxHeartbeats 1600000 in
theorem specOk_two (k l p q : Int) (v : Value) (w : World) (hv : RInts w v [p, q]) :
    Calls Tryz.prog 48 #[.agg #[.int .i64 k, .int .i64 l, v]] w fun e w' => e = .returned (.bool (okR k l p q)) ∧ Below w.heap.size w w' := by
  obtain ⟨g, off, c, rfl, hg, c0, c1⟩ := RInts.two hv
  clear hv
  go_enter Tryz.func48, Tryz.ntmps48
  go_wp2
  · go_rounds 3
    all_goals (go_ret; refine ⟨ret_bool ?_, by go_grown⟩)
    all_goals first | (refine okR_true ?_; omega) | (refine okR_false ?_; omega) | exact okR_z ‹k = 0› ‹(p != 0) = true› | exact okR_zq ‹k = 0› ‹(q != 0) = true› | exact okR_l ‹k = 0› ‹(p != 0) = false› ‹(q != 0) = false›
  all_goals (go_ret; refine ⟨ret_bool ?_, by go_grown⟩; refine okR_false ?_; omega)

set_option maxRecDepth 100000 in
set_option maxHeartbeats 1600000 in
theorem specOk_other (k l : Int) (xs : List Int) (v : Value) (w : World) (hv : RInts w v xs) (hn : xs.length ≠ 2) :
    Calls Tryz.prog 48 #[.agg #[.int .i64 k, .int .i64 l, v]] w fun e w' => e = .returned (.bool false) ∧ Below w.heap.size w w' := by
  obtain ⟨a, c, rfl, -⟩ := hv
  generalize xs.length = n at *
  have h1 : ((n : Int) != 2) = true := by simp; omega
  go_enter Tryz.func48, Tryz.ntmps48
  go_wp2
  all_goals (go_ret; exact ⟨rfl, by go_grown⟩)
end Go.Proofs.YtljooldjcefkoaaGreat
/- (impl.inodeRecord).ptrsRight and (impl.inodeRecord).right by their contracts. -/
namespace Go.Proofs.YtljooldjcefkoaaGreat
open Go.RowKit Kit
theorem Tryz.u3 : Tryz.prog.underlying 3 = some (.int .i64) := by kernel_rfl
theorem eqArrD (d : Nat) (p q : Int) (w : World) : (Op.equalIn (d + 1 + 1) 116 (.agg #[.int .i64 p, .int .i64 q]) (.agg #[.int .i64 0, .int .i64 0])).run Tryz.prog w = .ok ((p == 0) && (q == 0)) w := by
  obtain ⟨i0, hi, hz0, hz1, hz2⟩ := info_parts Tryz.i3
  unfold Op.equalIn
  have hr : ∀ a b, (Op.equalIn (d + 1) 3 (.int .i64 a) (.int .i64 b)).run Tryz.prog w = .ok (a == b) w := fun a b => run_equalIn_int w d 3 .i64 .i64 a b Tryz.u3
  simp [run_underlying Tryz.u116, sizeOf, typeInfo, hi, hz1, part, go_sem, hr, Std.Legacy.Range.forIn_eq_forIn_range', List.range', List.forIn_cons]
  by_cases hp : p = 0 <;> by_cases hq : q = 0 <;> simp [hp, hq]
theorem eqArr (p q : Int) (w : World) : (Op.equalIn 9999 116 (.agg #[.int .i64 p, .int .i64 q]) (.agg #[.int .i64 0, .int .i64 0])).run Tryz.prog w = .ok ((p == 0) && (q == 0)) w := eqArrD 9997 p q w
/-- Both pointers are in their range. -/
def ptrsR (p q : Int) : Bool := decide (0 ≤ p ∧ p ≤ 16 ∧ 0 ≤ q ∧ q ≤ 16)
theorem ptrsR_true {p q : Int} (h : 0 ≤ p ∧ p ≤ 16 ∧ 0 ≤ q ∧ q ≤ 16) : true = ptrsR p q := by simp only [ptrsR]; exact (decide_eq_true h).symm
theorem ptrsR_false {p q : Int} (h : ¬ (0 ≤ p ∧ p ≤ 16 ∧ 0 ≤ q ∧ q ≤ 16)) : false = ptrsR p q := by simp only [ptrsR]; exact (decide_eq_false h).symm

set_option maxRecDepth 100000 in
set_option maxHeartbeats 1600000 in
theorem ptrs_any (k l p q : Int) (w : World) :
    Calls Tryz.prog 106 #[.agg #[.int .i64 k, .int .i64 l, .int .i64 p, .int .i64 q]] w fun e w' => e = .returned (.bool (ptrsR p q)) ∧ Below w.heap.size w w' := by
  have a0 := arr0 p q
  have a1 := arr1 p q
  go_enter Tryz.func106, Tryz.ntmps106
  go_wp2
  go_rounds 3
  all_goals (go_ret; refine ⟨ret_bool ?_, by go_grown⟩)
  all_goals first | (refine ptrsR_true ?_; omega) | (refine ptrsR_false ?_; omega) 

theorem okR_of_ptrs {k l p q : Int} (hk : k = 1 ∨ k = 2) (h0 : 0 ≤ l) (h1 : l ≤ 200) : ptrsR p q = okR k l p q := by
  by_cases h : 0 ≤ p ∧ p ≤ 16 ∧ 0 ≤ q ∧ q ≤ 16
  · rw [← ptrsR_true h, ← okR_true (by omega)]
  · rw [← ptrsR_false h, ← okR_false (by omega)]
set_option maxRecDepth 100000 in
set_option maxHeartbeats 1600000 in
theorem right_anyI (k l p q : Int) (w : World) :
    Calls Tryz.prog 99 #[.agg #[.int .i64 k, .int .i64 l, .int .i64 p, .int .i64 q]] w fun e w' => e = .returned (.bool (okR k l p q)) ∧ Below w.heap.size w w' := by
  have eA := eqArr p q
  by_cases h0 : k = 0
  · subst h0
    go_enter Tryz.func99, Tryz.ntmps99
    go_wp2
    all_goals (go_ret; refine ⟨ret_bool ?_, by go_grown⟩)
    all_goals first | (refine okR_true ?_; omega) | (refine okR_false ?_; omega)
  have k0 : (k == 0) = false := by simpa using h0
  by_cases h1 : k = 1
  · subst h1
    have HP := hide (okR_of_ptrs (k := 1) (l := l) (p := p) (q := q) (.inl rfl))
    clear eA k0 h0
    go_enter Tryz.func99, Tryz.ntmps99
    go_wp2_with (go_at_call 106; refine (ptrs_any _ _ _ _ _).mono ?_; rintro e w1 ⟨rfl, B1⟩)
    all_goals go_ret
    all_goals first | (refine ⟨ret_bool ?_, by go_grown⟩; refine okR_false ?_; omega) | (refine ⟨ret_bool (HP.out ‹_› ‹_›), ((Below.refl _ w).alloc (Nat.le_refl _) _).trans (B1.mono (by simp))⟩)
  have k1 : (k == 1) = false := by simpa using h1
  by_cases h2 : k = 2
  · subst h2
    have HP := hide (okR_of_ptrs (k := 2) (l := l) (p := p) (q := q) (.inr rfl))
    clear eA k0 h0 k1 h1
    go_enter Tryz.func99, Tryz.ntmps99
    go_wp2_with (go_at_call 106; refine (ptrs_any _ _ _ _ _).mono ?_; rintro e w1 ⟨rfl, B1⟩)
    all_goals go_ret
    all_goals first | (refine ⟨ret_bool ?_, by go_grown⟩; refine okR_false ?_; omega) | (refine ⟨ret_bool (HP.out ‹_› ‹_›), ((Below.refl _ w).alloc (Nat.le_refl _) _).trans (B1.mono (by simp))⟩)
  have k2 : (k == 2) = false := by simpa using h2
  have HP := hide (okR_false (k := k) (l := l) (p := p) (q := q) (by omega))
  clear eA h0 h1 h2
  go_enter Tryz.func99, Tryz.ntmps99
  go_wp2
  go_ret
  exact ⟨ret_bool HP.out, by go_grown⟩
end Go.Proofs.YtljooldjcefkoaaGreat
/- impl.recordOf and impl.InodeOk by their contracts. -/
namespace Go.Proofs.YtljooldjcefkoaaGreat
open Go.RowKit Kit

set_option maxRecDepth 100000 in
set_option maxHeartbeats 1600000 in
theorem recordOf_two (k l p q : Int) (v : Value) (w : World) (hv : RInts w v [p, q]) :
    Calls Tryz.prog 98 #[.agg #[.int .i64 k, .int .i64 l, v]] w fun e w' => e = .returned (.tuple #[.agg #[.int .i64 k, .int .i64 l, .int .i64 p, .int .i64 q], .bool true]) ∧ Below w.heap.size w w' := by
  obtain ⟨g, off, c, rfl, hg, c0, c1⟩ := RInts.two hv
  clear hv
  have hg1 : g < w.heap.size + 1 := by omega
  have hg2 : g < w.heap.size + 1 + 1 := by omega
  go_enter Tryz.func98, Tryz.ntmps98
  go_wp2
  go_rounds 3
  refine bodyPost_ret (v := .tuple #[.agg #[.int .i64 k, .int .i64 l, .int .i64 p, .int .i64 q], .bool true]) (by simp [results, go_sem]) rfl ⟨rfl, by go_grown⟩

set_option maxRecDepth 100000 in
set_option maxHeartbeats 1600000 in
theorem recordOf_other (k l : Int) (xs : List Int) (v : Value) (w : World) (hv : RInts w v xs) (hn : xs.length ≠ 2) :
    Calls Tryz.prog 98 #[.agg #[.int .i64 k, .int .i64 l, v]] w fun e w' => e = .returned (.tuple #[.agg #[.int .i64 0, .int .i64 0, .int .i64 0, .int .i64 0], .bool false]) ∧ Below w.heap.size w w' := by
  obtain ⟨a, c, rfl, -⟩ := hv
  generalize xs.length = n at *
  have h1 : ((n : Int) != 2) = true := by simp; omega
  go_enter Tryz.func98, Tryz.ntmps98
  go_wp2
  refine bodyPost_ret (v := .tuple #[.agg #[.int .i64 0, .int .i64 0, .int .i64 0, .int .i64 0], .bool false]) (by simp [results, go_sem]) rfl ⟨rfl, by go_grown⟩

set_option maxHeartbeats 1600000 in
theorem implOk_two (k l p q : Int) (v : Value) (w : World) (hv : RInts w v [p, q]) :
    Calls Tryz.prog 85 #[.agg #[.int .i64 k, .int .i64 l, v]] w fun e w' => e = .returned (.bool (okR k l p q)) ∧ Below w.heap.size w w' := by
  have HV := hide hv
  obtain ⟨g, off, c, rfl, -⟩ := RInts.two hv
  clear hv
  go_enter Tryz.func85, Tryz.ntmps85
  go_wp2_with fail
  refine (recordOf_two k l p q _ _ (HV.out.alloc _)).mono ?_
  rintro e w1 ⟨rfl, B1⟩
  have HB1 := hide B1
  clear B1
  go_wp2_with fail
  refine (right_anyI k l p q _).mono ?_
  rintro e w2 ⟨rfl, B2⟩
  have HB2 := hide B2
  clear B2
  go_wp2
  go_ret
  have h1 : Below w.heap.size w w1 := ((Below.refl _ w).alloc (Nat.le_refl _) _).trans (HB1.out.mono (by simp))
  exact ⟨rfl, (h1.alloc h1.size _).trans (HB2.out.mono (by have := h1.size; simp; omega))⟩

set_option maxHeartbeats 1600000 in
theorem implOk_other (k l : Int) (xs : List Int) (v : Value) (w : World) (hv : RInts w v xs) (hn : xs.length ≠ 2) :
    Calls Tryz.prog 85 #[.agg #[.int .i64 k, .int .i64 l, v]] w fun e w' => e = .returned (.bool false) ∧ Below w.heap.size w w' := by
  have HV := hide hv
  obtain ⟨a, c, rfl, -⟩ := hv
  go_enter Tryz.func85, Tryz.ntmps85
  go_wp2_with fail
  refine (recordOf_other k l xs _ _ (HV.out.alloc _) hn).mono ?_
  rintro e w1 ⟨rfl, B1⟩
  have HB1 := hide B1
  clear B1
  go_wp2
  go_ret
  have h1 : Below w.heap.size w w1 := ((Below.refl _ w).alloc (Nat.le_refl _) _).trans (HB1.out.mono (by simp))
  exact ⟨rfl, h1.alloc h1.size _⟩
end Go.Proofs.YtljooldjcefkoaaGreat
/- spec.InodeText by its contract. -/
namespace Go.Proofs.YtljooldjcefkoaaGreat
open Go.RowKit Kit
/-- Four bytes as a string. -/
def quadB (a b c d : Nat) : ByteArray := ⟨#[UInt8.ofNat a, UInt8.ofNat b, UInt8.ofNat c, UInt8.ofNat d]⟩
theorem quadB_size (a b c d : Nat) : (quadB a b c d).size = 4 := rfl
theorem Tryz.u9 : Tryz.prog.underlying 9 = some .string := by kernel_rfl
theorem Tryz.u5 : Tryz.prog.underlying 5 = some (.int .u8) := by kernel_rfl
theorem conv_quad (a b c d : Nat) (ha : a < 256) (hb : b < 256) (hc : c < 256) (hd : d < 256) (W : World) (B C : Nat)
    (h0 : W.cell? ⟨B, 0, none⟩ = some (.int .u8 a)) (h1 : W.cell? ⟨B, 1, none⟩ = some (.int .u8 b)) (h2 : W.cell? ⟨B, 2, none⟩ = some (.int .u8 c)) (h3 : W.cell? ⟨B, 3, none⟩ = some (.int .u8 d)) :
    (convert 148 9 (.slice (some ⟨B, 0, none⟩) 4 C)).run Tryz.prog W = .ok (.string (quadB a b c d)) W := by
  refine run_convert_bytes_back (P := Tryz.prog) W 148 9 5 ⟨B, 0, none⟩ C [UInt8.ofNat a, UInt8.ofNat b, UInt8.ofNat c, UInt8.ofNat d] Tryz.u148 Tryz.u5 Tryz.u9 ?_
  intro j hj
  simp at hj
  match j, hj with
  | 0, _ => simp [Addr.add, h0, UInt8.toNat_ofNat']; omega
  | 1, _ => simp [Addr.add, h1, UInt8.toNat_ofNat']; omega
  | 2, _ => simp [Addr.add, h2, UInt8.toNat_ofNat']; omega
  | 3, _ => simp [Addr.add, h3, UInt8.toNat_ofNat']; omega

end Go.Proofs.YtljooldjcefkoaaGreat
/- impl.InodeText by its contract. -/
namespace Go.Proofs.YtljooldjcefkoaaGreat
open Go.RowKit Kit

theorem conv_quad4 (a b c d : Nat) (ha : a < 256) (hb : b < 256) (hc : c < 256) (hd : d < 256) (W : World) (o1 o2 o3 : Obj) :
    (convert 148 9 (.slice (some ⟨W.heap.size, 0, none⟩) 4 4)).run Tryz.prog ((((W.alloc (.cells #[.int .u8 a, .int .u8 b, .int .u8 c, .int .u8 d] 5)).alloc o1).alloc o2).alloc o3) = .ok (.string (quadB a b c d)) ((((W.alloc (.cells #[.int .u8 a, .int .u8 b, .int .u8 c, .int .u8 d] 5)).alloc o1).alloc o2).alloc o3) := by
  have K : ((((W.alloc (.cells #[.int .u8 a, .int .u8 b, .int .u8 c, .int .u8 d] 5)).alloc o1).alloc o2).alloc o3).heap[W.heap.size]? = some (.cells #[.int .u8 a, .int .u8 b, .int .u8 c, .int .u8 d] 5 (0, 0)) :=
    (Below.heap_alloc _ _ _ (by simp; omega)).trans (heap_new3 W _ _ _)
  generalize ((((W.alloc (.cells #[.int .u8 a, .int .u8 b, .int .u8 c, .int .u8 d] 5)).alloc o1).alloc o2).alloc o3) = W' at *
  exact conv_quad a b c d ha hb hc hd W' _ _ (by simp [World.cell?, K]) (by simp [World.cell?, K]) (by simp [World.cell?, K]) (by simp [World.cell?, K])

end Go.Proofs.YtljooldjcefkoaaGreat
