
/- Rows of structs of three cells, one of which is a slice with a block of its own: how they lie, how they are read. No Go function is spoken of. -/
import Derived.Test.YtgjbenbodegnjaaCom
import Derived.Test.YtgjbenbodegnjaaKSl
import Derived.Test.YtgjbenbodegnjaaKAt
import Derived.Test.YtgjbenbodegnjaaIEq
import Derived.Test.YtgjbenbodegnjaaBEq
import Derived.Deep.OwnRows
namespace Go.Proofs.Ytgjbenbodegnjaa.Kit
open Go.RowKit
/-- Three cells. -/
abbrev V3 := Value × Value × Value
/-- Structs of three cells each, as cells. -/
def f3 : List V3 → List Value
  | [] => []
  | t :: r => t.1 :: t.2.1 :: t.2.2 :: f3 r
theorem f3_length (ts : List V3) : (f3 ts).length = ts.length * 3 := by
  induction ts with
  | nil => rfl
  | cons s r ih => simp [f3, ih]; omega
theorem f3_append (a b : List V3) : f3 (a ++ b) = f3 a ++ f3 b := by
  induction a with
  | nil => rfl
  | cons s r ih => simp [f3, ih]
theorem f3_at (ts : List V3) (j : Nat) (h : j < ts.length) : (f3 ts)[j * 3]? = some ts[j].1 ∧ (f3 ts)[j * 3 + 1]? = some ts[j].2.1 ∧ (f3 ts)[j * 3 + 2]? = some ts[j].2.2 := by
  induction ts generalizing j with
  | nil => simp at h
  | cons s r ih =>
    cases j with
    | zero => exact ⟨rfl, rfl, rfl⟩
    | succ j =>
      rw [show (j + 1) * 3 = j * 3 + 1 + 1 + 1 by omega, show j * 3 + 1 + 1 + 1 + 1 = j * 3 + 1 + 1 + 1 + 1 from rfl, show j * 3 + 1 + 1 + 1 + 2 = j * 3 + 2 + 1 + 1 + 1 by omega]
      simp only [f3, List.getElem?_cons_succ, List.getElem_cons_succ]
      exact ih j (by simpa using h)
theorem f3_set0 (ts : List V3) (j : Nat) (x : Value) (h : j < ts.length) : (f3 ts).set (j * 3) x = f3 (ts.set j (x, ts[j].2.1, ts[j].2.2)) := by
  induction ts generalizing j with
  | nil => simp at h
  | cons s r ih =>
    cases j with
    | zero => rfl
    | succ j =>
      rw [show (j + 1) * 3 = j * 3 + 1 + 1 + 1 by omega]
      simp only [f3, List.set_cons_succ, List.getElem_cons_succ]
      rw [ih j (by simpa using h)]
theorem f3_set1 (ts : List V3) (j : Nat) (x : Value) (h : j < ts.length) : (f3 ts).set (j * 3 + 1) x = f3 (ts.set j (ts[j].1, x, ts[j].2.2)) := by
  induction ts generalizing j with
  | nil => simp at h
  | cons s r ih =>
    cases j with
    | zero => rfl
    | succ j =>
      rw [show (j + 1) * 3 + 1 = j * 3 + 1 + 1 + 1 + 1 by omega]
      simp only [f3, List.set_cons_succ, List.getElem_cons_succ]
      rw [ih j (by simpa using h)]
theorem f3_set2 (ts : List V3) (j : Nat) (x : Value) (h : j < ts.length) : (f3 ts).set (j * 3 + 2) x = f3 (ts.set j (ts[j].1, ts[j].2.1, x)) := by
  induction ts generalizing j with
  | nil => simp at h
  | cons s r ih =>
    cases j with
    | zero => rfl
    | succ j =>
      rw [show (j + 1) * 3 + 2 = j * 3 + 2 + 1 + 1 + 1 by omega]
      simp only [f3, List.set_cons_succ, List.getElem_cons_succ]
      rw [ih j (by simpa using h)]
theorem f3_set (ts : List V3) (j : Nat) (x y z : Value) (h : j < ts.length) : (((f3 ts).set (j * 3) x).set (j * 3 + 1) y).set (j * 3 + 2) z = f3 (ts.set j (x, y, z)) := by
  rw [f3_set0 ts j x h, f3_set1 _ j y (by simpa using h), f3_set2 _ j z (by simpa using h)]
  simp
/-- The slice value v owns the structs ts (element type e). -/
def TOwns (w : World) (e : TypeId) (v : Value) (ts : List V3) : Prop := w.ownsRow 0 e 3 v ts.length (f3 ts)
theorem TOwns.lt {w : World} {e : TypeId} {v : Value} {l : List V3} (h : TOwns w e v l) : ∀ k, v.ownBlock = some k → k < w.heap.size := fun k hk => (World.ownsRow.lt h k hk).2
theorem TOwns.of_heap {w w' : World} {e : TypeId} {v : Value} {l : List V3} (h : TOwns w e v l) (hh : ∀ k, v.ownBlock = some k → w'.heap[k]? = w.heap[k]?) : TOwns w' e v l := by
  refine ⟨h.1, ?_⟩
  rcases h.2 with h1 | ⟨g, cap, cur, h1, h2, h3, h4⟩
  · exact .inl h1
  · exact .inr ⟨g, cap, cur, h1, h2, by rw [hh g (by rw [h1]; rfl), h3], h4⟩
theorem TOwns.nil (w : World) (e : TypeId) : TOwns w e (.slice none 0 0) [] := World.ownsRow_nil _ _ _ _
theorem TOwns.lit (w : World) (e : TypeId) (cs : Array Value) (ts : List V3) (hc : cs.toList = f3 ts) (hm : ts.length ≤ maxLen) : TOwns (w.alloc (.cells cs e)) e (.slice (some ⟨w.heap.size, 0, none⟩) ts.length ts.length) ts := by
  have h1 : cs.size = ts.length * 3 := by rw [← Array.length_toList, hc, f3_length]
  have := World.ownsRow_lit (base := 0) (e := e) (size := 3) w cs ts.length (Nat.zero_le _) hm h1
  unfold TOwns
  rwa [hc] at this
theorem TOwns.form {w : World} {e : TypeId} {v : Value} {l : List V3} (h : TOwns w e v l) : ∃ a cap, v = .slice a l.length cap ∧ l.length ≤ cap ∧ (a = none → l = []) := by
  rcases h.2 with ⟨rfl, h0⟩ | ⟨g, cap, cur, rfl, _, _, hc, _⟩
  · exact ⟨none, 0, by rw [h0], by omega, fun _ => List.length_eq_zero_iff.1 h0⟩
  · exact ⟨_, _, rfl, hc, fun h => by cases h⟩
theorem TOwns.at {w : World} {e : TypeId} {v : Value} {l : List V3} (h : TOwns w e v l) (k : Nat) (hk : k < l.length) :
    ∃ g cap, v = .slice (some ⟨g, 0, none⟩) l.length cap ∧ w.cell? ⟨g, k * 3, none⟩ = some l[k].1 ∧ w.cell? ⟨g, k * 3 + 1, none⟩ = some l[k].2.1 ∧ w.cell? ⟨g, k * 3 + 2, none⟩ = some l[k].2.2 ∧ (∀ j, w.frozen? ⟨g, j, none⟩ = false) ∧ g < w.heap.size ∧ l.length ≤ cap := by
  have hlt := h.lt
  rcases h.2 with ⟨h1, h0⟩ | ⟨g, cap, cur, rfl, h2, h3, h4, h5, h6, h7⟩
  · omega
  · have h' : w.ownsRow 0 e 3 (.slice (some ⟨g, 0, none⟩) l.length cap) l.length (f3 l) := h
    exact ⟨g, cap, rfl, (h'.cellAt _ (by omega)).trans (f3_at l k hk).1, (h'.cellAt _ (by omega)).trans (f3_at l k hk).2.1, (h'.cellAt _ (by omega)).trans (f3_at l k hk).2.2, h'.frozenAt, hlt g rfl, h4⟩
theorem TOwns.set0 {w : World} {g cap : Nat} {e : TypeId} {l : List V3} (h : TOwns w e (.slice (some ⟨g, 0, none⟩) l.length cap) l) (k : Nat) (hk : k < l.length) (x : Value) :
    TOwns (w.setCell ⟨g, k * 3, none⟩ x) e (.slice (some ⟨g, 0, none⟩) l.length cap) (l.set k (x, l[k].2.1, l[k].2.2)) := by
  unfold TOwns
  rw [List.length_set, ← f3_set0 l k x hk]
  exact (World.ownsRow.stored h (k * 3) x).1
theorem TOwns.set1 {w : World} {g cap : Nat} {e : TypeId} {l : List V3} (h : TOwns w e (.slice (some ⟨g, 0, none⟩) l.length cap) l) (k : Nat) (hk : k < l.length) (x : Value) :
    TOwns (w.setCell ⟨g, k * 3 + 1, none⟩ x) e (.slice (some ⟨g, 0, none⟩) l.length cap) (l.set k (l[k].1, x, l[k].2.2)) := by
  unfold TOwns
  rw [List.length_set, ← f3_set1 l k x hk]
  exact (World.ownsRow.stored h (k * 3 + 1) x).1
theorem TOwns.set2 {w : World} {g cap : Nat} {e : TypeId} {l : List V3} (h : TOwns w e (.slice (some ⟨g, 0, none⟩) l.length cap) l) (k : Nat) (hk : k < l.length) (x : Value) :
    TOwns (w.setCell ⟨g, k * 3 + 2, none⟩ x) e (.slice (some ⟨g, 0, none⟩) l.length cap) (l.set k (l[k].1, l[k].2.1, x)) := by
  unfold TOwns
  rw [List.length_set, ← f3_set2 l k x hk]
  exact (World.ownsRow.stored h (k * 3 + 2) x).1
theorem TOwns.set {w : World} {g cap : Nat} {e : TypeId} {l : List V3} (h : TOwns w e (.slice (some ⟨g, 0, none⟩) l.length cap) l) (k : Nat) (hk : k < l.length) (x y z : Value) :
    TOwns (((w.setCell ⟨g, k * 3, none⟩ x).setCell ⟨g, k * 3 + 1, none⟩ y).setCell ⟨g, k * 3 + 2, none⟩ z) e (.slice (some ⟨g, 0, none⟩) l.length cap) (l.set k (x, y, z)) := by
  have h1 := h.set0 k hk x
  have h2 : TOwns (w.setCell ⟨g, k * 3, none⟩ x) e (.slice (some ⟨g, 0, none⟩) (l.set k (x, l[k].2.1, l[k].2.2)).length cap) (l.set k (x, l[k].2.1, l[k].2.2)) := by rw [List.length_set]; exact h1
  have h3 := h2.set1 k (by simpa using hk) y
  simp only [List.length_set, List.getElem_set_self, List.set_set] at h3
  have h4 : TOwns ((w.setCell ⟨g, k * 3, none⟩ x).setCell ⟨g, k * 3 + 1, none⟩ y) e (.slice (some ⟨g, 0, none⟩) (l.set k (x, y, l[k].2.2)).length cap) (l.set k (x, y, l[k].2.2)) := by rw [List.length_set]; exact h3
  have h5 := h4.set2 k (by simpa using hk) z
  simp only [List.length_set, List.getElem_set_self, List.set_set] at h5
  exact h5
/-- Only blocks of S have changed, and new ones have come. -/
structure Chg (S : Nat → Prop) (w w' : World) : Prop where
  os : w'.os = w.os
  tape : w'.tape = w.tape
  output : w'.output = w.output
  size : w.heap.size ≤ w'.heap.size
  block : ∀ k, k < w.heap.size → ¬ S k → w'.heap[k]? = w.heap[k]?
theorem Chg.refl (S : Nat → Prop) (w : World) : Chg S w w := ⟨rfl, rfl, rfl, Nat.le_refl _, fun _ _ _ => rfl⟩
theorem Chg.trans {S : Nat → Prop} {a b c : World} (h : Chg S a b) (k : Chg S b c) : Chg S a c :=
  ⟨k.os.trans h.os, k.tape.trans h.tape, k.output.trans h.output, Nat.le_trans h.size k.size, fun i hi hr => (k.block i (by have := h.size; omega) hr).trans (h.block i hi hr)⟩
theorem Chg.mono {S S' : Nat → Prop} {a b : World} (h : Chg S a b) (hs : ∀ k, S k → S' k) : Chg S' a b := ⟨h.os, h.tape, h.output, h.size, fun k hk hn => h.block k hk fun e => hn (hs k e)⟩
theorem Chg.of_below {S : Nat → Prop} {a b : World} (h : Below a.heap.size a b) : Chg S a b := ⟨h.os, h.tape, h.output, h.size, fun k hk _ => h.block k hk⟩
theorem Chg.of_grown {S : Nat → Prop} {a b : World} {row : Option Nat} (h : a.grownBy b row) (hr : ∀ k, row = some k → S k) : Chg S a b := ⟨h.os, h.tape, h.output, h.size, fun k hk hn => h.block k hk fun e => hn (hr k e.symm)⟩
theorem Chg.of_g2 {S : Nat → Prop} {a b : World} {r1 r2 : Option Nat} (h : G2 a b r1 r2) (h1 : ∀ k, r1 = some k → S k) (h2 : ∀ k, r2 = some k → S k) : Chg S a b := ⟨h.os, h.tape, h.output, h.size, fun k hk hn => h.block k hk (fun e => hn (h1 k e)) (fun e => hn (h2 k e))⟩
theorem Chg.below {S : Nat → Prop} {a b : World} {B : Nat} (h : Chg S a b) (hB : B ≤ a.heap.size) (hs : ∀ k, S k → B ≤ k) : Below B a b :=
  ⟨h.os, h.tape, h.output, h.size, fun k hk => h.block k (by omega) fun e => by have := hs k e; omega⟩
theorem Chg.setCell {S : Nat → Prop} {a b : World} (h : Chg S a b) {g j : Nat} (hg : S g) (x : Value) : Chg S a (b.setCell ⟨g, j, none⟩ x) :=
  h.trans ⟨rfl, rfl, rfl, by simp, fun k _ hn => heap_setCell_other b ⟨g, j, none⟩ k x (fun e => hn (by simp at e; subst e; exact hg))⟩
/-- A kind of structs of three cells: which of the cells is the slice, how it is owned, how it is read. -/
structure Kd (α : Type) where
  T : TypeId
  p : V3 → Value
  O : World → V3 → α → Prop
  R : World → V3 → α → Prop
  heap : ∀ {w w' : World} {t : V3} {x : α}, O w t x → (∀ k, (p t).ownBlock = some k → w'.heap[k]? = w.heap[k]?) → O w' t x
  lt : ∀ {w : World} {t : V3} {x : α}, O w t x → ∀ k, (p t).ownBlock = some k → k < w.heap.size
  rd : ∀ {w : World} {t : V3} {x : α}, O w t x → R w t x
  bel : ∀ {w w' : World} {t : V3} {x : α} {B : Nat}, R w t x → Below B w w' → w.heap.size ≤ B → R w' t x
/-- The slice value v owns the structs ts, which tell xs; all blocks of it are of S. -/
structure GO {α : Type} (K : Kd α) (w : World) (S : Nat → Prop) (v : Value) (ts : List V3) (xs : List α) : Prop where
  len : ts.length = xs.length
  row : TOwns w K.T v ts
  inn : ∀ (j : Nat) (h : j < ts.length) (h' : j < xs.length), K.O w ts[j] xs[j]
  sep : ∀ (i j : Nat) (hi : i < ts.length) (hj : j < ts.length), i ≠ j → ∀ k, (K.p ts[i]).ownBlock = some k → (K.p ts[j]).ownBlock ≠ some k
  out : ∀ (j : Nat) (h : j < ts.length) (k : Nat), (K.p ts[j]).ownBlock = some k → v.ownBlock ≠ some k
  so : ∀ k, v.ownBlock = some k → S k
  si : ∀ (j : Nat) (h : j < ts.length) (k : Nat), (K.p ts[j]).ownBlock = some k → S k
namespace GO
variable {α : Type} {K : Kd α} {w w' : World} {S S' : Nat → Prop} {v : Value} {ts : List V3} {xs : List α}
theorem of_heap (h : GO K w S v ts xs) (hh : ∀ k, S k → k < w.heap.size → w'.heap[k]? = w.heap[k]?) : GO K w' S v ts xs :=
  ⟨h.len, h.row.of_heap fun k hk => hh k (h.so k hk) (h.row.lt k hk), fun j hj hj' => K.heap (h.inn j hj hj') fun k hk => hh k (h.si j hj k hk) (K.lt (h.inn j hj hj') k hk), h.sep, h.out, h.so, h.si⟩
theorem below {B : Nat} (h : GO K w S v ts xs) (hb : Below B w w') (hB : w.heap.size ≤ B) : GO K w' S v ts xs := h.of_heap fun k _ hk => hb.block k (by omega)
theorem chg (h : GO K w S v ts xs) (hc : Chg S' w w') (hd : ∀ k, S k → ¬ S' k) : GO K w' S v ts xs := h.of_heap fun k hs hk => hc.block k hk (hd k hs)
theorem alloc (h : GO K w S v ts xs) (o : Obj) : GO K (w.alloc o) S v ts xs := h.below ((Below.refl _ w).alloc (Nat.le_refl _) o) (Nat.le_refl _)
theorem drew (h : GO K w S v ts xs) : GO K w.drew S v ts xs := h.below (Below.refl w.heap.size w).drew (Nat.le_refl _)
theorem mono (h : GO K w S v ts xs) (hs : ∀ k, S k → S' k) : GO K w S' v ts xs := ⟨h.len, h.row, h.inn, h.sep, h.out, fun k e => hs k (h.so k e), fun j hj k e => hs k (h.si j hj k e)⟩
theorem form (h : GO K w S v ts xs) : ∃ a cap, v = .slice a xs.length cap := by
  obtain ⟨a, c, e, _⟩ := h.row.form
  exact ⟨a, c, by rw [e, h.len]⟩
/-- One of them is turned to another; its slice is the old one, or a new one. -/
theorem turn (h : GO K w S v ts xs) (j : Nat) (hj : j < ts.length) (t' : V3) (x' : α) (hr : TOwns w' K.T v (ts.set j t')) (hO : K.O w' t' x')
    (hf : ∀ k, k < w.heap.size → v.ownBlock ≠ some k → (K.p ts[j]).ownBlock ≠ some k → w'.heap[k]? = w.heap[k]?)
    (hn : ∀ k, (K.p t').ownBlock = some k → (K.p ts[j]).ownBlock = some k ∨ w.heap.size ≤ k) (hs : ∀ k, S k → S' k) (hs2 : ∀ k, (K.p t').ownBlock = some k → S' k) : GO K w' S' v (ts.set j t') (xs.set j x') := by
  have hl := h.len
  have hv := h.row.lt
  refine ⟨by simp [hl], hr, fun i hi hi' => ?_, fun i i2 hi hi2 hne k e1 e2 => ?_, fun i hi k e1 e2 => ?_, fun k e => hs k (h.so k e), fun i hi k e => ?_⟩
  · simp only [List.length_set] at hi hi'
    by_cases e : j = i
    · subst e
      simp only [List.getElem_set_self]
      exact hO
    · simp only [List.getElem_set_ne e]
      exact K.heap (h.inn i hi hi') fun k hk => hf k (K.lt (h.inn i hi hi') k hk) (fun e' => h.out i hi k hk e') (fun e' => h.sep i j hi hj (fun q => e q.symm) k hk e')
  · simp only [List.length_set] at hi hi2
    by_cases ei : j = i
    · subst ei
      simp only [List.getElem_set_self] at e1
      rw [List.getElem_set_ne hne] at e2
      rcases hn k e1 with q | q
      · exact h.sep j i2 hi hi2 hne k q e2
      · have := K.lt (h.inn i2 hi2 (by omega)) k e2; omega
    · rw [List.getElem_set_ne ei] at e1
      by_cases e2' : j = i2
      · subst e2'
        simp only [List.getElem_set_self] at e2
        rcases hn k e2 with q | q
        · exact h.sep i j hi hj hne k e1 q
        · have := K.lt (h.inn i hi (by omega)) k e1; omega
      · rw [List.getElem_set_ne e2'] at e2
        exact h.sep i i2 hi hi2 hne k e1 e2
  · simp only [List.length_set] at hi
    by_cases ei : j = i
    · subst ei
      simp only [List.getElem_set_self] at e1
      rcases hn k e1 with q | q
      · exact h.out j hi k q e2
      · have := hv k e2; omega
    · rw [List.getElem_set_ne ei] at e1
      exact h.out i hi k e1 e2
  · simp only [List.length_set] at hi
    by_cases ei : j = i
    · subst ei
      simp only [List.getElem_set_self] at e
      exact hs2 k e
    · rw [List.getElem_set_ne ei] at e
      exact hs k (h.si i hi k e)
end GO
/-- The slice value v reads as the structs xs. -/
def R3 {α : Type} (K : Kd α) (w : World) (v : Value) (xs : List α) : Prop := ∃ a cap, v = .slice a xs.length cap ∧ xs.length ≤ cap ∧ ∀ (j : Nat) (h : j < xs.length), ∃ g off t, a = some ⟨g, off, none⟩ ∧ g < w.heap.size ∧ w.cell? ⟨g, off + j * 3, none⟩ = some t.1 ∧ w.cell? ⟨g, off + j * 3 + 1, none⟩ = some t.2.1 ∧ w.cell? ⟨g, off + j * 3 + 2, none⟩ = some t.2.2 ∧ K.R w t xs[j]
theorem R3.below {α : Type} {K : Kd α} {w w' : World} {B : Nat} {v : Value} {xs : List α} (h : R3 K w v xs) (hb : Below B w w') (hB : w.heap.size ≤ B) : R3 K w' v xs := by
  obtain ⟨a, cap, rfl, hcap, h⟩ := h
  refine ⟨a, cap, rfl, hcap, fun j hj => ?_⟩
  obtain ⟨g, off, t, e, hg, c0, c1, c2, r⟩ := h j hj
  have hg' := Nat.lt_of_lt_of_le hg hB
  exact ⟨g, off, t, e, Nat.lt_of_lt_of_le hg hb.size, (hb.cell (p := ⟨g, off + j * 3, none⟩) hg').trans c0, (hb.cell (p := ⟨g, off + j * 3 + 1, none⟩) hg').trans c1, (hb.cell (p := ⟨g, off + j * 3 + 2, none⟩) hg').trans c2, K.bel r hb hB⟩
theorem R3.alloc {α : Type} {K : Kd α} {w : World} {v : Value} {xs : List α} (h : R3 K w v xs) (o : Obj) : R3 K (w.alloc o) v xs := h.below ((Below.refl _ w).alloc (Nat.le_refl _) o) (Nat.le_refl _)
theorem R3.drew {α : Type} {K : Kd α} {w : World} {v : Value} {xs : List α} (h : R3 K w v xs) : R3 K w.drew v xs := h.below (Below.refl w.heap.size w).drew (Nat.le_refl _)
theorem R3.form {α : Type} {K : Kd α} {w : World} {v : Value} {xs : List α} (h : R3 K w v xs) : ∃ a c, v = .slice a xs.length c := by
  obtain ⟨a, c, h, _⟩ := h
  exact ⟨a, c, h⟩
theorem R3.form2 {α : Type} {K : Kd α} {w : World} {v : Value} {xs : List α} (h : R3 K w v xs) : ∃ a c, v = .slice a xs.length c ∧ xs.length ≤ c := by
  obtain ⟨a, c, h, h2, _⟩ := h
  exact ⟨a, c, h, h2⟩
theorem GO.r3 {α : Type} {K : Kd α} {w : World} {S : Nat → Prop} {v : Value} {ts : List V3} {xs : List α} (h : GO K w S v ts xs) : R3 K w v xs := by
  obtain ⟨a, cap, e, hc, hnil⟩ := h.row.form
  have hl := h.len
  refine ⟨a, cap, by rw [e, hl], by omega, fun j hj => ?_⟩
  obtain ⟨g, c, e1, c0, c1, c2, _, hg, _⟩ := h.row.at j (by omega)
  rw [e] at e1
  simp only [Value.slice.injEq] at e1
  obtain ⟨rfl, -, -⟩ := e1
  exact ⟨g, 0, ts[j]'(by omega), rfl, hg, by rw [Nat.zero_add]; exact c0, by rw [Nat.zero_add]; exact c1, by rw [Nat.zero_add]; exact c2, K.rd (h.inn j (by omega) hj)⟩
/-- An inode: its kind, its links, its pointers. -/
abbrev Ino := Int × Int × List Int
/-- A block: whether it has names, its slots, its text. -/
abbrev Blk := Bool × List Sl × ByteArray
/-- How inodes lie. -/
def KI : Kd Ino where
  T := 80
  p := fun t => t.2.2
  O := fun w t x => t.1 = .int .i64 x.1 ∧ t.2.1 = .int .i64 x.2.1 ∧ ROwns w 0 3 t.2.2 (ic x.2.2)
  R := fun w t x => t.1 = .int .i64 x.1 ∧ t.2.1 = .int .i64 x.2.1 ∧ RInts w t.2.2 x.2.2
  heap := fun h hh => ⟨h.1, h.2.1, h.2.2.of_heap hh⟩
  lt := fun h k hk => (h.2.2.lt k hk).2
  rd := fun h => ⟨h.1, h.2.1, h.2.2.rints⟩
  bel := fun h hb hB => ⟨h.1, h.2.1, h.2.2.below hb hB⟩
/-- How blocks lie. -/
def KB : Kd Blk where
  T := 84
  p := fun t => t.2.1
  O := fun w t x => t.1 = .bool x.1 ∧ SOwns w 0 96 t.2.1 x.2.1 ∧ t.2.2 = .string x.2.2
  R := fun w t x => t.1 = .bool x.1 ∧ RSl w t.2.1 x.2.1 ∧ t.2.2 = .string x.2.2
  heap := fun h hh => ⟨h.1, h.2.1.of_heap hh, h.2.2⟩
  lt := fun h k hk => (h.2.1.lt k hk).2
  rd := fun h => ⟨h.1, h.2.1.rsl, h.2.2⟩
  bel := fun h hb hB => ⟨h.1, h.2.1.below hb hB, h.2.2⟩
end Go.Proofs.Ytgjbenbodegnjaa.Kit
