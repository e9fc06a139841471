
/- Slots: how they lie in memory, and the model of what is asked of them. No Go function is spoken of. -/
import Derived.Test.YtgjbenbodegnjaaCom
import Derived.Test.YtgjbenbodegnjaaKitB
namespace Go.Proofs.Ytgjbenbodegnjaa.Kit
open Go.RowKit
/-- A slot: its name, its number. -/
abbrev Sl := ByteArray × Int
/-- Slots as cells, two each. -/
def sc : List Sl → List Value
  | [] => []
  | s :: r => .string s.1 :: .int .i64 s.2 :: sc r
theorem sc_length (xs : List Sl) : (sc xs).length = xs.length * 2 := by
  induction xs with
  | nil => rfl
  | cons s r ih => simp [sc, ih]; omega
theorem sc_append (a b : List Sl) : sc (a ++ b) = sc a ++ sc b := by
  induction a with
  | nil => rfl
  | cons s r ih => simp [sc, ih]
theorem sc_name (xs : List Sl) (j : Nat) (h : j < xs.length) : (sc xs)[j * 2]? = some (.string xs[j].1) := by
  induction xs generalizing j with
  | nil => simp at h
  | cons s r ih =>
    cases j with
    | zero => rfl
    | succ j =>
      rw [show (j + 1) * 2 = j * 2 + 1 + 1 by omega]
      simp only [sc, List.getElem?_cons_succ, List.getElem_cons_succ]
      exact ih j (by simpa using h)
theorem sc_ino (xs : List Sl) (j : Nat) (h : j < xs.length) : (sc xs)[j * 2 + 1]? = some (.int .i64 xs[j].2) := by
  induction xs generalizing j with
  | nil => simp at h
  | cons s r ih =>
    cases j with
    | zero => rfl
    | succ j =>
      rw [show (j + 1) * 2 + 1 = j * 2 + 1 + 1 + 1 by omega]
      simp only [sc, List.getElem?_cons_succ, List.getElem_cons_succ]
      exact ih j (by simpa using h)
theorem sc_set_name (xs : List Sl) (j : Nat) (t : ByteArray) (h : j < xs.length) : (sc xs).set (j * 2) (.string t) = sc (xs.set j (t, xs[j].2)) := by
  induction xs generalizing j with
  | nil => simp at h
  | cons s r ih =>
    cases j with
    | zero => rfl
    | succ j =>
      rw [show (j + 1) * 2 = j * 2 + 1 + 1 by omega]
      simp only [sc, List.set_cons_succ, List.getElem_cons_succ]
      rw [ih j (by simpa using h)]
theorem sc_set_ino (xs : List Sl) (j : Nat) (z : Int) (h : j < xs.length) : (sc xs).set (j * 2 + 1) (.int .i64 z) = sc (xs.set j (xs[j].1, z)) := by
  induction xs generalizing j with
  | nil => simp at h
  | cons s r ih =>
    cases j with
    | zero => rfl
    | succ j =>
      rw [show (j + 1) * 2 + 1 = j * 2 + 1 + 1 + 1 by omega]
      simp only [sc, List.set_cons_succ, List.getElem_cons_succ]
      rw [ih j (by simpa using h)]
theorem sc_set (xs : List Sl) (j : Nat) (t : ByteArray) (z : Int) (h : j < xs.length) : ((sc xs).set (j * 2) (.string t)).set (j * 2 + 1) (.int .i64 z) = sc (xs.set j (t, z)) := by
  rw [sc_set_name xs j t h, sc_set_ino _ j z (by simpa using h)]
  simp
/-- The slice value v owns the slots xs (element type e), in blocks from 'base' on. -/
def SOwns (w : World) (base : Nat) (e : TypeId) (v : Value) (xs : List Sl) : Prop := w.ownsRow base e 2 v xs.length (sc xs)
theorem SOwns.alloc {w : World} {base : Nat} {e : TypeId} {v : Value} {l : List Sl} (h : SOwns w base e v l) (o : Obj) : SOwns (w.alloc o) base e v l := World.ownsRow.alloc h o
theorem SOwns.drew {w : World} {base : Nat} {e : TypeId} {v : Value} {l : List Sl} (h : SOwns w base e v l) : SOwns w.drew base e v l := World.ownsRow.drew h
theorem SOwns.nil (w : World) (base : Nat) (e : TypeId) : SOwns w base e (.slice none 0 0) [] := World.ownsRow_nil _ _ _ _
theorem SOwns.lit (w : World) (base : Nat) (e : TypeId) (cs : Array Value) (xs : List Sl) (hc : cs.toList = sc xs) (hb : base ≤ w.heap.size) (hm : xs.length ≤ maxLen) : SOwns (w.alloc (.cells cs e)) base e (.slice (some ⟨w.heap.size, 0, none⟩) xs.length xs.length) xs := by
  have h1 : cs.size = xs.length * 2 := by rw [← Array.length_toList, hc, sc_length]
  have := World.ownsRow_lit (base := base) (e := e) (size := 2) w cs xs.length hb hm h1
  unfold SOwns
  rwa [hc] at this
theorem SOwns.lt {w : World} {base : Nat} {e : TypeId} {v : Value} {l : List Sl} (h : SOwns w base e v l) : ∀ k, v.ownBlock = some k → base ≤ k ∧ k < w.heap.size := World.ownsRow.lt h
theorem SOwns.base_le {w : World} {base base' : Nat} {e : TypeId} {v : Value} {l : List Sl} (h : SOwns w base e v l) (hb : base' ≤ base) : SOwns w base' e v l := by
  refine ⟨h.1, ?_⟩
  rcases h.2 with h1 | ⟨g, cap, cur, h1, h2, h3⟩
  · exact .inl h1
  · exact .inr ⟨g, cap, cur, h1, by omega, h3⟩
theorem SOwns.form {w : World} {base : Nat} {e : TypeId} {v : Value} {l : List Sl} (h : SOwns w base e v l) : ∃ a cap, v = .slice a l.length cap ∧ (a = none → l = []) := by
  rcases h.2 with ⟨rfl, h0⟩ | ⟨g, cap, cur, rfl, _⟩
  · exact ⟨none, 0, by rw [h0], fun _ => List.length_eq_zero_iff.1 h0⟩
  · exact ⟨_, _, rfl, fun h => by cases h⟩
theorem SOwns.of_heap {w w' : World} {base : Nat} {e : TypeId} {v : Value} {l : List Sl} (h : SOwns w base e v l) (hh : ∀ k, v.ownBlock = some k → w'.heap[k]? = w.heap[k]?) : SOwns w' base e v l := by
  refine ⟨h.1, ?_⟩
  rcases h.2 with h1 | ⟨g, cap, cur, h1, h2, h3, h4⟩
  · exact .inl h1
  · exact .inr ⟨g, cap, cur, h1, h2, by rw [hh g (by rw [h1]; rfl), h3], h4⟩
theorem SOwns.below {w w' : World} {base B : Nat} {e : TypeId} {v : Value} {l : List Sl} (h : SOwns w base e v l) (hb : Below B w w') (hB : w.heap.size ≤ B) : SOwns w' base e v l :=
  h.of_heap fun k hk => hb.block k (by have := (h.lt k hk).2; omega)
theorem SOwns.grown {w w' : World} {base : Nat} {e : TypeId} {v : Value} {l : List Sl} {row : Option Nat} (h : SOwns w base e v l) (hg : w.grownBy w' row) (hn : ∀ k, v.ownBlock = some k → row ≠ some k) : SOwns w' base e v l :=
  h.of_heap fun k hk => hg.block k (h.lt k hk).2 (fun e => hn k hk e.symm)
theorem SOwns.setCell_other {w : World} {base : Nat} {e : TypeId} {v : Value} {l : List Sl} (h : SOwns w base e v l) {b j : Nat} (hp : v.ownBlock ≠ some b) (x : Value) : SOwns (w.setCell ⟨b, j, none⟩ x) base e v l :=
  h.of_heap fun k hk => heap_setCell_other w ⟨b, j, none⟩ k x (fun e => by simp at e; subst e; exact hp hk)
theorem SOwns.setCell_low {w : World} {base : Nat} {e : TypeId} {v : Value} {l : List Sl} (h : SOwns w base e v l) {b j : Nat} (hp : b < base) (x : Value) : SOwns (w.setCell ⟨b, j, none⟩ x) base e v l :=
  h.setCell_other (fun e => by have := (h.lt b e).1; omega) x
/-- Where the cells of what is owned lie. -/
theorem SOwns.at {w : World} {base : Nat} {e : TypeId} {v : Value} {l : List Sl} (h : SOwns w base e v l) (k : Nat) (hk : k < l.length) :
    ∃ g cap, v = .slice (some ⟨g, 0, none⟩) l.length cap ∧ w.cell? ⟨g, k * 2, none⟩ = some (.string l[k].1) ∧ w.cell? ⟨g, k * 2 + 1, none⟩ = some (.int .i64 l[k].2) ∧ (∀ j, w.frozen? ⟨g, j, none⟩ = false) ∧ base ≤ g ∧ g < w.heap.size ∧ l.length ≤ cap := by
  have hlt := h.lt
  rcases h.2 with ⟨h1, h0⟩ | ⟨g, cap, cur, rfl, h2, h3, h4, h5, h6, h7⟩
  · omega
  · have h' : w.ownsRow base e 2 (.slice (some ⟨g, 0, none⟩) l.length cap) l.length (sc l) := h
    exact ⟨g, cap, rfl, (h'.cellAt _ (by omega)).trans (sc_name l k hk), (h'.cellAt _ (by omega)).trans (sc_ino l k hk), h'.frozenAt, h2, (hlt g rfl).2, h4⟩
theorem SOwns.set_name {w : World} {base g cap : Nat} {e : TypeId} {l : List Sl} (h : SOwns w base e (.slice (some ⟨g, 0, none⟩) l.length cap) l) (k : Nat) (hk : k < l.length) (t : ByteArray) :
    SOwns (w.setCell ⟨g, k * 2, none⟩ (.string t)) base e (.slice (some ⟨g, 0, none⟩) l.length cap) (l.set k (t, l[k].2)) ∧ w.grownBy (w.setCell ⟨g, k * 2, none⟩ (.string t)) (some g) := by
  have := World.ownsRow.stored h (k * 2) (.string t)
  refine ⟨?_, this.2⟩
  unfold SOwns
  rw [List.length_set, ← sc_set_name l k t hk]
  exact this.1
theorem SOwns.set_ino {w : World} {base g cap : Nat} {e : TypeId} {l : List Sl} (h : SOwns w base e (.slice (some ⟨g, 0, none⟩) l.length cap) l) (k : Nat) (hk : k < l.length) (z : Int) :
    SOwns (w.setCell ⟨g, k * 2 + 1, none⟩ (.int .i64 z)) base e (.slice (some ⟨g, 0, none⟩) l.length cap) (l.set k (l[k].1, z)) ∧ w.grownBy (w.setCell ⟨g, k * 2 + 1, none⟩ (.int .i64 z)) (some g) := by
  have := World.ownsRow.stored h (k * 2 + 1) (.int .i64 z)
  refine ⟨?_, this.2⟩
  unfold SOwns
  rw [List.length_set, ← sc_set_ino l k z hk]
  exact this.1
theorem SOwns.set_both {w : World} {base g cap : Nat} {e : TypeId} {l : List Sl} (h : SOwns w base e (.slice (some ⟨g, 0, none⟩) l.length cap) l) (k : Nat) (hk : k < l.length) (t : ByteArray) (z : Int) :
    SOwns ((w.setCell ⟨g, k * 2, none⟩ (.string t)).setCell ⟨g, k * 2 + 1, none⟩ (.int .i64 z)) base e (.slice (some ⟨g, 0, none⟩) l.length cap) (l.set k (t, z)) ∧ w.grownBy ((w.setCell ⟨g, k * 2, none⟩ (.string t)).setCell ⟨g, k * 2 + 1, none⟩ (.int .i64 z)) (some g) := by
  have h1 := h.set_name k hk t
  have h2 : SOwns (w.setCell ⟨g, k * 2, none⟩ (.string t)) base e (.slice (some ⟨g, 0, none⟩) (l.set k (t, l[k].2)).length cap) (l.set k (t, l[k].2)) := by rw [List.length_set]; exact h1.1
  have h3 := h2.set_ino k (by simpa using hk) z
  simp only [List.length_set, List.getElem_set_self, List.set_set] at h3
  exact ⟨h3.1, grownBy_trans h1.2 h3.2⟩
/-- The slice value v reads as the slots xs. -/
def RSl (w : World) (v : Value) (xs : List Sl) : Prop := ∃ a cap, v = .slice a xs.length cap ∧ xs.length ≤ cap ∧ ∀ (j : Nat) (h : j < xs.length), ∃ g off, a = some ⟨g, off, none⟩ ∧ g < w.heap.size ∧ w.cell? ⟨g, off + j * 2, none⟩ = some (.string xs[j].1) ∧ w.cell? ⟨g, off + j * 2 + 1, none⟩ = some (.int .i64 xs[j].2)
theorem RSl.below {w w' : World} {B : Nat} {v : Value} {xs : List Sl} (h : RSl w v xs) (hb : Below B w w') (hB : w.heap.size ≤ B) : RSl w' v xs := by
  obtain ⟨a, cap, rfl, hcap, h⟩ := h
  refine ⟨a, cap, rfl, hcap, fun j hj => ?_⟩
  obtain ⟨g, off, e, hg, hc, hd⟩ := h j hj
  exact ⟨g, off, e, Nat.lt_of_lt_of_le hg hb.size, (hb.cell (p := ⟨g, off + j * 2, none⟩) (Nat.lt_of_lt_of_le hg hB)).trans hc, (hb.cell (p := ⟨g, off + j * 2 + 1, none⟩) (Nat.lt_of_lt_of_le hg hB)).trans hd⟩
theorem RSl.alloc {w : World} {v : Value} {xs : List Sl} (h : RSl w v xs) (o : Obj) : RSl (w.alloc o) v xs := h.below ((Below.refl _ w).alloc (Nat.le_refl _) o) (Nat.le_refl _)
theorem RSl.drew {w : World} {v : Value} {xs : List Sl} (h : RSl w v xs) : RSl w.drew v xs := h
theorem RSl.form {w : World} {v : Value} {xs : List Sl} (h : RSl w v xs) : ∃ a c, v = .slice a xs.length c := by
  obtain ⟨a, c, h, _⟩ := h
  exact ⟨a, c, h⟩
theorem SOwns.rsl {w : World} {base : Nat} {e : TypeId} {v : Value} {xs : List Sl} (h : SOwns w base e v xs) : RSl w v xs := by
  rcases h.2 with ⟨rfl, h0⟩ | ⟨g, cap, cur, rfl, _, _, hcap, _⟩
  · have : xs = [] := List.length_eq_zero_iff.1 h0
    subst this
    exact ⟨none, 0, rfl, Nat.le_refl _, fun j hj => absurd hj (Nat.not_lt_zero _)⟩
  · refine ⟨_, cap, rfl, hcap, fun j hj => ?_⟩
    obtain ⟨g', c', e1, k1, k2, _, _, k5, _⟩ := h.at j hj
    simp only [Value.slice.injEq, Option.some.injEq, Addr.mk.injEq] at e1
    obtain ⟨⟨rfl, -, -⟩, -, rfl⟩ := e1
    exact ⟨g, 0, rfl, k5, by rw [Nat.zero_add]; exact k1, by rw [Nat.zero_add]; exact k2⟩
end Go.Proofs.Ytgjbenbodegnjaa.Kit
