/- Lists of nodes: rows of four cells, how they are read and owned. No Go function is spoken of. -/
import Derived.Test.YtklmaeepoijecaaRows
import Derived.Test.YtklmaeepoijecaaKitB
import Derived.Deep.QuietTactic
import Derived.BigQuiet
import Derived.Deep.OwnRows
namespace Go.Proofs.Ytklmaeepoijecaa.Kit
open Go.RowKit
/-- A node: its path, whether it is a directory, its texts. -/
abbrev Nd := ByteArray × Bool × ByteArray × ByteArray
def ndc (x : Nd) : List Value := [.string x.1, .bool x.2.1, .string x.2.2.1, .string x.2.2.2]
/-- The slice value v reads as the nodes ns. -/
def RNd (w : World) (v : Value) (ns : List Nd) : Prop := ∃ a cap, v = .slice a ns.length cap ∧ ∀ (j : Nat) (h : j < ns.length), ∃ g off, a = some ⟨g, off, none⟩ ∧ g < w.heap.size ∧ w.cell? ⟨g, off + j * 4, none⟩ = some (.string ns[j].1) ∧ w.cell? ⟨g, off + j * 4 + 1, none⟩ = some (.bool ns[j].2.1) ∧ w.cell? ⟨g, off + j * 4 + 2, none⟩ = some (.string ns[j].2.2.1) ∧ w.cell? ⟨g, off + j * 4 + 3, none⟩ = some (.string ns[j].2.2.2)
theorem RNd.below {w w' : World} {B : Nat} {v : Value} {ns : List Nd} (h : RNd w v ns) (hb : Below B w w') (hB : w.heap.size ≤ B) : RNd w' v ns := by
  obtain ⟨a, cap, rfl, h⟩ := h
  refine ⟨a, cap, rfl, fun j hj => ?_⟩
  obtain ⟨g, off, e, hg, c0, c1, c2, c3⟩ := h j hj
  have hB' : g < B := Nat.lt_of_lt_of_le hg hB
  exact ⟨g, off, e, Nat.lt_of_lt_of_le hg hb.size, (hb.cell (p := ⟨g, off + j * 4, none⟩) hB').trans c0, (hb.cell (p := ⟨g, off + j * 4 + 1, none⟩) hB').trans c1, (hb.cell (p := ⟨g, off + j * 4 + 2, none⟩) hB').trans c2, (hb.cell (p := ⟨g, off + j * 4 + 3, none⟩) hB').trans c3⟩
theorem RNd.alloc {w : World} {v : Value} {ns : List Nd} (h : RNd w v ns) (o : Obj) : RNd (w.alloc o) v ns := h.below ((Below.refl _ w).alloc (Nat.le_refl _) o) (Nat.le_refl _)
theorem RNd.drew {w : World} {v : Value} {ns : List Nd} (h : RNd w v ns) : RNd w.drew v ns := h.below (Below.refl w.heap.size w).drew (Nat.le_refl _)
theorem RNd.form {w : World} {v : Value} {ns : List Nd} (h : RNd w v ns) : ∃ a c, v = .slice a ns.length c := by
  obtain ⟨a, c, h, _⟩ := h
  exact ⟨a, c, h⟩
/-- All cells of nodes, one behind the other. -/
def ndcs (ns : List Nd) : List Value := (ns.map ndc).flatten
theorem ndcs_length (ns : List Nd) : (ndcs ns).length = ns.length * 4 := by
  induction ns with
  | nil => rfl
  | cons x r ih => simp only [ndcs, List.map_cons, List.flatten_cons, List.length_append, List.length_cons] at ih ⊢; rw [ih]; simp [ndc]; omega
theorem ndcs_at (ns : List Nd) (j i : Nat) (hj : j < ns.length) (hi : i < 4) : (ndcs ns)[j * 4 + i]? = (ndc ns[j])[i]? := by
  induction ns generalizing j with
  | nil => simp at hj
  | cons x r ih =>
    have e : ndcs (x :: r) = ndc x ++ ndcs r := by simp [ndcs]
    have l4 : (ndc x).length = 4 := rfl
    rw [e]
    cases j with
    | zero => rw [Nat.zero_mul, Nat.zero_add, List.getElem?_append_left (by omega)]; rfl
    | succ j =>
      rw [List.getElem?_append_right (by omega), show (j + 1) * 4 + i - (ndc x).length = j * 4 + i by omega]
      exact ih j (by simpa using hj)
/-- The block g holds just these cells. -/
def At (w : World) (g : Nat) (T : TypeId) (cs : List Value) : Prop := w.heap[g]? = some (.cells cs.toArray T (0, 0))
theorem At.cell {w : World} {g : Nat} {T : TypeId} {cs : List Value} (h : At w g T cs) (k : Nat) : w.cell? ⟨g, k, none⟩ = cs[k]? := by
  have h' : w.heap[g]? = some (.cells cs.toArray T (0, 0)) := h
  simp [World.cell?, h']
theorem At.frozen {w : World} {g : Nat} {T : TypeId} {cs : List Value} (h : At w g T cs) (k : Nat) : w.frozen? ⟨g, k, none⟩ = false := by
  have h' : w.heap[g]? = some (.cells cs.toArray T (0, 0)) := h
  simp [World.frozen?, h']
theorem At.lt {w : World} {g : Nat} {T : TypeId} {cs : List Value} (h : At w g T cs) : g < w.heap.size := by
  have h' : w.heap[g]? = some (.cells cs.toArray T (0, 0)) := h
  rw [Array.getElem?_eq_some_iff] at h'
  exact h'.1
theorem heap_new (w : World) (o : Obj) : (w.alloc o).heap[w.heap.size]? = some o := by
  show (w.heap.push o)[w.heap.size]? = some o
  simp
theorem At.new (w : World) (T : TypeId) (cs : List Value) : At (w.alloc (.cells cs.toArray T)) w.heap.size T cs := heap_new w _
theorem At.below {w w' : World} {g B : Nat} {T : TypeId} {cs : List Value} (h : At w g T cs) (hb : Below B w w') (hg : g < B) : At w' g T cs := (hb.block g hg).trans h
theorem At.set {w : World} {g : Nat} {T : TypeId} {cs : List Value} (h : At w g T cs) (k : Nat) (x : Value) : At (w.setCell ⟨g, k, none⟩ x) g T (cs.set k x) := by
  have h' : w.heap[g]? = some (.cells cs.toArray T (0, 0)) := h
  have := heap_setCell_same w g k cs.toArray T x h'
  simpa [At] using this
end Go.Proofs.Ytklmaeepoijecaa.Kit
