
/- A variable in a block of its own: what is known of it over calls and stores. No Go function is spoken of. -/
import Derived.Test.YthfiaihbpnlbjaaDoorKitB
import Derived.Handy
namespace Go.Proofs.YthfiaihbpnlbjaaDoor.Kit
open Go.RowKit
theorem heap_new (w : World) (o : Obj) : (w.alloc o).heap[w.heap.size]? = some o := by
  show (w.heap.push o)[w.heap.size]? = some o
  simp
/-- Block b holds the cells cs of a variable of type T. -/
def AtC (w : World) (b : Nat) (T : TypeId) (cs : Array Value) : Prop := w.heap[b]? = some (.cells cs T (0, 0))
theorem AtC.lt {w : World} {b : Nat} {T : TypeId} {cs : Array Value} (h : AtC w b T cs) : b < w.heap.size := (Array.getElem?_eq_some_iff.1 h).1
theorem AtC.new (w : World) (T : TypeId) (cs : Array Value) : AtC (w.alloc (.cells cs T)) w.heap.size T cs := heap_new w _
theorem AtC.alloc {w : World} {b : Nat} {T : TypeId} {cs : Array Value} (h : AtC w b T cs) (o : Obj) : AtC (w.alloc o) b T cs := (Below.heap_alloc _ _ _ h.lt).trans h
theorem AtC.drew {w : World} {b : Nat} {T : TypeId} {cs : Array Value} (h : AtC w b T cs) : AtC w.drew b T cs := h
theorem AtC.below {w w' : World} {b B : Nat} {T : TypeId} {cs : Array Value} (h : AtC w b T cs) (hb : Below B w w') (hB : b < B) : AtC w' b T cs := (hb.block b hB).trans h
theorem AtC.over {w w' : World} {b : Nat} {T : TypeId} {cs : Array Value} (h : AtC w b T cs) (hb : Below w.heap.size w w') : AtC w' b T cs := h.below hb h.lt
theorem AtC.grown {w w' : World} {b : Nat} {T : TypeId} {cs : Array Value} {row : Option Nat} (h : AtC w b T cs) (hg : w.grownBy w' row) (hr : row ≠ some b) : AtC w' b T cs := (hg.block b h.lt (fun e => hr e.symm)).trans h
theorem AtC.set {w : World} {b : Nat} {T : TypeId} {cs : Array Value} (h : AtC w b T cs) (k : Nat) (x : Value) : AtC (w.setCell ⟨b, k, none⟩ x) b T (cs.setIfInBounds k x) := heap_setCell_same w b k cs T x h
theorem AtC.other {w : World} {b : Nat} {T : TypeId} {cs : Array Value} (h : AtC w b T cs) {g k : Nat} (hn : b ≠ g) (x : Value) : AtC (w.setCell ⟨g, k, none⟩ x) b T cs := (heap_setCell_other w ⟨g, k, none⟩ b x hn).trans h
theorem AtC.cell {w : World} {b : Nat} {T : TypeId} {cs : Array Value} (h : AtC w b T cs) (k : Nat) : w.cell? ⟨b, k, none⟩ = cs[k]? := cell_of_row w b k cs T _ h
theorem AtC.frozen {w : World} {b : Nat} {T : TypeId} {cs : Array Value} (h : AtC w b T cs) (k : Nat) : w.frozen? ⟨b, k, none⟩ = false := frozen_of_row w b k cs T h
theorem AtC.two {w : World} {b : Nat} {T : TypeId} {x y : Value} (h : AtC w b T #[x, y]) : w.cell? ⟨b, 0, none⟩ = some x ∧ w.cell? ⟨b, 1, none⟩ = some y ∧ b < w.heap.size := ⟨h.cell 0, h.cell 1, h.lt⟩
theorem AtC.three {w : World} {b : Nat} {T : TypeId} {x y z : Value} (h : AtC w b T #[x, y, z]) : w.cell? ⟨b, 0, none⟩ = some x ∧ w.cell? ⟨b, 1, none⟩ = some y ∧ w.cell? ⟨b, 2, none⟩ = some z ∧ b < w.heap.size := ⟨h.cell 0, h.cell 1, h.cell 2, h.lt⟩
theorem AtC.frz {w : World} {b : Nat} {T : TypeId} {cs : Array Value} (h : AtC w b T cs) : w.frozen? ⟨b, 0, none⟩ = false ∧ w.frozen? ⟨b, 1, none⟩ = false ∧ w.frozen? ⟨b, 2, none⟩ = false := ⟨h.frozen 0, h.frozen 1, h.frozen 2⟩
end Go.Proofs.YthfiaihbpnlbjaaDoor.Kit
