/- A result of five cells. No Go function is spoken of. -/
import Derived.Test.YthfiaihbpnlbjaaDoorRt
import Derived.Test.YthfiaihbpnlbjaaDoorAt
namespace Go.Proofs.YthfiaihbpnlbjaaDoor
open Go.RowKit Kit
theorem res5 {X : World} {b : Nat} {T : TypeId} {c0 c1 c2 c3 c4 : Value} (h : AtC X b T #[c0, c1, c2, c3, c4]) (v0 v1 v2 v3 v4 : Value) : AtC (((((X.setCell ⟨b, 0, none⟩ v0).setCell ⟨b, 1, none⟩ v1).setCell ⟨b, 2, none⟩ v2).setCell ⟨b, 3, none⟩ v3).setCell ⟨b, 4, none⟩ v4) b T #[v0, v1, v2, v3, v4] :=
  ((((h.set 0 v0).set 1 v1).set 2 v2).set 3 v3).set 4 v4
theorem Kit.AtC.five {w : World} {b : Nat} {T : TypeId} {x0 x1 x2 x3 x4 : Value} (h : AtC w b T #[x0, x1, x2, x3, x4]) : w.cell? ⟨b, 0, none⟩ = some x0 ∧ w.cell? ⟨b, 1, none⟩ = some x1 ∧ w.cell? ⟨b, 2, none⟩ = some x2 ∧ w.cell? ⟨b, 3, none⟩ = some x3 ∧ w.cell? ⟨b, 4, none⟩ = some x4 ∧ b < w.heap.size := ⟨h.cell 0, h.cell 1, h.cell 2, h.cell 3, h.cell 4, h.lt⟩
theorem Kit.AtC.frz5 {w : World} {b : Nat} {T : TypeId} {cs : Array Value} (h : AtC w b T cs) : w.frozen? ⟨b, 0, none⟩ = false ∧ w.frozen? ⟨b, 1, none⟩ = false ∧ w.frozen? ⟨b, 2, none⟩ = false ∧ w.frozen? ⟨b, 3, none⟩ = false ∧ w.frozen? ⟨b, 4, none⟩ = false := ⟨h.frozen 0, h.frozen 1, h.frozen 2, h.frozen 3, h.frozen 4⟩
theorem below_set {B : Nat} {w W : World} (h : Below B w W) (b k : Nat) (x : Value) (hb : B ≤ b) : Below B w (W.setCell ⟨b, k, none⟩ x) := h.setCell (p := ⟨b, k, none⟩) hb x
end Go.Proofs.YthfiaihbpnlbjaaDoor
