
/- spec.BitsNew, impl.BitsNew, spec.BitsOk and impl.BitsOk by their contracts. -/
import Derived.Test.YtgjbenbodegnjaaCom
import Derived.Test.YtgjbenbodegnjaaBEq
import Derived.Handy
namespace Go.Proofs.Ytgjbenbodegnjaa
open Go.RowKit Kit
theorem made_eq (z : Value) (n : Nat) (l : List Value) (h : List.replicate n z = l) : madeCells #[z] n = l.toArray := Array.toList_inj.1 (by rw [toList_madeCells_one, h])
/-- Sixteen cells that are false. -/
def fl16 : Array Value := (fc (List.replicate 16 false)).toArray
theorem make16 (w : World) : (Instr.makeSlice 22 (.int .i64 16) (.int .i64 16)).run Try.prog w = .ok (.slice (some ⟨w.heap.size, 0, none⟩) 16 16) (w.alloc (.cells fl16 4)) := by
  have := make_fl 16 (by decide) w
  rw [made_eq _ 16 (fc (List.replicate 16 false)) (by simp [fc])] at this
  exact this
theorem make8 (w : World) : (Instr.makeSlice 22 (.int .i64 8) (.int .i64 8)).run Try.prog w = .ok (.slice (some ⟨w.heap.size, 0, none⟩) 8 8) (w.alloc (.cells #[.bool false, .bool false, .bool false, .bool false, .bool false, .bool false, .bool false, .bool false] 4)) := by
  have := make_fl 8 (by decide) w
  rw [made_eq _ 8 [.bool false, .bool false, .bool false, .bool false, .bool false, .bool false, .bool false, .bool false] rfl] at this
  exact this
/-- The flags of new bits. -/
def newX : List Bool := List.replicate 16 false
def newY : List Bool := true :: List.replicate 7 false
theorem two_new (W : World) (base gx gy : Nat) (h1 : W.heap[gx]? = some (.cells fl16 4 (0, 0))) (h2 : W.heap[gy]? = some (.cells #[.bool true, .bool false, .bool false, .bool false, .bool false, .bool false, .bool false, .bool false] 4 (0, 0))) (hx : base ≤ gx) (hy : base ≤ gy) (hne : gx ≠ gy) :
    Two W base (.slice (some ⟨gx, 0, none⟩) 16 16) (.slice (some ⟨gy, 0, none⟩) 8 8) newX newY := by
  refine ⟨⟨by simp [fc, newX], .inr ⟨gx, 16, _, by simp [fc, newX], hx, h1, ?_, ?_, ?_, ?_⟩⟩, ⟨by simp [fc, newY], .inr ⟨gy, 8, _, by simp [fc, newY], hy, h2, ?_, ?_, ?_, ?_⟩⟩, fun k e1 e2 => ?_⟩
  · simp [fc, newX]
  · unfold maxLen; decide
  · simp [fl16, fc]
  · simp [fl16, fc, newX]
  · simp [fc, newY]
  · unfold maxLen; decide
  · simp
  · simp [fc, newY]
  · simp only [Value.ownBlock, Option.some.injEq] at e1 e2
    omega

theorem heap4 (w : World) (a b c d : Obj) : ((((w.alloc a).alloc b).alloc c).alloc d).drew.heap[w.heap.size + 1]? = some b ∧ ((((w.alloc a).alloc b).alloc c).alloc d).drew.heap[w.heap.size + 1 + 1]? = some c ∧ ((((w.alloc a).alloc b).alloc c).alloc d).drew.heap[w.heap.size + 1 + 1 + 1]? = some d := by
  have e1 := heap_new (w.alloc a) b
  have e2 := heap_new ((w.alloc a).alloc b) c
  have e3 := heap_new (((w.alloc a).alloc b).alloc c) d
  rw [World.size_alloc] at e1
  rw [World.size_alloc, World.size_alloc] at e2
  rw [World.size_alloc, World.size_alloc, World.size_alloc] at e3
  exact ⟨((Below.heap_alloc _ _ _ (by simp)).trans ((Below.heap_alloc _ _ _ (by simp)).trans e1)), (Below.heap_alloc _ _ _ (by simp)).trans e2, e3⟩

/-- Bits of n blocks and m inodes are right. -/
def okB (n m : Nat) : Bool := decide (n = 16) && decide (m = 8)
theorem okB_true {n m : Nat} (h : okB n m = true) : n = 16 ∧ m = 8 := by simpa [okB] using h

end Go.Proofs.Ytgjbenbodegnjaa
