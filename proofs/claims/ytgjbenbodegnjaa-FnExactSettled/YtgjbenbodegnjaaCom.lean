
/- Facts that the families of texts of this seat share. -/
import Derived.Test.YtgjbenbodegnjaaRows
import Derived.Test.YtgjbenbodegnjaaKitB
import Derived.Handy
namespace Go.Proofs.Ytgjbenbodegnjaa.Kit
open Go.RowKit
theorem ROwns.setCell_other {w : World} {base : Nat} {e : TypeId} {v : Value} {l : List Value} (h : ROwns w base e v l) {b j : Nat} (hp : b < base) (x : Value) : ROwns (w.setCell ⟨b, j, none⟩ x) base e v l :=
  h.of_heap fun k hk => heap_setCell_other w ⟨b, j, none⟩ k x (fun e => by have := (h.lt k hk).1; simp at e; omega)

theorem heap_new (w : World) (o : Obj) : (w.alloc o).heap[w.heap.size]? = some o := by
  show (w.heap.push o)[w.heap.size]? = some o
  simp

end Go.Proofs.Ytgjbenbodegnjaa.Kit
namespace Go.Proofs.Ytgjbenbodegnjaa
open Go.RowKit Kit
theorem Try.i5 : (Try.prog.info? 5).map (fun i => (i.zero, i.size, i.bytes)) = some (some (.int .u8 0), 1, 1) := by kernel_rfl

theorem ret_bool {b c : Bool} (h : b = c) : Ending.returned (.bool b) = .returned (.bool c) := by rw [h]

end Go.Proofs.Ytgjbenbodegnjaa
