
/- spec.InodeNew and (impl.inodeRecord).inode by their contracts. -/
import Derived.Test.YtgjbenbodegnjaaCom
import Derived.Test.YtgjbenbodegnjaaIIn
import Derived.Handy
namespace Go.Proofs.Ytgjbenbodegnjaa.Kit
open Go.RowKit
theorem ROwns.form2 {w : World} {base : Nat} {e : TypeId} {v : Value} {p q : Int} (h : ROwns w base e v (ic [p, q])) : ∃ a c, v = .slice a 2 c := by
  obtain ⟨a, c, h1, _⟩ := h.form
  exact ⟨a, c, h1⟩
theorem heap_new2 (w : World) (o o2 : Obj) : ((w.alloc o).alloc o2).heap[w.heap.size]? = some o := (Below.heap_alloc _ _ _ (by simp)).trans (heap_new w o)
theorem heap_new3 (w : World) (o o2 o3 : Obj) : (((w.alloc o).alloc o2).alloc o3).heap[w.heap.size]? = some o := (Below.heap_alloc _ _ _ (by simp; omega)).trans (heap_new2 w o o2)
end Go.Proofs.Ytgjbenbodegnjaa.Kit
namespace Go.Proofs.Ytgjbenbodegnjaa
open Go.RowKit Kit
theorem Try.u59 : Try.prog.underlying 59 = some (.slice 3) := by kernel_rfl
theorem Try.i3 : (Try.prog.info? 3).map (fun i => (i.zero, i.size, i.bytes)) = some (some (.int .i64 0), 1, 8) := by kernel_rfl
theorem make22 (w : World) : (Instr.makeSlice 59 (.int .i64 2) (.int .i64 2)).run Try.prog w = .ok (.slice (some ⟨w.heap.size, 0, none⟩) 2 2) (w.alloc (.cells #[.int .i64 0, .int .i64 0] 3)) := by
  obtain ⟨i0, hi, hz0, hz1, hz2⟩ := info_parts Try.i3
  rw [run_make w 59 3 i0 (.int .i64 0) Try.u59 hi hz0 .i64 .i64 2 2 (by decide) (by decide) (by rw [hz2]; decide) (by decide), hz1]
  have e1 : ∀ (z : Value) n (l : List Value), List.replicate n z = l → madeCells #[z] n = l.toArray := fun z n l h => Array.toList_inj.1 (by rw [toList_madeCells_one, h])
  rw [show Value.cells _ = #[_] from rfl, e1 _ _ _ rfl]
  rfl
theorem make02 (w : World) : (Instr.makeSlice 59 (.int .i64 0) (.int .i64 2)).run Try.prog w = .ok (.slice (some ⟨w.heap.size, 0, none⟩) 0 2) (w.alloc (.cells #[.int .i64 0, .int .i64 0] 3)) := by
  obtain ⟨i0, hi, hz0, hz1, hz2⟩ := info_parts Try.i3
  rw [run_make w 59 3 i0 (.int .i64 0) Try.u59 hi hz0 .i64 .i64 0 2 (by decide) (by decide) (by rw [hz2]; decide) (by decide), hz1]
  have e1 : ∀ (z : Value) n (l : List Value), List.replicate n z = l → madeCells #[z] n = l.toArray := fun z n l h => Array.toList_inj.1 (by rw [toList_madeCells_one, h])
  rw [show Value.cells _ = #[_] from rfl, e1 _ _ _ rfl]
  rfl
/-- The links of a new inode. -/
def newLinks (k : Int) : Int := if k = 0 then 0 else 1

end Go.Proofs.Ytgjbenbodegnjaa
