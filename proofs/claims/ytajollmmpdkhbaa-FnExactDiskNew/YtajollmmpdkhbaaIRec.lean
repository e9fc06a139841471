
/- spec.InodeNew and (impl.inodeRecord).inode by their contracts. -/
import Derived.Test.YtajollmmpdkhbaaCom
import Derived.Test.YtajollmmpdkhbaaIIn
import Derived.Handy
namespace Go.Proofs.Ytajollmmpdkhbaa.Kit
open Go.RowKit
theorem ROwns.form2 {w : World} {base : Nat} {e : TypeId} {v : Value} {p q : Int} (h : ROwns w base e v (ic [p, q])) : ∃ a c, v = .slice a 2 c := by
  obtain ⟨a, c, h1, _⟩ := h.form
  exact ⟨a, c, h1⟩
theorem heap_new2 (w : World) (o o2 : Obj) : ((w.alloc o).alloc o2).heap[w.heap.size]? = some o := (Below.heap_alloc _ _ _ (by simp)).trans (heap_new w o)
theorem heap_new3 (w : World) (o o2 o3 : Obj) : (((w.alloc o).alloc o2).alloc o3).heap[w.heap.size]? = some o := (Below.heap_alloc _ _ _ (by simp; omega)).trans (heap_new2 w o o2)
end Go.Proofs.Ytajollmmpdkhbaa.Kit
namespace Go.Proofs.Ytajollmmpdkhbaa
open Go.RowKit Kit
theorem Try.u47 : Try.prog.underlying 47 = some (.slice 3) := by kernel_rfl
theorem Try.i3 : (Try.prog.info? 3).map (fun i => (i.zero, i.size, i.bytes)) = some (some (.int .i64 0), 1, 8) := by kernel_rfl
theorem make22 (w : World) : (Instr.makeSlice 47 (.int .i64 2) (.int .i64 2)).run Try.prog w = .ok (.slice (some ⟨w.heap.size, 0, none⟩) 2 2) (w.alloc (.cells #[.int .i64 0, .int .i64 0] 3)) := by
  obtain ⟨i0, hi, hz0, hz1, hz2⟩ := info_parts Try.i3
  rw [run_make w 47 3 i0 (.int .i64 0) Try.u47 hi hz0 .i64 .i64 2 2 (by decide) (by decide) (by rw [hz2]; decide) (by decide), hz1]
  have e1 : ∀ (z : Value) n (l : List Value), List.replicate n z = l → madeCells #[z] n = l.toArray := fun z n l h => Array.toList_inj.1 (by rw [toList_madeCells_one, h])
  rw [show Value.cells _ = #[_] from rfl, e1 _ _ _ rfl]
  rfl
theorem make02 (w : World) : (Instr.makeSlice 47 (.int .i64 0) (.int .i64 2)).run Try.prog w = .ok (.slice (some ⟨w.heap.size, 0, none⟩) 0 2) (w.alloc (.cells #[.int .i64 0, .int .i64 0] 3)) := by
  obtain ⟨i0, hi, hz0, hz1, hz2⟩ := info_parts Try.i3
  rw [run_make w 47 3 i0 (.int .i64 0) Try.u47 hi hz0 .i64 .i64 0 2 (by decide) (by decide) (by rw [hz2]; decide) (by decide), hz1]
  have e1 : ∀ (z : Value) n (l : List Value), List.replicate n z = l → madeCells #[z] n = l.toArray := fun z n l h => Array.toList_inj.1 (by rw [toList_madeCells_one, h])
  rw [show Value.cells _ = #[_] from rfl, e1 _ _ _ rfl]
  rfl
theorem make04 (w : World) : (Instr.makeSlice 106 (.int .i64 0) (.int .i64 4)).run Try.prog w = .ok (.slice (some ⟨w.heap.size, 0, none⟩) 0 4) (w.alloc (.cells #[.int .u8 0, .int .u8 0, .int .u8 0, .int .u8 0] 5)) := by
  obtain ⟨i0, hi, hz0, hz1, hz2⟩ := info_parts Try.i5
  rw [run_make w 106 5 i0 (.int .u8 0) Try.u106 hi hz0 .i64 .i64 0 4 (by decide) (by decide) (by rw [hz2]; decide) (by decide), hz1]
  have e1 : ∀ (z : Value) n (l : List Value), List.replicate n z = l → madeCells #[z] n = l.toArray := fun z n l h => Array.toList_inj.1 (by rw [toList_madeCells_one, h])
  rw [show Value.cells _ = #[_] from rfl, e1 _ _ _ rfl]
  rfl
theorem Try.u79 : Try.prog.underlying 79 = some (.array 2 3) := by kernel_rfl
theorem arr0 (p q : Int) (w : World) : (Instr.index 79 (.agg #[.int .i64 p, .int .i64 q]) (.int .i64 0)).run Try.prog w = .ok (.int .i64 p) w := by
  obtain ⟨i0, hi, hz0, hz1, hz2⟩ := info_parts Try.i3
  simp [Instr.index, run_underlying Try.u79, asIntOf, go_sem, sizeOf, typeInfo, hi, hz1, part]
theorem arr1 (p q : Int) (w : World) : (Instr.index 79 (.agg #[.int .i64 p, .int .i64 q]) (.int .i64 1)).run Try.prog w = .ok (.int .i64 q) w := by
  obtain ⟨i0, hi, hz0, hz1, hz2⟩ := info_parts Try.i3
  simp [Instr.index, run_underlying Try.u79, asIntOf, go_sem, sizeOf, typeInfo, hi, hz1, part]
/-- The links of a new inode. -/
def newLinks (k : Int) : Int := if k = 0 then 0 else 1

set_option maxHeartbeats 800000 in
theorem specNew_anyI (k : Int) (w : World) :
    Calls Try.prog 21 #[.int .i64 k] w fun e w' => ∃ v, e = .returned (.agg #[.int .i64 k, .int .i64 (newLinks k), v]) ∧ ROwns w' w.heap.size 3 v (ic [0, 0]) ∧ Below w.heap.size w w' := by
  have mk := make22
  have own : ∀ o1 o2, ROwns (((w.alloc o1).alloc (.cells #[.int .i64 0, .int .i64 0] 3)).alloc o2) w.heap.size 3 (.slice (some ⟨w.heap.size + 1, 0, none⟩) 2 2) (ic [0, 0]) := fun o1 o2 => by
    have := (ROwns.lit (w.alloc o1) w.heap.size 3 #[.int .i64 0, .int .i64 0] (by simp) (by simp [maxLen])).alloc o2
    simpa [ic] using this
  have bel : ∀ o1 o2 o3, Below w.heap.size w (((w.alloc o1).alloc o2).alloc o3) := fun o1 o2 o3 => (((Below.refl _ w).alloc (Nat.le_refl _) _).alloc (by simp) _).alloc (by simp; omega) _
  have HO := hide own
  have HB := hide bel
  clear own bel
  by_cases h : k = 0
  · subst h
    go_enter Try.func21, Try.ntmps21
    go_wp2
    refine bodyPost_ret (v := .agg #[.int .i64 0, .int .i64 0, .slice (some ⟨w.heap.size + 1, 0, none⟩) 2 2]) (by simp [results, go_sem]) rfl ⟨_, rfl, HO.out _ _, HB.out _ _ _⟩
  · have h0 : (k == 0) = false := by simpa using h
    have e1 : newLinks k = 1 := by simp [newLinks, h]
    rw [e1]
    clear e1
    go_enter Try.func21, Try.ntmps21
    go_wp2
    refine bodyPost_ret (v := .agg #[.int .i64 k, .int .i64 1, .slice (some ⟨w.heap.size + 1, 0, none⟩) 2 2]) (by simp [results, go_sem]) rfl ⟨_, rfl, HO.out _ _, HB.out _ _ _⟩

set_option maxHeartbeats 800000 in
theorem rec_any (k l p q : Int) (w : World) :
    Calls Try.prog 57 #[.agg #[.int .i64 k, .int .i64 l, .int .i64 p, .int .i64 q]] w fun e w' => ∃ v, e = .returned (.agg #[.int .i64 k, .int .i64 l, v]) ∧ ROwns w' w.heap.size 3 v (ic [p, q]) ∧ Below w.heap.size w w' := by
  have mk := make02
  have a0 := arr0 p q
  have a1 := arr1 p q
  go_enter Try.func57, Try.ntmps57
  go_wp2
  go_rounds 3
  refine bodyPost_ret (v := .agg #[.int .i64 k, .int .i64 l, .slice (some ⟨w.heap.size + 1 + 1, 0, none⟩) 2 2]) (by simp [results, go_sem]) rfl ⟨_, rfl, ?_, by go_grown⟩
  have := ((ROwns.lit ((w.alloc (Obj.cells #[.int .i64 k, .int .i64 l, .int .i64 p, .int .i64 q] 81)).alloc (Obj.cells #[.int .i64 k, .int .i64 l, .slice (some ⟨w.heap.size + 1 + 1, 0, none⟩) 2 2] 49)) w.heap.size 3 #[.int .i64 p, .int .i64 q] (by simp; omega) (by simp [maxLen])).alloc (Obj.cells #[.int .i64 p] 3)).alloc (Obj.cells #[.int .i64 q] 3)
  simpa [ic] using this

end Go.Proofs.Ytajollmmpdkhbaa
