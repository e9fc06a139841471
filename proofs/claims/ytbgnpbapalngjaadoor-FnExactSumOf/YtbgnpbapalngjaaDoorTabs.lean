/- What the rows' list of variables gives the walks: the row of sixteen's cells. -/
import Derived.Test.YtbgnpbapalngjaaDoorSum
import Derived.Lib.LaidTab
import Derived.LaidSub
namespace Go.Proofs.YtbgnpbapalngjaaDoor
open Go.RowKit Kit
/-- The variable's name, as the row has it. -/
def tabName : String := Rows.fnExactSumMoreRow.named.headD ""
theorem gTab : Tryd.prog.globalNamed tabName = some 0 := by kernel_rfl
theorem gTabType : (Tryd.prog.globals[0]?).map (·.type) = some 47 := by kernel_rfl
theorem cells47 : Tryd.prog.cellsOf 47 = 16 := by kernel_rfl
theorem cells42 : Tryd.prog.cellsOf 42 = 1 := by kernel_rfl
/-- The row as a list. -/
def rowL : List Int := [0, 1166650509, 2333301018, 3466261911, 3189058079, 4221339282, 889615109, 1888477064, 3558460437, 2442158232, 1594529039, 444807554, 1779230218, 797264519, 3776954128, 2761298845]
theorem only : (Rows.fnExactSumMoreRow.laid.filter fun x => x.1 == tabName) = [(tabName, Lib.tabData .u32 rowL)] := by kernel_rfl
theorem tab_of_laid {W : World} (h : laidMetH Tryd.prog Rows.fnExactSumMoreRow.laid W) : Tab W := by
  have h1 := laidMetH.filter (fun x => x.1 == tabName) h
  rw [only] at h1
  have h2 : Lib.TabIs Tryd.prog W tabName .u32 rowL :=
    Lib.tabIs_of_head (rest := []) gTab gTabType Tryd.underlying47 Tryd.underlying42 cells42 cells47 h1
  refine ⟨?_, fun j hj => ?_⟩
  · unfold Lib.TabIs World.var? at h2
    rw [gTab] at h2
    cases hh : W.heap[0]? with
    | none => simp [hh] at h2
    | some o => exact (Array.getElem?_eq_some_iff.1 hh).1
  · rw [World.var?_cell gTab h2 j]
    have e : rowL[j]? = some (rowN j : Int) := (by decide : ∀ j : Nat, j < 16 → rowL[j]? = some (rowN j : Int)) j hj
    simp only [List.getElem?_toArray, List.getElem?_map, e, Option.map_some]
end Go.Proofs.YtbgnpbapalngjaaDoor
