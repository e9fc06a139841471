/- The card of the Go function laws.FnExactUnsealed: it returns true at every text, on every schedule, and leaves all that was in memory as it was: impl.Unsealed answers as spec.Unsealed; the row of sixteen that it lists is tied to the program's text. No condition. -/
import Derived.Test.YtbgnpbapalngjaaDoorCards
import Derived.Test.YtbgnpbapalngjaaDoorTie
import Derived.Test.YtbgnpbapalngjaaDoorTabs
import Derived.Test.YtbgnpbapalngjaaDoorLawSeal
import Derived.WalkKit
import Derived.ProofKit
import Derived.OpenShut
import Derived.ShutString
import Derived.ChangeOld
import Derived.Below
import Derived.OpenVars
import Derived.Deep.DeepHandedRow
import Derived.Lib.LaidTab
namespace Go.Proofs.YtbgnpbapalngjaaDoor.fnExactUnsealed
open Go.ChangeShapes Go.WideShapes Go.ChangeAt Go.RowKit Kit
open Go.ChangeMaps (open_string shut_string)
theorem own : ownKnob Tryd.prog.godebug = none := by kernel_rfl
theorem laidOut : laidOutB Tryd.prog = true := by kernel_rfl
theorem rowed : varsRowed Tryd.prog Rows.fnExactUnsealedSpec.vars = true := by kernel_rfl
theorem table {W : World} (h : laidMetH Tryd.prog Rows.fnExactUnsealedRow.laid W) : Tab W := tab_of_laid h
theorem contract (H : Type) (enc : TypeId × Value → H) (W : World) (base : Nat) (args : Array Value) (ds gs : List (DataW H)) (before : List MemPlace)
    (hval : ∀ (j : Nat) t v, Tryd.f7.params[j]? = some t → args[j]? = some v → Value.okWide Tryd.prog W .any base t v)
    (hW : DataW.Whole enc Tryd.prog Tryd.f7.params.toList Rows.fnExactUnsealedSpec.vars false W args.toList ds gs before) (hL : laidMetH Tryd.prog Rows.fnExactUnsealedRow.laid W) :
    Calls Tryd.prog 7 args W fun e W' => ∃ v, e = .returned v ∧ Rows.fnExactUnsealedSpec.post enc Tryd.prog Tryd.f7 false true false false W args v W' := by
  have hW' := hW
  obtain ⟨p, q, hA0, hV, rfl, hfz, hnd⟩ := hW
  have hA : DataW.TrodAll enc Tryd.prog W 0 (fun _ => true) true Tryd.f7.params.toList args.toList ds p := hA0
  rw [Tryd.params7] at hA hval
  obtain ⟨v0, vs0, d0, ds0, p0, q0, hargs0, hd0, hp0, h0, r0⟩ := trodAll_cons hA
  obtain ⟨rfl, rfl, rfl⟩ := trodAll_nil r0
  subst hd0 hp0
  obtain rfl : args = #[v0] := by cases args; simp_all
  obtain ⟨g0, t0, cs0, fu0, gd0, gp0, rfl, _, _, _, _, _⟩ := trodVars_one hV
  obtain ⟨a0, rfl, rfl, rfl, w0⟩ := open_string Tryd.underlying9 (hval 0 9 v0 rfl rfl) h0
  clear hA0
  refine (lawUnsealed a0 W (table hL)).mono fun e W' ⟨he, bel⟩ => ?_
  subst he
  exact ⟨_, rfl, _, _, _, [], _, _, hW', trodAll_mk1 (shut_bool Tryd.underlying4 _), (trodAll_cons_mk (shut_string Tryd.underlying9 w0) trodAll_mk0), Below.trodVars laidOut bel rowed hV, bel.frame _, fun h => by cases h⟩

/-- A variable's block with other cells. -/
def putCells (cs : Array Value) : Obj → Obj
  | .cells _ t frozen => .cells cs t frozen
  | o => o
/-- A world for the witness: the settled one, the variable holding what its initialiser lays. -/
theorem laidWorld (os : Os) : ∃ W0 : World, W0.os = os ∧ (W0.forCall (fun _ _ => 0) ⟨#[], #[.string ByteArray.empty], []⟩).variablesB Tryd.prog = true ∧
    ((W0.forCall (fun _ _ => 0) ⟨#[], #[.string ByteArray.empty], []⟩).heap.toList.drop Tryd.prog.globals.size).take ((begin Tryd.prog (fun _ _ => 0) default).world.heap.size - Tryd.prog.globals.size) = (begin Tryd.prog (fun _ _ => 0) default).world.heap.toList.drop Tryd.prog.globals.size ∧
    Input.okWideB Tryd.prog (W0.forCall (fun _ _ => 0) ⟨#[], #[.string ByteArray.empty], []⟩) 7 ⟨#[], #[.string ByteArray.empty], []⟩ = true ∧
    laidMet Tryd.prog Rows.fnExactUnsealedRow.laid (W0.forCall (fun _ _ => 0) ⟨#[], #[.string ByteArray.empty], []⟩).memory ∧
    ∀ {H : Type} (enc : TypeId × Value → H), DataW.whole enc Tryd.prog (W0.forCall (fun _ _ => 0) ⟨#[], #[.string ByteArray.empty], []⟩).memory Tryd.f7.params.toList Rows.fnExactUnsealedSpec.vars false #[Value.string ByteArray.empty].toList 8 = some ([.lit (.string [])], [Rows.laid_loop_example_g00235_impl_sumSteps], MemPlace.row ⟨0, 0, none⟩ 16) ∧
    ChangeSpec.sizedB enc Tryd.prog Tryd.f7 (OpenSpec.ofChange Rows.fnExactUnsealedSpec).bare false (W0.forCall (fun _ _ => 0) ⟨#[], #[.string ByteArray.empty], []⟩).memory #[.string ByteArray.empty] 8 = true :=
  ⟨{ World.holding Tryd.prog os ⟨#[], #[], []⟩ with heap := ((World.holding Tryd.prog os ⟨#[], #[], []⟩).heap.modify 0 (putCells #[.int .u32 0, .int .u32 1166650509, .int .u32 2333301018, .int .u32 3466261911, .int .u32 3189058079, .int .u32 4221339282, .int .u32 889615109, .int .u32 1888477064, .int .u32 3558460437, .int .u32 2442158232, .int .u32 1594529039, .int .u32 444807554, .int .u32 1779230218, .int .u32 797264519, .int .u32 3776954128, .int .u32 2761298845])) }, rfl, by kernel_rfl, by kernel_rfl, by kernel_rfl, laidMet_of_run' 8 (by kernel_rfl) (by kernel_rfl), fun _ => ⟨by kernel_rfl, by kernel_rfl⟩⟩

set_option maxRecDepth 100000 in
theorem lifted (os : Os) (started : os.Started) (H : Type) (enc : TypeId × Value → H) (F : Stop.Interp) :
    ReturnsInHanded {} Tryd.checked os 7 .any ((OpenSpec.ofChange Rows.fnExactUnsealedSpec).preRow enc Tryd.prog Tryd.f7 Rows.fnExactUnsealedRow.domain false Rows.fnExactUnsealedRow.laid) (((OpenSpec.ofChange Rows.fnExactUnsealedSpec).at F).post enc Tryd.prog Tryd.f7 false true false false) := by
  obtain ⟨W0, g1, g2, g3, g4, g5, g6⟩ := laidWorld os
  refine returnsInHanded_of_row (C := Tryd.checked) (s := OpenSpec.ofChange Rows.fnExactUnsealedSpec) own started (by kernel_rfl) Tryd.func7
    (witness_row_at (enc := enc) (C := Tryd.checked) false W0 #[.string ByteArray.empty] g1 g2 g3 g4
      (OpenSpec.preRow_of_cond 8 (g6 enc).1 (by kernel_rfl) (fun k hk => by cases hk) (g6 enc).2 g5)) ?_
  intro W base args ds gs before hval hW _ _ _ hL _ _
  exact contract H enc W base args ds gs before hval hW hL

theorem said : Rows.FnExactUnsealedSaid :=
  OpenClaim.holds_of_cond 7 Tryd.f7 rfl rfl rfl rfl rfl rfl rfl ⟨rfl, rfl, rfl, rfl, rfl⟩ rfl rfl rfl rfl rfl (by kernel_rfl) Tryd.func7 (by kernel_rfl)
    (of_decide_eq_true (by kernel_rfl)) (by unfold Func.isWrapper; first | (rw [if_pos (by decide +kernel)]; kernel_rfl) | (rw [if_neg (by decide +kernel)]; exact ⟨rfl, rfl⟩))
    (fun os started H enc _ F => by rw [OpenClaim.pre_eq_preRow]; exact lifted os started H enc F)

theorem plain (f : FuncId) (fn : Func) (hf : Tryd.pinned.checked.prog.funcNamed Rows.fnExactUnsealedRow.func = some f) (hfn : Tryd.pinned.checked.prog.funcs[f]? = some fn) :
    false = Tryd.pinned.checked.prog.looks [] ∧ ∀ (j : Nat) t, fn.params[j]? = some t → Tryd.pinned.checked.prog.wantsStandIn t = false := by
  obtain rfl : f = 7 := Option.some.inj ((show Tryd.prog.funcNamed Rows.fnExactUnsealedRow.func = some 7 by kernel_rfl).symm.trans hf) |>.symm
  obtain rfl : fn = Tryd.f7 := (Option.some.inj (Tryd.func7.symm.trans hfn)).symm
  refine ⟨by kernel_rfl, fun j t ht => ?_⟩
  rw [Tryd.params7] at ht
  have hm : t ∈ [9] := by simpa using Array.mem_of_getElem? ht
  have hall : ([9].all fun u => !Tryd.prog.wantsStandIn u) = true := by kernel_rfl
  exact (show Tryd.prog.wantsStandIn t = false by simpa using List.all_eq_true.1 hall t hm)

theorem card : Rows.FnExactUnsealedCardSaid :=
  Claim7.holds_tied_plain_at .later [] _ _ _ _ said (fun _ h => by cases h) (by kernel_rfl) (fun _ h => by cases h) fnExactUnsealed_row_tie rfl ⟨rfl, rfl⟩ (by kernel_rfl) rfl plain (by kernel_rfl)
end Go.Proofs.YtbgnpbapalngjaaDoor.fnExactUnsealed
namespace Go.Proofs.YtbgnpbapalngjaaDoor
theorem unsealed_holds : Rows.FnExactUnsealedCardSaid := fnExactUnsealed.card
#print axioms unsealed_holds
end Go.Proofs.YtbgnpbapalngjaaDoor
