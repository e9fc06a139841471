/-
  No cell of these rows narrows 'for every input' (looked for: loops, veiled, ifaces, maps, wideKeys, modest, calm, conditions, laid).
  DERIVED. THE GIVEN ROWS OF THIS SEAT. 5 by the template 'for every input the law returns true; each argument reads behind the call as it read before'; 0 by the template 'total and deterministic' (their statements: YtohmppcgbecifaaTotals.lean).
  GIVEN WITH THE SEED: the statements are not yours to turn. If you find one false, say at which input.
  Laid BY PROGRAM, IN A SANDBOX (cutbox-rows.mjs): the forced cells as the released guide's own fill.sh prints them over the translation e11ccb9f699748f9… (all of the seat's roots in one cut). By AI agents, Wed Nov 11 2026. No macro, syntax, notation, axiom, sorry.
-/
import Derived.Test.YtohmppcgbecifaaChecked
import GoSem.Claim
import GoSem.ClaimJoined
import GoSem.ClaimMapViews
import Derived.JoinedTies
import Derived.KernelRfl
namespace Go.Proofs.Ytohmppcgbecifaa
/- THE CELL 'sum', in the pinned program and in every row, IS THE sha256 OF THE DUMP (.gsa) THAT YtohmppcgbecifaaProg.lean LOADS. Nothing in Lean hashes anything: it is a label: what it is worth is what the hold of that sum in a sandbox is worth. -/
noncomputable def Try.pinned : Pinned := { name := "ytohmppcgbecifaa", sum := "e11ccb9f699748f973f12157287b4fd0689a51f90857170beb5b97155cc1a22a", checked := Try.checked }
namespace Rows
def none {H : Type} : Left H := { results := [], args := [] }

/-- 'laws.FnUnits': WHATEVER THE INPUT: true; the input reads as it did. -/
def fnUnitsSpec : ChangeSpec := { name := "fnUnits", fn := fun _ => fun
  | [d] => { results := [.lit (.bool true)], args := [d] }
  | _ => none }
def fnUnitsRow : OpenClaim := { program := "ytohmppcgbecifaa", sum := "e11ccb9f699748f973f12157287b4fd0689a51f90857170beb5b97155cc1a22a", func := "loop.example/g00235/laws.FnUnits", spec := "fnUnits", apart := false }
def FnUnitsSaid : Prop := fnUnitsRow.holds Try.pinned (OpenSpec.ofChange fnUnitsSpec)

/-- ITS FALSE NEIGHBOUR: 'it returns false'. Refute it at one input. -/
def fnUnitsWrong : ChangeSpec := { name := "fnUnits", fn := fun _ => fun
  | [d] => { results := [.lit (.bool false)], args := [d] }
  | _ => none }
def FnUnitsWrongFalsely : Prop := fnUnitsRow.holds Try.pinned (OpenSpec.ofChange fnUnitsWrong)

/-- 'laws.FnExactDeviceOk': WHATEVER THE INPUT: true; the input reads as it did. -/
def fnExactDeviceOkSpec : ChangeSpec := { name := "fnExactDeviceOk", fn := fun _ => fun
  | [d] => { results := [.lit (.bool true)], args := [d] }
  | _ => none }
def fnExactDeviceOkRow : OpenClaim := { program := "ytohmppcgbecifaa", sum := "e11ccb9f699748f973f12157287b4fd0689a51f90857170beb5b97155cc1a22a", func := "loop.example/g00235/laws.FnExactDeviceOk", spec := "fnExactDeviceOk", apart := false }
def FnExactDeviceOkSaid : Prop := fnExactDeviceOkRow.holds Try.pinned (OpenSpec.ofChange fnExactDeviceOkSpec)

/-- ITS FALSE NEIGHBOUR: 'it returns false'. Refute it at one input. -/
def fnExactDeviceOkWrong : ChangeSpec := { name := "fnExactDeviceOk", fn := fun _ => fun
  | [d] => { results := [.lit (.bool false)], args := [d] }
  | _ => none }
def FnExactDeviceOkWrongFalsely : Prop := fnExactDeviceOkRow.holds Try.pinned (OpenSpec.ofChange fnExactDeviceOkWrong)

/-- 'laws.FnExactUnitOfIno': WHATEVER THE INPUT: true; the input reads as it did. -/
def fnExactUnitOfInoSpec : ChangeSpec := { name := "fnExactUnitOfIno", fn := fun _ => fun
  | [d] => { results := [.lit (.bool true)], args := [d] }
  | _ => none }
def fnExactUnitOfInoRow : OpenClaim := { program := "ytohmppcgbecifaa", sum := "e11ccb9f699748f973f12157287b4fd0689a51f90857170beb5b97155cc1a22a", func := "loop.example/g00235/laws.FnExactUnitOfIno", spec := "fnExactUnitOfIno", apart := false }
def FnExactUnitOfInoSaid : Prop := fnExactUnitOfInoRow.holds Try.pinned (OpenSpec.ofChange fnExactUnitOfInoSpec)

/-- ITS FALSE NEIGHBOUR: 'it returns false'. Refute it at one input. -/
def fnExactUnitOfInoWrong : ChangeSpec := { name := "fnExactUnitOfIno", fn := fun _ => fun
  | [d] => { results := [.lit (.bool false)], args := [d] }
  | _ => none }
def FnExactUnitOfInoWrongFalsely : Prop := fnExactUnitOfInoRow.holds Try.pinned (OpenSpec.ofChange fnExactUnitOfInoWrong)

/-- 'laws.FnExactUnitOfBlock': WHATEVER THE INPUT: true; the input reads as it did. -/
def fnExactUnitOfBlockSpec : ChangeSpec := { name := "fnExactUnitOfBlock", fn := fun _ => fun
  | [d] => { results := [.lit (.bool true)], args := [d] }
  | _ => none }
def fnExactUnitOfBlockRow : OpenClaim := { program := "ytohmppcgbecifaa", sum := "e11ccb9f699748f973f12157287b4fd0689a51f90857170beb5b97155cc1a22a", func := "loop.example/g00235/laws.FnExactUnitOfBlock", spec := "fnExactUnitOfBlock", apart := false }
def FnExactUnitOfBlockSaid : Prop := fnExactUnitOfBlockRow.holds Try.pinned (OpenSpec.ofChange fnExactUnitOfBlockSpec)

/-- ITS FALSE NEIGHBOUR: 'it returns false'. Refute it at one input. -/
def fnExactUnitOfBlockWrong : ChangeSpec := { name := "fnExactUnitOfBlock", fn := fun _ => fun
  | [d] => { results := [.lit (.bool false)], args := [d] }
  | _ => none }
def FnExactUnitOfBlockWrongFalsely : Prop := fnExactUnitOfBlockRow.holds Try.pinned (OpenSpec.ofChange fnExactUnitOfBlockWrong)

/-- 'laws.FnExactWriteUnit': WHATEVER THE INPUT: true; the input reads as it did. -/
def fnExactWriteUnitSpec : ChangeSpec := { name := "fnExactWriteUnit", fn := fun _ => fun
  | [d1, d2, d3] => { results := [.lit (.bool true)], args := [d1, d2, d3] }
  | _ => none }
def fnExactWriteUnitRow : OpenClaim := { program := "ytohmppcgbecifaa", sum := "e11ccb9f699748f973f12157287b4fd0689a51f90857170beb5b97155cc1a22a", func := "loop.example/g00235/laws.FnExactWriteUnit", spec := "fnExactWriteUnit", apart := false }
def FnExactWriteUnitSaid : Prop := fnExactWriteUnitRow.holds Try.pinned (OpenSpec.ofChange fnExactWriteUnitSpec)

/-- ITS FALSE NEIGHBOUR: 'it returns false'. Refute it at one input. -/
def fnExactWriteUnitWrong : ChangeSpec := { name := "fnExactWriteUnit", fn := fun _ => fun
  | [d1, d2, d3] => { results := [.lit (.bool false)], args := [d1, d2, d3] }
  | _ => none }
def FnExactWriteUnitWrongFalsely : Prop := fnExactWriteUnitRow.holds Try.pinned (OpenSpec.ofChange fnExactWriteUnitWrong)

/- THE SECOND FORM. 'bulk': how many values and letters a reading holds, each counted each time it is reached (what is shared counts as often as it is met; a slice's spare places count too). A statement '..UptoSaid' is the law's where the arguments, and the package variables that the reading takes, are together of bulk at most 1048576: NARROWER than '..Said'. Prove '..Said' where nothing that the law and all that it calls make is longer than what came in: it says more and counts as full. Else prove '..UptoSaid'. A law counts once. -/
mutual
def uptoBulk {H : Type} : DataW H → Nat
  | .lit (.string bytes) => bytes.length + 1
  | .lit _ => 1
  | .nil => 1
  | .ptr d => uptoBulk d + 1
  | .slice elems spare => uptoBulkAll elems + uptoBulkAll spare + 1
  | .agg parts => uptoBulkAll parts + 1
  | .iface _ d => uptoBulk d + 1
  | .map entries => uptoBulkEntries entries + 1
  | .held _ => 1
def uptoBulkAll {H : Type} : List (DataW H) → Nat
  | [] => 0
  | d :: r => uptoBulk d + uptoBulkAll r
def uptoBulkEntries {H : Type} : List (Lit × DataW H) → Nat
  | [] => 0
  | x :: r => uptoBulkEntry x + uptoBulkEntries r
def uptoBulkEntry {H : Type} : Lit × DataW H → Nat
  | (.string bytes, d) => bytes.length + uptoBulk d + 1
  | (_, d) => uptoBulk d + 1
 end
def uptoSmall : (H : Type) → List (DataW H) → Bool := fun _ ds => decide (uptoBulkAll ds ≤ 1048576)
def OpenSpec.upto (s : _root_.Go.ChangeSpec) : _root_.Go.OpenSpec := { _root_.Go.OpenSpec.ofChange s with cond := some uptoSmall }

/-- 'laws.FnUnits', WHERE WHAT IT READS IS OF BULK AT MOST 1048576: true; the input reads as it did. -/
def fnUnitsUptoRow : OpenClaim := { program := "ytohmppcgbecifaa", sum := "e11ccb9f699748f973f12157287b4fd0689a51f90857170beb5b97155cc1a22a", func := "loop.example/g00235/laws.FnUnits", spec := "fnUnits", apart := false, narrowed := true }
def FnUnitsUptoSaid : Prop := fnUnitsUptoRow.holds Try.pinned (OpenSpec.upto fnUnitsSpec)

/-- 'laws.FnExactDeviceOk', WHERE WHAT IT READS IS OF BULK AT MOST 1048576: true; the input reads as it did. -/
def fnExactDeviceOkUptoRow : OpenClaim := { program := "ytohmppcgbecifaa", sum := "e11ccb9f699748f973f12157287b4fd0689a51f90857170beb5b97155cc1a22a", func := "loop.example/g00235/laws.FnExactDeviceOk", spec := "fnExactDeviceOk", apart := false, narrowed := true }
def FnExactDeviceOkUptoSaid : Prop := fnExactDeviceOkUptoRow.holds Try.pinned (OpenSpec.upto fnExactDeviceOkSpec)

/-- 'laws.FnExactUnitOfIno', WHERE WHAT IT READS IS OF BULK AT MOST 1048576: true; the input reads as it did. -/
def fnExactUnitOfInoUptoRow : OpenClaim := { program := "ytohmppcgbecifaa", sum := "e11ccb9f699748f973f12157287b4fd0689a51f90857170beb5b97155cc1a22a", func := "loop.example/g00235/laws.FnExactUnitOfIno", spec := "fnExactUnitOfIno", apart := false, narrowed := true }
def FnExactUnitOfInoUptoSaid : Prop := fnExactUnitOfInoUptoRow.holds Try.pinned (OpenSpec.upto fnExactUnitOfInoSpec)

/-- 'laws.FnExactUnitOfBlock', WHERE WHAT IT READS IS OF BULK AT MOST 1048576: true; the input reads as it did. -/
def fnExactUnitOfBlockUptoRow : OpenClaim := { program := "ytohmppcgbecifaa", sum := "e11ccb9f699748f973f12157287b4fd0689a51f90857170beb5b97155cc1a22a", func := "loop.example/g00235/laws.FnExactUnitOfBlock", spec := "fnExactUnitOfBlock", apart := false, narrowed := true }
def FnExactUnitOfBlockUptoSaid : Prop := fnExactUnitOfBlockUptoRow.holds Try.pinned (OpenSpec.upto fnExactUnitOfBlockSpec)

/-- 'laws.FnExactWriteUnit', WHERE WHAT IT READS IS OF BULK AT MOST 1048576: true; the input reads as it did. -/
def fnExactWriteUnitUptoRow : OpenClaim := { program := "ytohmppcgbecifaa", sum := "e11ccb9f699748f973f12157287b4fd0689a51f90857170beb5b97155cc1a22a", func := "loop.example/g00235/laws.FnExactWriteUnit", spec := "fnExactWriteUnit", apart := false, narrowed := true }
def FnExactWriteUnitUptoSaid : Prop := fnExactWriteUnitUptoRow.holds Try.pinned (OpenSpec.upto fnExactWriteUnitSpec)

end Rows
end Go.Proofs.Ytohmppcgbecifaa
