/-
  No cell of these rows narrows 'for every input' (looked for: loops, veiled, ifaces, maps, wideKeys, modest, calm, conditions, laid).
  DERIVED. THE GIVEN ROWS OF THIS SEAT. 4 by the template 'for every input the law returns true; each argument reads behind the call as it read before'; 0 by the template 'total and deterministic' (their statements: YtgnplpmgkegcnaaGreatTotals.lean).
  GIVEN WITH THE SEED: the statements are not yours to turn. If you find one false, say at which input.
  Laid BY PROGRAM, IN A SANDBOX (cutbox-rows.mjs): the forced cells as the released guide's own fill.sh prints them over the translation c99d60866a7d2362… (all of the seat's roots in one cut). By AI agents, Wed Nov 11 2026. No macro, syntax, notation, axiom, sorry.
-/
import Derived.Test.YtgnplpmgkegcnaaGreatChecked
import GoSem.Claim
import GoSem.ClaimJoined
import GoSem.ClaimMapViews
import Derived.JoinedTies
import Derived.KernelRfl
namespace Go.Proofs.YtgnplpmgkegcnaaGreat
/- THE CELL 'sum', in the pinned program and in every row, IS THE sha256 OF THE DUMP (.gsa) THAT YtgnplpmgkegcnaaGreatProg.lean LOADS. Nothing in Lean hashes anything: it is a label: what it is worth is what the hold of that sum in a sandbox is worth. -/
noncomputable def Tryz.pinned : Pinned := { name := "ytgnplpmgkegcnaagreat", sum := "c99d60866a7d2362ae7255e47687a10716ff93df94d7d847c44f621b5a150f5d", checked := Tryz.checked }
namespace Rows
def none {H : Type} : Left H := { results := [], args := [] }

/-- 'laws.FnDepsAt': WHATEVER THE INPUT: true; the input reads as it did. -/
def fnDepsAtSpec : ChangeSpec := { name := "fnDepsAt", fn := fun _ => fun
  | [d] => { results := [.lit (.bool true)], args := [d] }
  | _ => none }
def fnDepsAtRow : OpenClaim := { program := "ytgnplpmgkegcnaagreat", sum := "c99d60866a7d2362ae7255e47687a10716ff93df94d7d847c44f621b5a150f5d", func := "loop.example/g00235/laws.FnDepsAt", spec := "fnDepsAt", unfollowed := true, recurses := true, apart := false }
def FnDepsAtSaid : Prop := fnDepsAtRow.holds Tryz.pinned (OpenSpec.ofChange fnDepsAtSpec)

/-- ITS FALSE NEIGHBOUR: 'it returns false'. Refute it at one input. -/
def fnDepsAtWrong : ChangeSpec := { name := "fnDepsAt", fn := fun _ => fun
  | [d] => { results := [.lit (.bool false)], args := [d] }
  | _ => none }
def FnDepsAtWrongFalsely : Prop := fnDepsAtRow.holds Tryz.pinned (OpenSpec.ofChange fnDepsAtWrong)

/-- 'laws.FnUnitWrites': WHATEVER THE INPUT: true; the input reads as it did. -/
def fnUnitWritesSpec : ChangeSpec := { name := "fnUnitWrites", fn := fun _ => fun
  | [d] => { results := [.lit (.bool true)], args := [d] }
  | _ => none }
def fnUnitWritesRow : OpenClaim := { program := "ytgnplpmgkegcnaagreat", sum := "c99d60866a7d2362ae7255e47687a10716ff93df94d7d847c44f621b5a150f5d", func := "loop.example/g00235/laws.FnUnitWrites", spec := "fnUnitWrites", recurses := true, apart := false }
def FnUnitWritesSaid : Prop := fnUnitWritesRow.holds Tryz.pinned (OpenSpec.ofChange fnUnitWritesSpec)

/-- ITS FALSE NEIGHBOUR: 'it returns false'. Refute it at one input. -/
def fnUnitWritesWrong : ChangeSpec := { name := "fnUnitWrites", fn := fun _ => fun
  | [d] => { results := [.lit (.bool false)], args := [d] }
  | _ => none }
def FnUnitWritesWrongFalsely : Prop := fnUnitWritesRow.holds Tryz.pinned (OpenSpec.ofChange fnUnitWritesWrong)

/-- 'laws.FnNamesOf': WHATEVER THE INPUT: true; the input reads as it did. -/
def fnNamesOfSpec : ChangeSpec := { name := "fnNamesOf", fn := fun _ => fun
  | [d] => { results := [.lit (.bool true)], args := [d] }
  | _ => none }
def fnNamesOfRow : OpenClaim := { program := "ytgnplpmgkegcnaagreat", sum := "c99d60866a7d2362ae7255e47687a10716ff93df94d7d847c44f621b5a150f5d", func := "loop.example/g00235/laws.FnNamesOf", spec := "fnNamesOf", recurses := true, apart := false }
def FnNamesOfSaid : Prop := fnNamesOfRow.holds Tryz.pinned (OpenSpec.ofChange fnNamesOfSpec)

/-- ITS FALSE NEIGHBOUR: 'it returns false'. Refute it at one input. -/
def fnNamesOfWrong : ChangeSpec := { name := "fnNamesOf", fn := fun _ => fun
  | [d] => { results := [.lit (.bool false)], args := [d] }
  | _ => none }
def FnNamesOfWrongFalsely : Prop := fnNamesOfRow.holds Tryz.pinned (OpenSpec.ofChange fnNamesOfWrong)

/-- 'laws.FnTakes': WHATEVER THE INPUT: true; the input reads as it did. -/
def fnTakesSpec : ChangeSpec := { name := "fnTakes", fn := fun _ => fun
  | [d] => { results := [.lit (.bool true)], args := [d] }
  | _ => none }
def fnTakesRow : OpenClaim := { program := "ytgnplpmgkegcnaagreat", sum := "c99d60866a7d2362ae7255e47687a10716ff93df94d7d847c44f621b5a150f5d", func := "loop.example/g00235/laws.FnTakes", spec := "fnTakes", unfollowed := true, recurses := true, apart := false }
def FnTakesSaid : Prop := fnTakesRow.holds Tryz.pinned (OpenSpec.ofChange fnTakesSpec)

/-- ITS FALSE NEIGHBOUR: 'it returns false'. Refute it at one input. -/
def fnTakesWrong : ChangeSpec := { name := "fnTakes", fn := fun _ => fun
  | [d] => { results := [.lit (.bool false)], args := [d] }
  | _ => none }
def FnTakesWrongFalsely : Prop := fnTakesRow.holds Tryz.pinned (OpenSpec.ofChange fnTakesWrong)

/- THE SECOND FORM. 'bulk': how many values and letters a reading holds, each counted each time it is reached (what is shared counts as often as it is met; a slice's spare places count too). A statement '..UptoSaid' is the law's where the arguments, and the package variables that the reading takes, are together of bulk at most 1048576: NARROWER than '..Said'. Prove '..Said' where nothing that the law and all that it calls make is longer than what came in: it says more and counts as full. Else prove '..UptoSaid'. A law counts once. -/
mutual
def uptoBulk {H : Type} : DataW H → Nat
  | .lit (.string bytes) => bytes.length + 1
  | .lit _ => 1
  | .nil => 1
  | .ptr d => uptoBulk d + 1
  | .slice elems spare => uptoBulkAll elems + uptoBulkAll spare + 1
  | .agg parts => uptoBulkAll parts + 1
  | .iface _ d => uptoBulk d + 1
  | .map entries => uptoBulkEntries entries + 1
  | .held _ => 1
def uptoBulkAll {H : Type} : List (DataW H) → Nat
  | [] => 0
  | d :: r => uptoBulk d + uptoBulkAll r
def uptoBulkEntries {H : Type} : List (Lit × DataW H) → Nat
  | [] => 0
  | x :: r => uptoBulkEntry x + uptoBulkEntries r
def uptoBulkEntry {H : Type} : Lit × DataW H → Nat
  | (.string bytes, d) => bytes.length + uptoBulk d + 1
  | (_, d) => uptoBulk d + 1
 end
def uptoSmall : (H : Type) → List (DataW H) → Bool := fun _ ds => decide (uptoBulkAll ds ≤ 1048576)
def OpenSpec.upto (s : _root_.Go.ChangeSpec) : _root_.Go.OpenSpec := { _root_.Go.OpenSpec.ofChange s with cond := some uptoSmall }

/-- 'laws.FnDepsAt', WHERE WHAT IT READS IS OF BULK AT MOST 1048576: true; the input reads as it did. -/
def fnDepsAtUptoRow : OpenClaim := { program := "ytgnplpmgkegcnaagreat", sum := "c99d60866a7d2362ae7255e47687a10716ff93df94d7d847c44f621b5a150f5d", func := "loop.example/g00235/laws.FnDepsAt", spec := "fnDepsAt", unfollowed := true, recurses := true, apart := false, narrowed := true }
def FnDepsAtUptoSaid : Prop := fnDepsAtUptoRow.holds Tryz.pinned (OpenSpec.upto fnDepsAtSpec)

/-- 'laws.FnUnitWrites', WHERE WHAT IT READS IS OF BULK AT MOST 1048576: true; the input reads as it did. -/
def fnUnitWritesUptoRow : OpenClaim := { program := "ytgnplpmgkegcnaagreat", sum := "c99d60866a7d2362ae7255e47687a10716ff93df94d7d847c44f621b5a150f5d", func := "loop.example/g00235/laws.FnUnitWrites", spec := "fnUnitWrites", recurses := true, apart := false, narrowed := true }
def FnUnitWritesUptoSaid : Prop := fnUnitWritesUptoRow.holds Tryz.pinned (OpenSpec.upto fnUnitWritesSpec)

/-- 'laws.FnNamesOf', WHERE WHAT IT READS IS OF BULK AT MOST 1048576: true; the input reads as it did. -/
def fnNamesOfUptoRow : OpenClaim := { program := "ytgnplpmgkegcnaagreat", sum := "c99d60866a7d2362ae7255e47687a10716ff93df94d7d847c44f621b5a150f5d", func := "loop.example/g00235/laws.FnNamesOf", spec := "fnNamesOf", recurses := true, apart := false, narrowed := true }
def FnNamesOfUptoSaid : Prop := fnNamesOfUptoRow.holds Tryz.pinned (OpenSpec.upto fnNamesOfSpec)

/-- 'laws.FnTakes', WHERE WHAT IT READS IS OF BULK AT MOST 1048576: true; the input reads as it did. -/
def fnTakesUptoRow : OpenClaim := { program := "ytgnplpmgkegcnaagreat", sum := "c99d60866a7d2362ae7255e47687a10716ff93df94d7d847c44f621b5a150f5d", func := "loop.example/g00235/laws.FnTakes", spec := "fnTakes", unfollowed := true, recurses := true, apart := false, narrowed := true }
def FnTakesUptoSaid : Prop := fnTakesUptoRow.holds Tryz.pinned (OpenSpec.upto fnTakesSpec)

end Rows
end Go.Proofs.YtgnplpmgkegcnaaGreat
