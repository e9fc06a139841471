/-
  No cell of these rows narrows 'for every input' (looked for: loops, veiled, ifaces, maps, wideKeys, modest, calm, conditions, laid).
  DERIVED. THE GIVEN ROWS OF THIS SEAT. 6 by the template 'for every input the law returns true; each argument reads behind the call as it read before'; 0 by the template 'total and deterministic' (their statements: YthgcidgdgileiaaTotals.lean).
  GIVEN WITH THE SEED: the statements are not yours to turn. If you find one false, say at which input.
  Laid BY PROGRAM, IN A SANDBOX (cutbox-rows.mjs): the forced cells as the released guide's own fill.sh prints them over the translation af20621931486160… (all of the seat's roots in one cut). By AI agents, Wed Nov 11 2026. No macro, syntax, notation, axiom, sorry.
-/
import Derived.Test.YthgcidgdgileiaaChecked
import GoSem.Claim
import GoSem.ClaimJoined
import GoSem.ClaimMapViews
import Derived.JoinedTies
import Derived.KernelRfl
namespace Go.Proofs.Ythgcidgdgileiaa
/- THE CELL 'sum', in the pinned program and in every row, IS THE sha256 OF THE DUMP (.gsa) THAT YthgcidgdgileiaaProg.lean LOADS. Nothing in Lean hashes anything: it is a label: what it is worth is what the hold of that sum in a sandbox is worth. -/
noncomputable def Try.pinned : Pinned := { name := "ythgcidgdgileiaa", sum := "af206219314861603f95b787127cf3a1ee8b6c7aa13b08d1246057194da18d76", checked := Try.checked }
namespace Rows
def none {H : Type} : Left H := { results := [], args := [] }

/-- 'laws.FnInodes': WHATEVER THE INPUT: true; the input reads as it did. -/
def fnInodesSpec : ChangeSpec := { name := "fnInodes", fn := fun _ => fun
  | [d] => { results := [.lit (.bool true)], args := [d] }
  | _ => none }
def fnInodesRow : OpenClaim := { program := "ythgcidgdgileiaa", sum := "af206219314861603f95b787127cf3a1ee8b6c7aa13b08d1246057194da18d76", func := "loop.example/g00235/laws.FnInodes", spec := "fnInodes", apart := false }
def FnInodesSaid : Prop := fnInodesRow.holds Try.pinned (OpenSpec.ofChange fnInodesSpec)

/-- ITS FALSE NEIGHBOUR: 'it returns false'. Refute it at one input. -/
def fnInodesWrong : ChangeSpec := { name := "fnInodes", fn := fun _ => fun
  | [d] => { results := [.lit (.bool false)], args := [d] }
  | _ => none }
def FnInodesWrongFalsely : Prop := fnInodesRow.holds Try.pinned (OpenSpec.ofChange fnInodesWrong)

/-- 'laws.FnNewInodes': WHATEVER THE INPUT: true; the input reads as it did. -/
def fnNewInodesSpec : ChangeSpec := { name := "fnNewInodes", fn := fun _ => fun
  | [d] => { results := [.lit (.bool true)], args := [d] }
  | _ => none }
def fnNewInodesRow : OpenClaim := { program := "ythgcidgdgileiaa", sum := "af206219314861603f95b787127cf3a1ee8b6c7aa13b08d1246057194da18d76", func := "loop.example/g00235/laws.FnNewInodes", spec := "fnNewInodes", apart := false }
def FnNewInodesSaid : Prop := fnNewInodesRow.holds Try.pinned (OpenSpec.ofChange fnNewInodesSpec)

/-- ITS FALSE NEIGHBOUR: 'it returns false'. Refute it at one input. -/
def fnNewInodesWrong : ChangeSpec := { name := "fnNewInodes", fn := fun _ => fun
  | [d] => { results := [.lit (.bool false)], args := [d] }
  | _ => none }
def FnNewInodesWrongFalsely : Prop := fnNewInodesRow.holds Try.pinned (OpenSpec.ofChange fnNewInodesWrong)

/-- 'laws.FnExactInodeNew': WHATEVER THE INPUT: true; the input reads as it did. -/
def fnExactInodeNewSpec : ChangeSpec := { name := "fnExactInodeNew", fn := fun _ => fun
  | [d] => { results := [.lit (.bool true)], args := [d] }
  | _ => none }
def fnExactInodeNewRow : OpenClaim := { program := "ythgcidgdgileiaa", sum := "af206219314861603f95b787127cf3a1ee8b6c7aa13b08d1246057194da18d76", func := "loop.example/g00235/laws.FnExactInodeNew", spec := "fnExactInodeNew", apart := false }
def FnExactInodeNewSaid : Prop := fnExactInodeNewRow.holds Try.pinned (OpenSpec.ofChange fnExactInodeNewSpec)

/-- ITS FALSE NEIGHBOUR: 'it returns false'. Refute it at one input. -/
def fnExactInodeNewWrong : ChangeSpec := { name := "fnExactInodeNew", fn := fun _ => fun
  | [d] => { results := [.lit (.bool false)], args := [d] }
  | _ => none }
def FnExactInodeNewWrongFalsely : Prop := fnExactInodeNewRow.holds Try.pinned (OpenSpec.ofChange fnExactInodeNewWrong)

/-- 'laws.FnExactInodeOk': WHATEVER THE INPUT: true; the input reads as it did. -/
def fnExactInodeOkSpec : ChangeSpec := { name := "fnExactInodeOk", fn := fun _ => fun
  | [d] => { results := [.lit (.bool true)], args := [d] }
  | _ => none }
def fnExactInodeOkRow : OpenClaim := { program := "ythgcidgdgileiaa", sum := "af206219314861603f95b787127cf3a1ee8b6c7aa13b08d1246057194da18d76", func := "loop.example/g00235/laws.FnExactInodeOk", spec := "fnExactInodeOk", apart := false }
def FnExactInodeOkSaid : Prop := fnExactInodeOkRow.holds Try.pinned (OpenSpec.ofChange fnExactInodeOkSpec)

/-- ITS FALSE NEIGHBOUR: 'it returns false'. Refute it at one input. -/
def fnExactInodeOkWrong : ChangeSpec := { name := "fnExactInodeOk", fn := fun _ => fun
  | [d] => { results := [.lit (.bool false)], args := [d] }
  | _ => none }
def FnExactInodeOkWrongFalsely : Prop := fnExactInodeOkRow.holds Try.pinned (OpenSpec.ofChange fnExactInodeOkWrong)

/-- 'laws.FnExactInodeText': WHATEVER THE INPUT: true; the input reads as it did. -/
def fnExactInodeTextSpec : ChangeSpec := { name := "fnExactInodeText", fn := fun _ => fun
  | [d] => { results := [.lit (.bool true)], args := [d] }
  | _ => none }
def fnExactInodeTextRow : OpenClaim := { program := "ythgcidgdgileiaa", sum := "af206219314861603f95b787127cf3a1ee8b6c7aa13b08d1246057194da18d76", func := "loop.example/g00235/laws.FnExactInodeText", spec := "fnExactInodeText", apart := false }
def FnExactInodeTextSaid : Prop := fnExactInodeTextRow.holds Try.pinned (OpenSpec.ofChange fnExactInodeTextSpec)

/-- ITS FALSE NEIGHBOUR: 'it returns false'. Refute it at one input. -/
def fnExactInodeTextWrong : ChangeSpec := { name := "fnExactInodeText", fn := fun _ => fun
  | [d] => { results := [.lit (.bool false)], args := [d] }
  | _ => none }
def FnExactInodeTextWrongFalsely : Prop := fnExactInodeTextRow.holds Try.pinned (OpenSpec.ofChange fnExactInodeTextWrong)

/-- 'laws.FnExactReadInode': WHATEVER THE INPUT: true; the input reads as it did. -/
def fnExactReadInodeSpec : ChangeSpec := { name := "fnExactReadInode", fn := fun _ => fun
  | [d] => { results := [.lit (.bool true)], args := [d] }
  | _ => none }
def fnExactReadInodeRow : OpenClaim := { program := "ythgcidgdgileiaa", sum := "af206219314861603f95b787127cf3a1ee8b6c7aa13b08d1246057194da18d76", func := "loop.example/g00235/laws.FnExactReadInode", spec := "fnExactReadInode", apart := false }
def FnExactReadInodeSaid : Prop := fnExactReadInodeRow.holds Try.pinned (OpenSpec.ofChange fnExactReadInodeSpec)

/-- ITS FALSE NEIGHBOUR: 'it returns false'. Refute it at one input. -/
def fnExactReadInodeWrong : ChangeSpec := { name := "fnExactReadInode", fn := fun _ => fun
  | [d] => { results := [.lit (.bool false)], args := [d] }
  | _ => none }
def FnExactReadInodeWrongFalsely : Prop := fnExactReadInodeRow.holds Try.pinned (OpenSpec.ofChange fnExactReadInodeWrong)

/- THE SECOND FORM. 'bulk': how many values and letters a reading holds, each counted each time it is reached (what is shared counts as often as it is met; a slice's spare places count too). A statement '..UptoSaid' is the law's where the arguments, and the package variables that the reading takes, are together of bulk at most 1048576: NARROWER than '..Said'. Prove '..Said' where nothing that the law and all that it calls make is longer than what came in: it says more and counts as full. Else prove '..UptoSaid'. A law counts once. -/
mutual
def uptoBulk {H : Type} : DataW H → Nat
  | .lit (.string bytes) => bytes.length + 1
  | .lit _ => 1
  | .nil => 1
  | .ptr d => uptoBulk d + 1
  | .slice elems spare => uptoBulkAll elems + uptoBulkAll spare + 1
  | .agg parts => uptoBulkAll parts + 1
  | .iface _ d => uptoBulk d + 1
  | .map entries => uptoBulkEntries entries + 1
  | .held _ => 1
def uptoBulkAll {H : Type} : List (DataW H) → Nat
  | [] => 0
  | d :: r => uptoBulk d + uptoBulkAll r
def uptoBulkEntries {H : Type} : List (Lit × DataW H) → Nat
  | [] => 0
  | x :: r => uptoBulkEntry x + uptoBulkEntries r
def uptoBulkEntry {H : Type} : Lit × DataW H → Nat
  | (.string bytes, d) => bytes.length + uptoBulk d + 1
  | (_, d) => uptoBulk d + 1
 end
def uptoSmall : (H : Type) → List (DataW H) → Bool := fun _ ds => decide (uptoBulkAll ds ≤ 1048576)
def OpenSpec.upto (s : _root_.Go.ChangeSpec) : _root_.Go.OpenSpec := { _root_.Go.OpenSpec.ofChange s with cond := some uptoSmall }

/-- 'laws.FnInodes', WHERE WHAT IT READS IS OF BULK AT MOST 1048576: true; the input reads as it did. -/
def fnInodesUptoRow : OpenClaim := { program := "ythgcidgdgileiaa", sum := "af206219314861603f95b787127cf3a1ee8b6c7aa13b08d1246057194da18d76", func := "loop.example/g00235/laws.FnInodes", spec := "fnInodes", apart := false, narrowed := true }
def FnInodesUptoSaid : Prop := fnInodesUptoRow.holds Try.pinned (OpenSpec.upto fnInodesSpec)

/-- 'laws.FnNewInodes', WHERE WHAT IT READS IS OF BULK AT MOST 1048576: true; the input reads as it did. -/
def fnNewInodesUptoRow : OpenClaim := { program := "ythgcidgdgileiaa", sum := "af206219314861603f95b787127cf3a1ee8b6c7aa13b08d1246057194da18d76", func := "loop.example/g00235/laws.FnNewInodes", spec := "fnNewInodes", apart := false, narrowed := true }
def FnNewInodesUptoSaid : Prop := fnNewInodesUptoRow.holds Try.pinned (OpenSpec.upto fnNewInodesSpec)

/-- 'laws.FnExactInodeNew', WHERE WHAT IT READS IS OF BULK AT MOST 1048576: true; the input reads as it did. -/
def fnExactInodeNewUptoRow : OpenClaim := { program := "ythgcidgdgileiaa", sum := "af206219314861603f95b787127cf3a1ee8b6c7aa13b08d1246057194da18d76", func := "loop.example/g00235/laws.FnExactInodeNew", spec := "fnExactInodeNew", apart := false, narrowed := true }
def FnExactInodeNewUptoSaid : Prop := fnExactInodeNewUptoRow.holds Try.pinned (OpenSpec.upto fnExactInodeNewSpec)

/-- 'laws.FnExactInodeOk', WHERE WHAT IT READS IS OF BULK AT MOST 1048576: true; the input reads as it did. -/
def fnExactInodeOkUptoRow : OpenClaim := { program := "ythgcidgdgileiaa", sum := "af206219314861603f95b787127cf3a1ee8b6c7aa13b08d1246057194da18d76", func := "loop.example/g00235/laws.FnExactInodeOk", spec := "fnExactInodeOk", apart := false, narrowed := true }
def FnExactInodeOkUptoSaid : Prop := fnExactInodeOkUptoRow.holds Try.pinned (OpenSpec.upto fnExactInodeOkSpec)

/-- 'laws.FnExactInodeText', WHERE WHAT IT READS IS OF BULK AT MOST 1048576: true; the input reads as it did. -/
def fnExactInodeTextUptoRow : OpenClaim := { program := "ythgcidgdgileiaa", sum := "af206219314861603f95b787127cf3a1ee8b6c7aa13b08d1246057194da18d76", func := "loop.example/g00235/laws.FnExactInodeText", spec := "fnExactInodeText", apart := false, narrowed := true }
def FnExactInodeTextUptoSaid : Prop := fnExactInodeTextUptoRow.holds Try.pinned (OpenSpec.upto fnExactInodeTextSpec)

/-- 'laws.FnExactReadInode', WHERE WHAT IT READS IS OF BULK AT MOST 1048576: true; the input reads as it did. -/
def fnExactReadInodeUptoRow : OpenClaim := { program := "ythgcidgdgileiaa", sum := "af206219314861603f95b787127cf3a1ee8b6c7aa13b08d1246057194da18d76", func := "loop.example/g00235/laws.FnExactReadInode", spec := "fnExactReadInode", apart := false, narrowed := true }
def FnExactReadInodeUptoSaid : Prop := fnExactReadInodeUptoRow.holds Try.pinned (OpenSpec.upto fnExactReadInodeSpec)

end Rows
end Go.Proofs.Ythgcidgdgileiaa
