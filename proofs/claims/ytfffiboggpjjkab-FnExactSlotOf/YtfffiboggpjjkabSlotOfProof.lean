/- For every block and every string the law laws.FnExactSlotOf returns true: spec.SlotOf and impl.SlotOf answer the same and change nothing; no condition. -/
import Derived.Test.YtfffiboggpjjkabRows
import Derived.WalkKit
import Derived.ProofKit
import Derived.OpenShut
import Derived.ShutString
import Derived.ChangeOld
import Derived.Below
import Derived.Lib.SmallJoins
import Derived.Deep.SlicePairs
import Derived.Test.YtfffiboggpjjkabLawSlot
namespace Go.Proofs.Ytfffiboggpjjkab.fnExactSlotOf
open Go.ChangeShapes Go.WideShapes Go.ChangeAt Go.RowKit Kit Go.Joins
open Go.ChangeMaps (open_string shut_string)
set_option linter.unusedVariables false

theorem own : ownKnob Try.prog.godebug = none := by kernel_rfl
theorem laidOut : laidOutB Try.prog = true := by kernel_rfl
/-- The text of a value. -/
def strOf : Value → ByteArray
  | .string s => s
  | _ => ⟨#[]⟩
/-- The slots that cells tell. -/
def slotsOf (V0 V1 : Nat → Value) (len : Nat) : List Sl := (List.range len).map fun i => (strOf (V0 i), intOf (V1 i))
theorem row_of {w : World} {a : Addr} {len cap : Nat} {V0 V1 : Nat → Value} (hc : len ≤ cap) (h0 : ∀ i, i < len → w.cell? (a.add (i * 2)) = some (V0 i)) (h1 : ∀ i, i < len → w.cell? (a.add (i * 2 + 1)) = some (V1 i))
    (hs : ∀ i, i < len → ∃ s : ByteArray, V0 i = .string s ∧ s.size ≤ maxLen) (hz : ∀ i, i < len → ∃ z : Int, V1 i = .int .i64 z) :
    RSl w (.slice (some a) len cap) (slotsOf V0 V1 len) ∧ ∀ (j : Nat) (h : j < (slotsOf V0 V1 len).length), (slotsOf V0 V1 len)[j].1.size ≤ maxLen := by
  have hlen : (slotsOf V0 V1 len).length = len := by simp [slotsOf]
  refine ⟨⟨some a, cap, by rw [hlen], by rw [hlen]; exact hc, fun j hj => ?_⟩, fun j hj => ?_⟩
  · rw [hlen] at hj
    obtain ⟨s, e0, _⟩ := hs j hj
    obtain ⟨z, e1⟩ := hz j hj
    have c0 := h0 j hj
    have c1 := h1 j hj
    obtain ⟨b, off, spot⟩ := a
    have hspot : spot = none := by
      have := World.cell?_spot (h0 0 (by omega))
      simpa [Addr.add] using this
    subst hspot
    have ha : ∀ k, (⟨b, off, none⟩ : Addr).add k = ⟨b, off + k, none⟩ := fun k => by cases k <;> simp [Addr.add]
    rw [ha] at c0 c1
    refine ⟨b, off, rfl, block_lt_of_cell c0, ?_, ?_⟩
    · rw [c0]; simp [slotsOf, e0, strOf]
    · rw [show off + j * 2 + 1 = off + (j * 2 + 1) by omega, c1]; simp [slotsOf, e1, intOf]
  · rw [hlen] at hj
    obtain ⟨s, e0, e1⟩ := hs j hj
    simp [slotsOf, e0, strOf, e1]

set_option maxRecDepth 100000 in
theorem lifted (os : Os) (started : os.Started) (H : Type) (enc : TypeId × Value → H) :
    ReturnsInHanded {} Try.checked os 4 .any (Rows.fnExactSlotOfSpec.pre6 enc Try.prog Try.f4 Rows.fnExactSlotOfRow.domain false) (Rows.fnExactSlotOfSpec.post enc Try.prog Try.f4 false true false false) := by
  refine returnsInHanded_of_change (C := Try.checked) own started (by kernel_rfl) Try.func4
    (ChangeSpec.witness6 (enc := enc) (C := Try.checked) false ⟨#[], #[.agg #[.bool false, .slice none 0 0, .string ⟨#[]⟩], .string ⟨#[]⟩], []⟩ 8 (by kernel_rfl) (by kernel_rfl) (by kernel_rfl) (by kernel_rfl)) ?_
  intro W base args ds gs before hval0 hW hcnd _
  have hval : ∀ (j : Nat) t v, Try.f4.params[j]? = some t → args[j]? = some v → Value.okWide Try.prog W .any base t v := hval0
  have hW' := hW
  obtain ⟨p, q, hA0, hV, rfl, hfz, hnd⟩ := hW
  have hA : DataW.TrodAll enc Try.prog W 0 (fun _ => true) true Try.f4.params.toList args.toList ds p := hA0
  rw [Try.params4] at hA hval
  obtain ⟨v0, vs0, d0, ds0, p0, q0, hargs, rfl, rfl, h0, r0⟩ := trodAll_cons hA
  obtain ⟨v1, vs1, d1, ds1, p1, q1, hargs1, rfl, rfl, h1, r1⟩ := trodAll_cons r0
  obtain ⟨rfl, rfl, rfl⟩ := trodAll_nil r1
  obtain rfl : args = #[v0, v1] := by cases args; simp_all
  obtain ⟨rfl, rfl⟩ := trodVars_none hV
  have k0 := h0
  have lt0 : ∀ x ∈ p0, x.block < W.heap.size := by obtain ⟨m, hm⟩ := k0; exact DataW.trod_lt m _ _ _ hm
  have k1 := h1
  have lt1 : ∀ x ∈ p1, x.block < W.heap.size := by obtain ⟨m, hm⟩ := k1; exact DataW.trod_lt m _ _ _ hm
  obtain ⟨nm, hnm, hnz⟩ : ∃ nm : ByteArray, v1 = .string nm ∧ nm.size ≤ maxLen := by
    obtain ⟨nm, rfl, -, -, h⟩ := open_string Try.underlying9 (hval 1 9 v1 rfl rfl) h1
    exact ⟨nm, rfl, h⟩
  subst hnm
  obtain ⟨a0, v, tx, xs, hv0, hR, hlen, hbig, htx⟩ : ∃ (a0 : Bool) (v : Value) (tx : ByteArray) (xs : List Sl), v0 = .agg #[.bool a0, v, .string tx] ∧ RSl W v xs ∧ xs.length ≤ maxLen ∧ (∀ (j : Nat) (h : j < xs.length), xs[j].1.size ≤ maxLen) ∧ tx.size ≤ maxLen := by
    obtain ⟨c0, c1, c2, y0, y1, y2, m, rfl, -, -, hy0, hy1, hy2⟩ := open_agg3 Try.underlying32 (by kernel_rfl) (by kernel_rfl) (hval 0 32 v0 rfl rfl) h0
    obtain ⟨x0, e0, -⟩ := DataW.trod_bool Try.underlying4 hy0
    obtain ⟨x2, e2, -, hx2⟩ := DataW.trod_string Try.underlying9 hy2
    simp at e0 e2
    subst e0 e2
    rcases Go.Deep.open_slice_pairs Try.underlying30 Try.underlying63 (by kernel_rfl) rfl rfl (by kernel_rfl) (by kernel_rfl) hy1 with ⟨hcs, _⟩ | ⟨a, len, cap, m2, n2, V0, V1, D0, D1, P0, P1, hcs, -, hlc, hcm, hm2, -, hcell⟩
    · simp at hcs
      subst hcs
      exact ⟨x0, _, x2, [], rfl, ⟨none, 0, rfl, Nat.le_refl _, fun j hj => by simp at hj⟩, by simp, fun j hj => by simp at hj, hx2⟩
    · simp at hcs
      subst hcs
      have hlm : len ≤ m2 := by simp at hm2; omega
      have key := row_of (w := W) (a := a) (len := len) (cap := cap) (V0 := V0) (V1 := V1) hlc (fun i hi => (hcell i (by omega)).1) (fun i hi => (hcell i (by omega)).2.1)
        (fun i hi => by obtain ⟨s, e, -, hs⟩ := DataW.trod_string Try.underlying9 (hcell i (by omega)).2.2.1; simp at e; exact ⟨s, e, hs⟩)
        (fun i hi => by obtain ⟨z, e, -, -⟩ := DataW.trod_int Try.underlying3 (hcell i (by omega)).2.2.2; simp at e; exact ⟨z, e⟩)
      exact ⟨x0, _, x2, slotsOf V0 V1 len, rfl, key.1, by simp [slotsOf]; omega, key.2, hx2⟩
  subst hv0
  clear hA0 hval0
  simp only [List.append_nil] at hW'
  refine (walk a0 v tx xs nm W hR hlen hbig htx hnz).mono fun e W' ⟨he, bel⟩ => ?_
  subst he
  exact ⟨_, rfl, _, _, _, [], _, [], hW', trodAll_mk1 (shut_bool Try.underlying4 _), (trodAll_cons_mk (Below.trod laidOut (by kernel_rfl) (of_decide_eq_true (by kernel_rfl)) k0 bel lt0) (trodAll_cons_mk (Below.trod laidOut (by kernel_rfl) (of_decide_eq_true (by kernel_rfl)) k1 bel lt1) trodAll_mk0)), rfl, bel.frame _, fun h => by cases h⟩

theorem over : Rows.fnExactSlotOfRow.holds Try.pinned (OpenSpec.ofChange Rows.fnExactSlotOfSpec) :=
  OpenClaim.holds_of_wide 4 Try.f4 rfl rfl rfl rfl rfl rfl rfl ⟨rfl, rfl, rfl, rfl, rfl⟩ rfl rfl rfl rfl rfl (by kernel_rfl) Try.func4 (by kernel_rfl)
    (of_decide_eq_true (by kernel_rfl)) (by unfold Func.isWrapper; first | (rw [if_pos (by decide +kernel)]; kernel_rfl) | (rw [if_neg (by decide +kernel)]; exact ⟨rfl, rfl⟩))
    (fun os started H enc _ => lifted os started H enc)

theorem proved : Rows.FnExactSlotOfSaid := over
end Go.Proofs.Ytfffiboggpjjkab.fnExactSlotOf
namespace Go.Proofs.Ytfffiboggpjjkab
theorem slotOf_holds : Rows.FnExactSlotOfSaid := fnExactSlotOf.proved
#print axioms slotOf_holds
end Go.Proofs.Ytfffiboggpjjkab
