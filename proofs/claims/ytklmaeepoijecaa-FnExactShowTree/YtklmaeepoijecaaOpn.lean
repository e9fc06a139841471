/- A list of nodes that comes in as an argument, opened: its texts. -/
import Derived.Test.YtklmaeepoijecaaNd
import Derived.WalkKit
import Derived.ProofKit
import Derived.OpenShut
import Derived.ShutString
import Derived.ChangeOld
import Derived.Below
import Derived.Lib.SmallJoins
import Derived.Deep.SlicePairs
import Derived.Deep.Grids
namespace Go.Proofs.Ytklmaeepoijecaa.open_
open Go.ChangeShapes Go.WideShapes Go.ChangeAt Go.RowKit Kit Go.Joins
set_option linter.unusedVariables false
variable {H : Type} {enc : TypeId × Value → H} {W : World}
def bigN (x : Nd) : Prop := x.1.size ≤ maxLen ∧ x.2.2.1.size ≤ maxLen ∧ x.2.2.2.size ≤ maxLen
theorem fields30 : ∃ f0 f1 f2 f3 : Field, Try.prog.underlying 31 = some (.struct #[f0, f1, f2, f3]) ∧ (f0.type = 9 ∧ f0.offset = 0) ∧ (f1.type = 4 ∧ f1.offset = 1) ∧ (f2.type = 9 ∧ f2.offset = 2) ∧ (f3.type = 9 ∧ f3.offset = 3) := ⟨_, _, _, _, Try.underlying30, ⟨rfl, rfl⟩, ⟨rfl, rfl⟩, ⟨rfl, rfl⟩, ⟨rfl, rfl⟩⟩
theorem c30 : Try.prog.cellsOf 31 = 4 := by kernel_rfl
theorem c9 : Try.prog.cellsOf 9 = 1 := by kernel_rfl
theorem c4 : Try.prog.cellsOf 4 = 1 := by kernel_rfl
theorem nodes_open {fuel : Nat} {c : Value} {y : DataW H × List MemPlace} (h : DataW.trod enc Try.prog W 0 (fun _ => true) true fuel 22 [c] = some y) : ∃ xs : List Nd, RNd W c xs ∧ xs.length ≤ maxLen ∧ ∀ (j : Nat) (h : j < xs.length), bigN xs[j] := by
  rcases Go.Deep.open_slice Try.underlying22 h with ⟨hcs, _⟩ | ⟨a, len, cap, m, n, D, Pl, hcs, hb, hl, hm, hmm, _, hx⟩
  · simp at hcs
    subst hcs
    exact ⟨[], ⟨none, 0, rfl, fun j hj => by simp at hj⟩, by simp, fun j hj => by simp at hj⟩
  · simp at hcs
    subst hcs
    have hlm : len ≤ m := by simp at hmm; omega
    have key : ∀ i, i < len → ∃ q : Nd, W.cell? (a.add (i * 4)) = some (.string q.1) ∧ W.cell? (a.add (i * 4 + 1)) = some (.bool q.2.1) ∧ W.cell? (a.add (i * 4 + 2)) = some (.string q.2.2.1) ∧ W.cell? (a.add (i * 4 + 3)) = some (.string q.2.2.2) ∧ bigN q := by
      intro i hi
      obtain ⟨cs', h1, h2⟩ := hx i (by omega)
      rw [c30] at h1
      obtain ⟨_, hlen, hcell⟩ := World.cells?_some h1
      obtain ⟨f0, f1, f2, f3, hu, ⟨t0, o0⟩, ⟨t1, o1⟩, ⟨t2, o2⟩, t3, o3⟩ := fields30
      obtain ⟨xs, k, hk, hxy, _, hxl, hf⟩ := DataW.trod_struct hu h2
      match xs, hxl, cs', hlen with
      | [y0, y1, y2, y3], _, [v0, v1, v2, v3], _ =>
        have g0 := hf 0 f0 rfl
        have g1 := hf 1 f1 rfl
        have g2 := hf 2 f2 rfl
        have g3 := hf 3 f3 rfl
        rw [t0, o0, c9] at g0
        rw [t1, o1, c4] at g1
        rw [t2, o2, c9] at g2
        rw [t3, o3, c9] at g3
        simp at g0 g1 g2 g3
        have e0 := hcell 0 (by omega)
        have e1 := hcell 1 (by omega)
        have e2 := hcell 2 (by omega)
        have e3 := hcell 3 (by omega)
        rw [Go.Deep.add_add] at e0 e1 e2 e3
        obtain ⟨s0, q0, -, b0⟩ := DataW.trod_string Try.underlying9 g0
        obtain ⟨s1, q1, -⟩ := DataW.trod_bool Try.underlying4 g1
        obtain ⟨s2, q2, -, b2⟩ := DataW.trod_string Try.underlying9 g2
        obtain ⟨s3, q3, -, b3⟩ := DataW.trod_string Try.underlying9 g3
        simp at q0 q1 q2 q3
        subst q0 q1 q2 q3
        exact ⟨(s0, s1, s2, s3), by simpa using e0, by simpa using e1, by simpa using e2, by simpa using e3, b0, b2, b3⟩
    obtain ⟨q, hq⟩ := Go.Deep.choose_lt key
    obtain ⟨b, off, spot⟩ := a
    have ha : spot = none → ∀ k, (⟨b, off, spot⟩ : Addr).add k = ⟨b, off + k, none⟩ := fun e k => by subst e; cases k <;> simp [Addr.add]
    refine ⟨(List.range len).map q, ⟨some ⟨b, off, spot⟩, cap, by simp, fun j hj => ?_⟩, by simp; omega, fun j hj => ?_⟩
    · have hj' : j < len := by simpa using hj
      have hspot : spot = none := by
        have := World.cell?_spot (hq 0 (by omega)).1
        simpa [Addr.add] using this
      obtain ⟨c0, c1, c2, c3, _⟩ := hq j hj'
      rw [ha hspot] at c0 c1 c2 c3
      simp only [List.getElem_map, List.getElem_range]
      exact ⟨b, off, by rw [hspot], block_lt_of_cell c0, c0, by rw [Nat.add_assoc]; exact c1, by rw [Nat.add_assoc]; exact c2, by rw [Nat.add_assoc]; exact c3⟩
    · have hj' : j < len := by simpa using hj
      simpa using (hq j hj').2.2.2.2
end Go.Proofs.Ytklmaeepoijecaa.open_
