/- Texts of the proof, bundled: Od, Pa, Li. -/
import Derived.Test.YtggjillpfclajaaGreatU05
import Derived.Test.YtggjillpfclajaaGreatU07
/- One that leans, which comes in as an argument, opened. -/
namespace Go.Proofs.YtggjillpfclajaaGreat.open_
open Go.ChangeShapes Go.WideShapes Go.ChangeAt Go.RowKit Kit Go.Joins
set_option linter.unusedVariables false
variable {H : Type} {enc : TypeId × Value → H} {W : World}
set_option maxRecDepth 100000 in
theorem dep_open {r : Reach} {b0 : Nat} {v : Value} {d : DataW H} {p : List MemPlace} (hv : Value.okWide Tryz.prog W r b0 49 v) (h : DataW.Trod enc Tryz.prog W 0 (fun _ => true) true 49 v d p) :
    ∃ (dd : Dp) (pv : Value), v = .agg (dd.row pv).toArray ∧ RInts W pv dd.bl ∧ dd.bl.length ≤ maxLen ∧ dd.nm.size ≤ maxLen := by
  obtain ⟨cs, rfl, hsz⟩ := okWide_struct Tryz.underlying49 hv
  have hC : Tryz.prog.cellsOf 49 = 11 := by kernel_rfl
  rw [hC] at hsz
  obtain ⟨fuel, hf⟩ := h
  obtain ⟨dd, pv, e, h1, h2, h3, -⟩ := dep_cells (cs := cs.toList) (by simpa using hsz) hf
  exact ⟨dd, pv, by rw [← e], h1, h2, h3⟩
end Go.Proofs.YtggjillpfclajaaGreat.open_
/- One that leans is appended to a memory's list, where its own list was made ahead. No Go function is spoken of. -/
namespace Go.Proofs.YtggjillpfclajaaGreat.Kit
open Go.RowKit
theorem GN.appendX {α : Type} {K : Kn α} {w w2 : World} {S : Nat → Prop} {v v' : Value} {ts : List Row} {xs : List α} {t' : Row} {x' : α} (h : GN K w S v ts xs) (hO : K.O w t' x') (hn : ∀ k, (K.p t').ownBlock = some k → ¬ S k)
    (hr : NOwns w2 K.T K.n v' (ts ++ [t'])) (hg : w.grownBy w2 v.ownBlock) (hv : ∀ k, v'.ownBlock = some k → v.ownBlock = some k ∨ w.heap.size ≤ k) : GN K w2 (fun k => (S k ∧ k < w.heap.size) ∨ (K.p t').ownBlock = some k ∨ w.heap.size ≤ k) v' (ts ++ [t']) (xs ++ [x']) := by
  have hl := h.len
  have hlt : ∀ (i : Nat) (hi : i < ts.length) (k : Nat), (K.p ts[i]).ownBlock = some k → k < w.heap.size := fun i hi k hk => K.lt (h.inn i hi (by omega)) k hk
  have hlt' : ∀ k, (K.p t').ownBlock = some k → k < w.heap.size := fun k hk => K.lt hO k hk
  have hvl : ∀ k, v.ownBlock = some k → k < w.heap.size := h.row.lt
  have at_l : ∀ (i : Nat) (hi : i < (ts ++ [t']).length), (∃ h' : i < ts.length, (ts ++ [t'])[i] = ts[i]) ∨ (i = ts.length ∧ (ts ++ [t'])[i] = t') := fun i hi => by
    by_cases e : i < ts.length
    · exact .inl ⟨e, List.getElem_append_left e⟩
    · have e2 : i = ts.length := by simp at hi; omega
      refine .inr ⟨e2, ?_⟩
      subst e2
      simp
  refine ⟨by simp [hl], hr, fun i hi hi' => ?_, fun i j hi hj hne k e1 e2 => ?_, fun i hi k e1 e2 => ?_, fun k e => ?_, fun i hi k e => ?_⟩
  · rcases at_l i hi with ⟨h', e⟩ | ⟨rfl, e⟩
    · rw [e, List.getElem_append_left (by omega)]
      exact K.heap (h.inn i h' (by omega)) fun k hk => hg.block k (hlt i h' k hk) (fun e => h.out i h' k hk e.symm)
    · have e2 : (xs ++ [x'])[ts.length] = x' := by simp [hl]
      rw [e, e2]
      exact K.heap hO fun k hk => hg.block k (hlt' k hk) (fun e => hn k hk (h.so k e.symm))
  · rcases at_l i hi with ⟨h1, q1⟩ | ⟨q0, q1⟩ <;> rcases at_l j hj with ⟨h2, q2⟩ | ⟨q3, q2⟩ <;> rw [q1] at e1 <;> rw [q2] at e2
    · exact h.sep i j h1 h2 hne k e1 e2
    · exact hn k e2 (h.si i h1 k e1)
    · exact hn k e1 (h.si j h2 k e2)
    · omega
  · rcases at_l i hi with ⟨h1, q1⟩ | ⟨q0, q1⟩ <;> rw [q1] at e1
    · rcases hv k e2 with q | q
      · exact h.out i h1 k e1 q
      · have := hlt i h1 k e1; omega
    · rcases hv k e2 with q | q
      · exact hn k e1 (h.so k q)
      · have := hlt' k e1; omega
  · rcases hv k e with q | q
    · exact .inl ⟨h.so k q, hvl k q⟩
    · exact .inr (.inr q)
  · rcases at_l i hi with ⟨h1, q1⟩ | ⟨q0, q1⟩ <;> rw [q1] at e
    · exact .inl ⟨h.si i h1 k e, hlt i h1 k e⟩
    · exact .inr (.inl e)
theorem MO.appE {w : World} {S : Nat → Prop} {u v iv bv dv pv : Value} {m : MD} (h : MO w S u v iv bv dv pv m) :
    ∃ ts, NOwns w 52 11 pv ts ∧ ts.length = m.ds.length ∧ ∀ (w2 : World) (pv' : Value) (t' : Row) (x' : Dp), KDep.O w t' x' → (∀ k, (KDep.p t').ownBlock = some k → ¬ S k) →
      NOwns w2 52 11 pv' (ts ++ [t']) → w.grownBy w2 pv.ownBlock → (∀ k, pv'.ownBlock = some k → pv.ownBlock = some k ∨ w.heap.size ≤ k) → ∀ nx : Int, MO w2 (fun k => S k ∨ (KDep.p t').ownBlock = some k ∨ w.heap.size ≤ k) u v iv bv dv pv' { m with ds := m.ds ++ [x'], nx := nx } := by
  obtain ⟨S1, S2, S3, ts, h1, h2, h3, h4, h5, h6, h7⟩ := h.bound
  refine ⟨ts, h4.row, h4.len, fun w2 pv' t' x' hO hn hr hg hv nx => ?_⟩
  have hlow : ∀ q, S1 q ∨ S2 q ∨ S3 q → q < w.heap.size := fun q hq => (h7 q hq).2
  have hSS : ∀ q, S1 q ∨ S2 q ∨ S3 q → S q := fun q hq => (h7 q hq).1
  have hoth : ∀ k, k < w.heap.size → pv.ownBlock ≠ some k → w2.heap[k]? = w.heap[k]? := fun k hk hne => hg.block k hk (fun e => hne e.symm)
  refine ⟨S1, S2, _, _, h1.of_heap fun k hk hlt => hoth k hlt (fun e => (h5 k hk).2 (h4.so k e)), h2.of_heap fun k hk => hoth k (h2.lt k hk).2 (fun e => h6 k (h3 k hk) (h4.so k e)), h3, h4.appendX hO (fun k hk e => hn k hk (hSS k (.inr (.inr e)))) hr hg hv, fun k hk => ⟨(h5 k hk).1, fun e => ?_⟩, fun k hk e => ?_, fun k hk => ?_⟩
  · rcases e with e | e | e
    · exact (h5 k hk).2 e.1
    · exact hn k e (hSS k (.inl hk))
    · have := hlow k (.inl hk); omega
  · rcases e with e | e | e
    · exact h6 k hk e.1
    · exact hn k e (hSS k (.inr (.inl hk)))
    · have := hlow k (.inr (.inl hk)); omega
  · rcases hk with hk | hk | hk | hk | hk
    · exact .inl (hSS k (.inl hk))
    · exact .inl (hSS k (.inr (.inl hk)))
    · exact .inl (hSS k (.inr (.inr hk.1)))
    · exact .inr (.inl hk)
    · exact .inr (.inr hk)
end Go.Proofs.YtggjillpfclajaaGreat.Kit
/- spec.l01In by its contract. -/
namespace Go.Proofs.YtggjillpfclajaaGreat
open Go.RowKit Kit
def inB (x a b : Int) : Bool := decide (a ≤ x ∧ x ≤ b)
theorem inB_true {x a b : Int} (h : inB x a b = true) : a ≤ x ∧ x ≤ b := of_decide_eq_true h
theorem inB_false {x a b : Int} (h : inB x a b = false) : x < a ∨ b < x := by
  have := of_decide_eq_false h
  omega
theorem l01In_any (x a b : Int) (w : World) :
    Calls Tryz.prog 45 #[.int .i64 x, .int .i64 a, .int .i64 b] w fun e w' => e = .returned (.bool (inB x a b)) ∧ w' = w := by
  by_cases h0 : a ≤ x
  · by_cases h1 : x ≤ b
    · have hv : inB x a b = true := by simp [inB, h0, h1]
      have HV := hide hv
      clear hv
      go_enter Tryz.func45, Tryz.ntmps45
      go_wp2
      go_ret
      exact ⟨by rw [HV.out]; simp, rfl⟩
    · have hv : inB x a b = false := by simp [inB, h1]
      have HV := hide hv
      clear hv
      go_enter Tryz.func45, Tryz.ntmps45
      go_wp2
      go_ret
      exact ⟨by rw [HV.out]; simp, rfl⟩
  · have hv : inB x a b = false := by simp [inB, h0]
    have HV := hide hv
    clear hv
    go_enter Tryz.func45, Tryz.ntmps45
    go_wp2
    go_ret
    exact ⟨by rw [HV.out]; simp, rfl⟩
end Go.Proofs.YtggjillpfclajaaGreat
