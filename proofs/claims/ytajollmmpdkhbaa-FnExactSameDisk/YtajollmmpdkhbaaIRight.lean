
/- (impl.inodeRecord).ptrsRight and (impl.inodeRecord).right by their contracts. -/
import Derived.Test.YtajollmmpdkhbaaCom
import Derived.Test.YtajollmmpdkhbaaIOk
namespace Go.Proofs.Ytajollmmpdkhbaa
open Go.RowKit Kit
theorem Try.u3 : Try.prog.underlying 3 = some (.int .i64) := by kernel_rfl
theorem eqArrD (d : Nat) (p q : Int) (w : World) : (Op.equalIn (d + 1 + 1) 79 (.agg #[.int .i64 p, .int .i64 q]) (.agg #[.int .i64 0, .int .i64 0])).run Try.prog w = .ok ((p == 0) && (q == 0)) w := by
  obtain ⟨i0, hi, hz0, hz1, hz2⟩ := info_parts Try.i3
  unfold Op.equalIn
  have hr : ∀ a b, (Op.equalIn (d + 1) 3 (.int .i64 a) (.int .i64 b)).run Try.prog w = .ok (a == b) w := fun a b => run_equalIn_int w d 3 .i64 .i64 a b Try.u3
  simp [run_underlying Try.u79, sizeOf, typeInfo, hi, hz1, part, go_sem, hr, Std.Legacy.Range.forIn_eq_forIn_range', List.range', List.forIn_cons]
  by_cases hp : p = 0 <;> by_cases hq : q = 0 <;> simp [hp, hq]
theorem eqArr (p q : Int) (w : World) : (Op.equalIn 9999 79 (.agg #[.int .i64 p, .int .i64 q]) (.agg #[.int .i64 0, .int .i64 0])).run Try.prog w = .ok ((p == 0) && (q == 0)) w := eqArrD 9997 p q w
/-- Both pointers are in their range. -/
def ptrsR (p q : Int) : Bool := decide (0 ≤ p ∧ p ≤ 16 ∧ 0 ≤ q ∧ q ≤ 16)
theorem ptrsR_true {p q : Int} (h : 0 ≤ p ∧ p ≤ 16 ∧ 0 ≤ q ∧ q ≤ 16) : true = ptrsR p q := by simp only [ptrsR]; exact (decide_eq_true h).symm
theorem ptrsR_false {p q : Int} (h : ¬ (0 ≤ p ∧ p ≤ 16 ∧ 0 ≤ q ∧ q ≤ 16)) : false = ptrsR p q := by simp only [ptrsR]; exact (decide_eq_false h).symm

set_option maxRecDepth 100000 in
set_option maxHeartbeats 1600000 in
theorem ptrs_any (k l p q : Int) (w : World) :
    Calls Try.prog 104 #[.agg #[.int .i64 k, .int .i64 l, .int .i64 p, .int .i64 q]] w fun e w' => e = .returned (.bool (ptrsR p q)) ∧ Below w.heap.size w w' := by
  have a0 := arr0 p q
  have a1 := arr1 p q
  go_enter Try.func104, Try.ntmps104
  go_wp2
  go_rounds 3
  all_goals (go_ret; refine ⟨ret_bool ?_, by go_grown⟩)
  all_goals first | (refine ptrsR_true ?_; omega) | (refine ptrsR_false ?_; omega) 

theorem okR_of_ptrs {k l p q : Int} (hk : k = 1 ∨ k = 2) (h0 : 0 ≤ l) (h1 : l ≤ 200) : ptrsR p q = okR k l p q := by
  by_cases h : 0 ≤ p ∧ p ≤ 16 ∧ 0 ≤ q ∧ q ≤ 16
  · rw [← ptrsR_true h, ← okR_true (by omega)]
  · rw [← ptrsR_false h, ← okR_false (by omega)]
set_option maxRecDepth 100000 in
set_option maxHeartbeats 1600000 in
theorem right_anyI (k l p q : Int) (w : World) :
    Calls Try.prog 95 #[.agg #[.int .i64 k, .int .i64 l, .int .i64 p, .int .i64 q]] w fun e w' => e = .returned (.bool (okR k l p q)) ∧ Below w.heap.size w w' := by
  have eA := eqArr p q
  by_cases h0 : k = 0
  · subst h0
    go_enter Try.func95, Try.ntmps95
    go_wp2
    all_goals (go_ret; refine ⟨ret_bool ?_, by go_grown⟩)
    all_goals first | (refine okR_true ?_; omega) | (refine okR_false ?_; omega)
  have k0 : (k == 0) = false := by simpa using h0
  by_cases h1 : k = 1
  · subst h1
    have HP := hide (okR_of_ptrs (k := 1) (l := l) (p := p) (q := q) (.inl rfl))
    clear eA k0 h0
    go_enter Try.func95, Try.ntmps95
    go_wp2_with (go_at_call 104; refine (ptrs_any _ _ _ _ _).mono ?_; rintro e w1 ⟨rfl, B1⟩)
    all_goals go_ret
    all_goals first | (refine ⟨ret_bool ?_, by go_grown⟩; refine okR_false ?_; omega) | (refine ⟨ret_bool (HP.out ‹_› ‹_›), ((Below.refl _ w).alloc (Nat.le_refl _) _).trans (B1.mono (by simp))⟩)
  have k1 : (k == 1) = false := by simpa using h1
  by_cases h2 : k = 2
  · subst h2
    have HP := hide (okR_of_ptrs (k := 2) (l := l) (p := p) (q := q) (.inr rfl))
    clear eA k0 h0 k1 h1
    go_enter Try.func95, Try.ntmps95
    go_wp2_with (go_at_call 104; refine (ptrs_any _ _ _ _ _).mono ?_; rintro e w1 ⟨rfl, B1⟩)
    all_goals go_ret
    all_goals first | (refine ⟨ret_bool ?_, by go_grown⟩; refine okR_false ?_; omega) | (refine ⟨ret_bool (HP.out ‹_› ‹_›), ((Below.refl _ w).alloc (Nat.le_refl _) _).trans (B1.mono (by simp))⟩)
  have k2 : (k == 2) = false := by simpa using h2
  have HP := hide (okR_false (k := k) (l := l) (p := p) (q := q) (by omega))
  clear eA h0 h1 h2
  go_enter Try.func95, Try.ntmps95
  go_wp2
  go_ret
  exact ⟨ret_bool HP.out, by go_grown⟩
end Go.Proofs.Ytajollmmpdkhbaa
