
/- spec.InodeOk by its contract. -/
import Derived.Test.YtajollmmpdkhbaaCom
import Derived.Test.YtajollmmpdkhbaaIEq
namespace Go.Proofs.Ytajollmmpdkhbaa
open Go.RowKit Kit
/-- An inode of two pointers is right. -/
def okR (k l p q : Int) : Bool := decide ((k = 0 ∧ l = 0 ∧ p = 0 ∧ q = 0) ∨ ((k = 1 ∨ k = 2) ∧ 0 ≤ l ∧ l ≤ 200 ∧ 0 ≤ p ∧ p ≤ 16 ∧ 0 ≤ q ∧ q ≤ 16))
theorem okR_true {k l p q : Int} (h : (k = 0 ∧ l = 0 ∧ p = 0 ∧ q = 0) ∨ ((k = 1 ∨ k = 2) ∧ 0 ≤ l ∧ l ≤ 200 ∧ 0 ≤ p ∧ p ≤ 16 ∧ 0 ≤ q ∧ q ≤ 16)) : true = okR k l p q := by simp only [okR]; exact (decide_eq_true h).symm
theorem okR_false {k l p q : Int} (h : ¬ ((k = 0 ∧ l = 0 ∧ p = 0 ∧ q = 0) ∨ ((k = 1 ∨ k = 2) ∧ 0 ≤ l ∧ l ≤ 200 ∧ 0 ≤ p ∧ p ≤ 16 ∧ 0 ≤ q ∧ q ≤ 16))) : false = okR k l p q := by simp only [okR]; exact (decide_eq_false h).symm
theorem okR_z {k l p q : Int} (hk : k = 0) (hp : (p != 0) = true) : false = okR k l p q := okR_false (by simp at hp; omega)
theorem okR_zq {k l p q : Int} (hk : k = 0) (hp : (q != 0) = true) : false = okR k l p q := okR_false (by simp at hp; omega)
theorem okR_l {k l p q : Int} (hk : k = 0) (hp : (p != 0) = false) (hq : (q != 0) = false) : (l == 0) = okR k l p q := by
  simp at hp hq
  subst hk hp hq
  by_cases h : l = 0
  · rw [← okR_true (by omega)]; simp [h]
  · rw [← okR_false (by omega)]; simp [h]
theorem RInts.two {w : World} {v : Value} {p q : Int} (h : RInts w v [p, q]) : ∃ g off c, v = .slice (some ⟨g, off, none⟩) 2 c ∧ g < w.heap.size ∧ w.cell? ⟨g, off, none⟩ = some (.int .i64 p) ∧ w.cell? ⟨g, off + 1, none⟩ = some (.int .i64 q) := by
  obtain ⟨a, c, rfl, h⟩ := h
  obtain ⟨g, off, rfl, hg, h0⟩ := h 0 (by simp)
  obtain ⟨g1, off1, e, _, h1⟩ := h 1 (by simp)
  simp at e
  obtain ⟨rfl, rfl⟩ := e
  exact ⟨g, off, c, rfl, hg, h0, h1⟩

set_option maxRecDepth 100000 in
set_option maxHeartbeats 1600000 in
theorem specOk_two (k l p q : Int) (v : Value) (w : World) (hv : RInts w v [p, q]) :
    Calls Try.prog 37 #[.agg #[.int .i64 k, .int .i64 l, v]] w fun e w' => e = .returned (.bool (okR k l p q)) ∧ Below w.heap.size w w' := by
  obtain ⟨g, off, c, rfl, hg, c0, c1⟩ := RInts.two hv
  clear hv
  go_enter Try.func37, Try.ntmps37
  go_wp2
  · go_rounds 3
    all_goals (go_ret; refine ⟨ret_bool ?_, by go_grown⟩)
    all_goals first | (refine okR_true ?_; omega) | (refine okR_false ?_; omega) | exact okR_z ‹k = 0› ‹(p != 0) = true› | exact okR_zq ‹k = 0› ‹(q != 0) = true› | exact okR_l ‹k = 0› ‹(p != 0) = false› ‹(q != 0) = false›
  all_goals (go_ret; refine ⟨ret_bool ?_, by go_grown⟩; refine okR_false ?_; omega)

set_option maxRecDepth 100000 in
set_option maxHeartbeats 1600000 in
theorem specOk_other (k l : Int) (xs : List Int) (v : Value) (w : World) (hv : RInts w v xs) (hn : xs.length ≠ 2) :
    Calls Try.prog 37 #[.agg #[.int .i64 k, .int .i64 l, v]] w fun e w' => e = .returned (.bool false) ∧ Below w.heap.size w w' := by
  obtain ⟨a, c, rfl, -⟩ := hv
  generalize xs.length = n at *
  have h1 : ((n : Int) != 2) = true := by simp; omega
  go_enter Try.func37, Try.ntmps37
  go_wp2
  all_goals (go_ret; exact ⟨rfl, by go_grown⟩)
end Go.Proofs.Ytajollmmpdkhbaa
