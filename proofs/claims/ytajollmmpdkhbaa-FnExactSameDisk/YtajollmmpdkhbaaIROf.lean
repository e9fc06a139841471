
/- impl.recordOf and impl.InodeOk by their contracts. -/
import Derived.Test.YtajollmmpdkhbaaCom
import Derived.Test.YtajollmmpdkhbaaIRight
namespace Go.Proofs.Ytajollmmpdkhbaa
open Go.RowKit Kit

set_option maxRecDepth 100000 in
set_option maxHeartbeats 1600000 in
theorem recordOf_two (k l p q : Int) (v : Value) (w : World) (hv : RInts w v [p, q]) :
    Calls Try.prog 94 #[.agg #[.int .i64 k, .int .i64 l, v]] w fun e w' => e = .returned (.tuple #[.agg #[.int .i64 k, .int .i64 l, .int .i64 p, .int .i64 q], .bool true]) ∧ Below w.heap.size w w' := by
  obtain ⟨g, off, c, rfl, hg, c0, c1⟩ := RInts.two hv
  clear hv
  have hg1 : g < w.heap.size + 1 := by omega
  have hg2 : g < w.heap.size + 1 + 1 := by omega
  go_enter Try.func94, Try.ntmps94
  go_wp2
  go_rounds 3
  refine bodyPost_ret (v := .tuple #[.agg #[.int .i64 k, .int .i64 l, .int .i64 p, .int .i64 q], .bool true]) (by simp [results, go_sem]) rfl ⟨rfl, by go_grown⟩

set_option maxRecDepth 100000 in
set_option maxHeartbeats 1600000 in
theorem recordOf_other (k l : Int) (xs : List Int) (v : Value) (w : World) (hv : RInts w v xs) (hn : xs.length ≠ 2) :
    Calls Try.prog 94 #[.agg #[.int .i64 k, .int .i64 l, v]] w fun e w' => e = .returned (.tuple #[.agg #[.int .i64 0, .int .i64 0, .int .i64 0, .int .i64 0], .bool false]) ∧ Below w.heap.size w w' := by
  obtain ⟨a, c, rfl, -⟩ := hv
  generalize xs.length = n at *
  have h1 : ((n : Int) != 2) = true := by simp; omega
  go_enter Try.func94, Try.ntmps94
  go_wp2
  refine bodyPost_ret (v := .tuple #[.agg #[.int .i64 0, .int .i64 0, .int .i64 0, .int .i64 0], .bool false]) (by simp [results, go_sem]) rfl ⟨rfl, by go_grown⟩

set_option maxHeartbeats 1600000 in
theorem implOk_two (k l p q : Int) (v : Value) (w : World) (hv : RInts w v [p, q]) :
    Calls Try.prog 75 #[.agg #[.int .i64 k, .int .i64 l, v]] w fun e w' => e = .returned (.bool (okR k l p q)) ∧ Below w.heap.size w w' := by
  have HV := hide hv
  obtain ⟨g, off, c, rfl, -⟩ := RInts.two hv
  clear hv
  go_enter Try.func75, Try.ntmps75
  go_wp2_with fail
  refine (recordOf_two k l p q _ _ (HV.out.alloc _)).mono ?_
  rintro e w1 ⟨rfl, B1⟩
  have HB1 := hide B1
  clear B1
  go_wp2_with fail
  refine (right_anyI k l p q _).mono ?_
  rintro e w2 ⟨rfl, B2⟩
  have HB2 := hide B2
  clear B2
  go_wp2
  go_ret
  have h1 : Below w.heap.size w w1 := ((Below.refl _ w).alloc (Nat.le_refl _) _).trans (HB1.out.mono (by simp))
  exact ⟨rfl, (h1.alloc h1.size _).trans (HB2.out.mono (by have := h1.size; simp; omega))⟩

set_option maxHeartbeats 1600000 in
theorem implOk_other (k l : Int) (xs : List Int) (v : Value) (w : World) (hv : RInts w v xs) (hn : xs.length ≠ 2) :
    Calls Try.prog 75 #[.agg #[.int .i64 k, .int .i64 l, v]] w fun e w' => e = .returned (.bool false) ∧ Below w.heap.size w w' := by
  have HV := hide hv
  obtain ⟨a, c, rfl, -⟩ := hv
  go_enter Try.func75, Try.ntmps75
  go_wp2_with fail
  refine (recordOf_other k l xs _ _ (HV.out.alloc _) hn).mono ?_
  rintro e w1 ⟨rfl, B1⟩
  have HB1 := hide B1
  clear B1
  go_wp2
  go_ret
  have h1 : Below w.heap.size w w1 := ((Below.refl _ w).alloc (Nat.le_refl _) _).trans (HB1.out.mono (by simp))
  exact ⟨rfl, h1.alloc h1.size _⟩
end Go.Proofs.Ytajollmmpdkhbaa
