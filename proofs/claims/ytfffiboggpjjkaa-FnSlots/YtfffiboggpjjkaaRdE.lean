/- impl.ReadBlock by its contract. -/
import Derived.Test.YtfffiboggpjjkaaRdR
namespace Go.Proofs.Ytfffiboggpjjkaa
open Go.RowKit Kit
set_option maxHeartbeats 1600000 in
theorem implRead_stop (s : ByteArray) (w : World) (hs : s.size ≤ 1048576) (hr : readR s = none) :
    Calls Try.prog 12 #[.string s] w fun e w' => e = .returned (.tuple #[.agg #[.bool false, .slice none 0 0, .string ⟨#[]⟩], .bool false]) ∧ Below w.heap.size w w' := by
  have C := hide (fun b W h => read_stop b s W h hs hr)
  clear hr
  go_enter Try.func12, Try.ntmps12
  have A0 : AtC ((w.alloc (.cells #[.bool false, .slice none 0 0, .string ⟨#[]⟩] 26)).alloc (.cells #[.string s, .int .i64 0] 55)) (w.heap.size + 1) 55 #[.string s, .int .i64 0] := by
    have := AtC.new (w.alloc (.cells #[.bool false, .slice none 0 0, .string ⟨#[]⟩] 26)) 55 #[.string s, .int .i64 0]
    simpa using this
  have HA0 := hide A0
  clear A0
  go_wp2_with fail
  refine (C.out (w.heap.size + 1) _ HA0.out).mono ?_
  rintro e w1 ⟨rfl, G1⟩
  have X1 : AtC w1 w.heap.size 26 #[.bool false, .slice none 0 0, .string ⟨#[]⟩] := ((AtC.new w 26 _).alloc _).grown G1 (by simp)
  have B1 : Below w.heap.size w w1 := (((Below.refl _ w).alloc (Nat.le_refl _) _).alloc (by simp) _).trans (below_of_row G1 (by simp) (by simp; omega))
  obtain ⟨q0, q1, q2, ql⟩ := X1.three
  obtain ⟨f0, f1, f2⟩ := X1.frz
  have HB := hide B1
  clear X1 B1 G1
  go_wp2
  refine bodyPost_ret (v := .tuple #[.agg #[.bool false, .slice none 0 0, .string ⟨#[]⟩], .bool false]) (by simp [results, go_sem, q0, q1, q2]) rfl ⟨rfl, ((HB.out.setCell (Nat.le_refl _) _).setCell (Nat.le_refl _) _).setCell (Nat.le_refl _) _⟩
set_option maxHeartbeats 1600000 in
theorem implRead_good (s : ByteArray) (d : Bool) (xs : List Sl) (t : ByteArray) (w : World) (hs : s.size ≤ 1048576) (hr : readR s = some (d, xs, t)) :
    Calls Try.prog 12 #[.string s] w fun e w' => ∃ v, e = .returned (.tuple #[.agg #[.bool d, v, .string t], .bool true]) ∧ SOwns w' w.heap.size 36 v xs ∧ Below w.heap.size w w' := by
  have C := hide (fun b W h => read_good b s d xs t W h hs hr)
  clear hr
  go_enter Try.func12, Try.ntmps12
  have A0 : AtC ((w.alloc (.cells #[.bool false, .slice none 0 0, .string ⟨#[]⟩] 26)).alloc (.cells #[.string s, .int .i64 0] 55)) (w.heap.size + 1) 55 #[.string s, .int .i64 0] := by
    have := AtC.new (w.alloc (.cells #[.bool false, .slice none 0 0, .string ⟨#[]⟩] 26)) 55 #[.string s, .int .i64 0]
    simpa using this
  have HA0 := hide A0
  clear A0
  go_wp2_with fail
  refine (C.out (w.heap.size + 1) _ HA0.out).mono ?_
  rintro e w1 ⟨v, rfl, O1, G1⟩
  obtain ⟨a2, c2, rfl, -⟩ := O1.form
  have X1 : AtC w1 w.heap.size 26 #[.bool false, .slice none 0 0, .string ⟨#[]⟩] := ((AtC.new w 26 _).alloc _).grown G1 (by simp)
  have B1 : Below w.heap.size w w1 := (((Below.refl _ w).alloc (Nat.le_refl _) _).alloc (by simp) _).trans (below_of_row G1 (by simp) (by simp; omega))
  have O2 : SOwns w1 (w.heap.size + 1) 36 (.slice a2 xs.length c2) xs := O1.base_le (by simp)
  obtain ⟨q0, q1, q2, ql⟩ := X1.three
  obtain ⟨f0, f1, f2⟩ := X1.frz
  have HB := hide B1
  have HO := hide O2
  clear X1 B1 G1 O1 O2
  go_wp2
  refine bodyPost_ret (v := .tuple #[.agg #[.bool d, .slice a2 xs.length c2, .string t], .bool true]) (by simp [results, go_sem, q0, q1, q2]) rfl ⟨_, rfl, ?_, ((HB.out.setCell (Nat.le_refl _) _).setCell (Nat.le_refl _) _).setCell (Nat.le_refl _) _⟩
  exact (((HO.out.setCell_low (by omega) _).setCell_low (by omega) _).setCell_low (by omega) _).base_le (by omega)
theorem implRead_any (s : ByteArray) (w : World) (hs : s.size ≤ 1048576) :
    Calls Try.prog 12 #[.string s] w fun e w' => ∃ v, e = .returned (.tuple #[.agg #[.bool (rD s), v, .string (rT s)], .bool (rOk s)]) ∧ SOwns w' w.heap.size 36 v (rX s) ∧ Below w.heap.size w w' := by
  cases hr : readR s with
  | none =>
    obtain ⟨e1, e2, e3, e4⟩ := r_none hr
    rw [e1, e2, e3, e4]
    refine (implRead_stop s w hs hr).mono ?_
    rintro e w1 ⟨rfl, B1⟩
    exact ⟨_, rfl, SOwns.nil _ _ _, B1⟩
  | some x =>
    obtain ⟨d, xs, t⟩ := x
    obtain ⟨e1, e2, e3, e4⟩ := r_some hr
    rw [e1, e2, e3, e4]
    exact implRead_good s d xs t w hs hr
end Go.Proofs.Ytfffiboggpjjkaa
