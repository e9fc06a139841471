/- spec.ReadInode by its contract. -/
import Derived.Test.YthgcidgdgileiaaArg
namespace Go.Proofs.Ythgcidgdgileiaa
open Go.RowKit Kit
theorem readA (w : World) (a b c d : Int) : AtT 26 (((w.alloc (Obj.cells #[.int .i64 0, .int .i64 0, .slice none 0 0] 26)).alloc (Obj.cells #[.int .i64 c, .int .i64 d] 3)).alloc (Obj.cells #[.int .i64 a, .int .i64 b, .slice (some ⟨w.heap.size + 1, 0, none⟩) 2 2] 26)).drew w.heap.size 0 0 (.slice none 0 0) ∧
    AtT 26 (((w.alloc (Obj.cells #[.int .i64 0, .int .i64 0, .slice none 0 0] 26)).alloc (Obj.cells #[.int .i64 c, .int .i64 d] 3)).alloc (Obj.cells #[.int .i64 a, .int .i64 b, .slice (some ⟨w.heap.size + 1, 0, none⟩) 2 2] 26)).drew (w.heap.size + 1 + 1) a b (.slice (some ⟨w.heap.size + 1, 0, none⟩) 2 2) ∧
    ROwns (((w.alloc (Obj.cells #[.int .i64 0, .int .i64 0, .slice none 0 0] 26)).alloc (Obj.cells #[.int .i64 c, .int .i64 d] 3)).alloc (Obj.cells #[.int .i64 a, .int .i64 b, .slice (some ⟨w.heap.size + 1, 0, none⟩) 2 2] 26)).drew (w.heap.size + 1) 3 (.slice (some ⟨w.heap.size + 1, 0, none⟩) 2 2) (ic [c, d]) ∧
    Below w.heap.size w (((w.alloc (Obj.cells #[.int .i64 0, .int .i64 0, .slice none 0 0] 26)).alloc (Obj.cells #[.int .i64 c, .int .i64 d] 3)).alloc (Obj.cells #[.int .i64 a, .int .i64 b, .slice (some ⟨w.heap.size + 1, 0, none⟩) 2 2] 26)).drew := by
  refine ⟨heap_new3 w _ _ _, ?_, ?_, ?_⟩
  · have := AtT.new 26 ((w.alloc (Obj.cells #[.int .i64 0, .int .i64 0, .slice none 0 0] 26)).alloc (Obj.cells #[.int .i64 c, .int .i64 d] 3)) a b (.slice (some ⟨w.heap.size + 1, 0, none⟩) 2 2)
    rw [World.size_alloc, World.size_alloc] at this
    exact this
  · have := ((ROwns.lit (w.alloc (Obj.cells #[.int .i64 0, .int .i64 0, .slice none 0 0] 26)) (w.heap.size + 1) 3 #[.int .i64 c, .int .i64 d] (by simp) (by simp [maxLen])).alloc (Obj.cells #[.int .i64 a, .int .i64 b, .slice (some ⟨w.heap.size + 1, 0, none⟩) 2 2] 26)).drew
    rw [World.size_alloc] at this
    exact this
  · exact ((((Below.refl _ w).alloc (Nat.le_refl _) _).alloc (by simp) _).alloc (by simp; omega) _).drew
theorem readB (w : World) (a b c d : Int) : AtT 26 (((w.alloc (Obj.cells #[.int .i64 0, .int .i64 0, .slice none 0 0] 26)).alloc (Obj.cells #[.int .i64 a, .int .i64 b, .slice (some ⟨w.heap.size + 1 + 1, 0, none⟩) 2 2] 26)).alloc (Obj.cells #[.int .i64 c, .int .i64 d] 3)).drew w.heap.size 0 0 (.slice none 0 0) ∧
    AtT 26 (((w.alloc (Obj.cells #[.int .i64 0, .int .i64 0, .slice none 0 0] 26)).alloc (Obj.cells #[.int .i64 a, .int .i64 b, .slice (some ⟨w.heap.size + 1 + 1, 0, none⟩) 2 2] 26)).alloc (Obj.cells #[.int .i64 c, .int .i64 d] 3)).drew (w.heap.size + 1) a b (.slice (some ⟨w.heap.size + 1 + 1, 0, none⟩) 2 2) ∧
    ROwns (((w.alloc (Obj.cells #[.int .i64 0, .int .i64 0, .slice none 0 0] 26)).alloc (Obj.cells #[.int .i64 a, .int .i64 b, .slice (some ⟨w.heap.size + 1 + 1, 0, none⟩) 2 2] 26)).alloc (Obj.cells #[.int .i64 c, .int .i64 d] 3)).drew (w.heap.size + 1) 3 (.slice (some ⟨w.heap.size + 1 + 1, 0, none⟩) 2 2) (ic [c, d]) ∧
    Below w.heap.size w (((w.alloc (Obj.cells #[.int .i64 0, .int .i64 0, .slice none 0 0] 26)).alloc (Obj.cells #[.int .i64 a, .int .i64 b, .slice (some ⟨w.heap.size + 1 + 1, 0, none⟩) 2 2] 26)).alloc (Obj.cells #[.int .i64 c, .int .i64 d] 3)).drew := by
  refine ⟨heap_new3 w _ _ _, ?_, ?_, ?_⟩
  · have := (AtT.new 26 (w.alloc (Obj.cells #[.int .i64 0, .int .i64 0, .slice none 0 0] 26)) a b (.slice (some ⟨w.heap.size + 1 + 1, 0, none⟩) 2 2)).alloc (Obj.cells #[.int .i64 c, .int .i64 d] 3)
    rw [World.size_alloc] at this
    exact this
  · have := (ROwns.lit ((w.alloc (Obj.cells #[.int .i64 0, .int .i64 0, .slice none 0 0] 26)).alloc (Obj.cells #[.int .i64 a, .int .i64 b, .slice (some ⟨w.heap.size + 1 + 1, 0, none⟩) 2 2] 26)) (w.heap.size + 1) 3 #[.int .i64 c, .int .i64 d] (by simp) (by simp [maxLen])).drew
    rw [World.size_alloc, World.size_alloc] at this
    exact this
  · exact ((((Below.refl _ w).alloc (Nat.le_refl _) _).alloc (by simp) _).alloc (by simp; omega) _).drew

set_option maxHeartbeats 1600000 in
theorem specRead_len (s : ByteArray) (w : World) (h : s.size ≠ 4) (_h1 : s.size ≤ 1048576) :
    Calls Try.prog 14 #[.string s] w fun e w' => e = .returned (.tuple #[.agg #[.int .i64 0, .int .i64 0, .slice none 0 0], .bool false]) ∧ Below w.heap.size w w' := by
  have h2 : ((s.size : Int) != 4) = true := by simp; omega
  go_enter Try.func14, Try.ntmps14
  go_wp2
  refine bodyPost_ret (v := .tuple #[.agg #[.int .i64 0, .int .i64 0, .slice none 0 0], .bool false]) (by simp [results, go_sem]) rfl ⟨rfl, by go_grown⟩

set_option maxRecDepth 100000 in
set_option maxHeartbeats 1600000 in
theorem specRead_four (s : ByteArray) (w : World) (hs : s.size = 4) (a b c d : Nat) (ha : (s[0]).toNat = a) (hb : (s[1]).toNat = b) (hc : (s[2]).toNat = c) (hd : (s[3]).toNat = d) (r : Bool) (hr : okR a b c d = r) :
    Calls Try.prog 14 #[.string s] w fun e w' => ∃ v, e = .returned (.tuple #[.agg #[.int .i64 (if r then (a : Int) else 0), .int .i64 (if r then (b : Int) else 0), v], .bool r]) ∧ ROwns w' w.heap.size 3 v (ic (if r then [(c : Int), (d : Int)] else [])) ∧ Below w.heap.size w w' := by
  have C1 := hide (specOk_two a b c d)
  rw [hr] at C1
  clear hr
  have h4 : (s.size : Int) = 4 := by omega
  have i0 : (0 : Int) < (s.size : Int) := by omega
  have i1 : (1 : Int) < (s.size : Int) := by omega
  have i2 : (2 : Int) < (s.size : Int) := by omega
  have i3 : (3 : Int) < (s.size : Int) := by omega
  have a1 : a < 256 := by have := (s[0]).toNat_lt; omega
  have b1 : b < 256 := by have := (s[1]).toNat_lt; omega
  have c1 : c < 256 := by have := (s[2]).toNat_lt; omega
  have d1 : d < 256 := by have := (s[3]).toNat_lt; omega
  go_enter Try.func14, Try.ntmps14
  go_wp2
  go_region
  · go_wp2_with fail
    obtain ⟨X0, X1, O0, B0⟩ := readA w a b c d
    refine (C1.out _ _ O0.rints).mono ?_
    intro e w1 hh
    obtain ⟨rfl, B1⟩ := hh
    have Y0 : AtT 26 w1 w.heap.size 0 0 (.slice none 0 0) := X0.below B1 X0.lt
    have Y1 : AtT 26 w1 (w.heap.size + 1 + 1) a b (.slice (some ⟨w.heap.size + 1, 0, none⟩) 2 2) := X1.below B1 X1.lt
    have O1 : ROwns w1 (w.heap.size + 1) 3 (.slice (some ⟨w.heap.size + 1, 0, none⟩) 2 2) (ic [(c : Int), (d : Int)]) := O0.below B1 (Nat.le_refl _)
    have b1 : Below w.heap.size w w1 := B0.trans (B1.mono B0.size)
    obtain ⟨q0, q1, q2, z0, z1, z2, m0⟩ := res_cells (w1 := w1) (b := w.heap.size) Y0
    obtain ⟨d0, d1, d2⟩ := Y1.cells
    have m1 := Y1.lt
    have HO := hide O1
    have HB := hide b1
    clear B1 Y0 Y1 O1 b1 X0 X1 O0 B0 C1 ha hb hc hd hs i0 i1 i2 i3
    cases r with
    | true =>
      go_wp2
      refine bodyPost_ret (v := .tuple #[.agg #[.int .i64 a, .int .i64 b, .slice (some ⟨w.heap.size + 1, 0, none⟩) 2 2], .bool true]) (by simp [results, go_sem, q0, q1, q2]) rfl ⟨_, rfl, ?_, ?_⟩
      · exact ((((HO.out.setCell_other (by omega) _).setCell_other (by omega) _).setCell_other (by omega) _).base_le (by omega))
      · exact ((HB.out.setCell (Nat.le_refl _) _).setCell (Nat.le_refl _) _).setCell (Nat.le_refl _) _
    | false =>
      go_wp2
      refine bodyPost_ret (v := .tuple #[.agg #[.int .i64 0, .int .i64 0, .slice none 0 0], .bool false]) (by simp [results, go_sem, q0, q1, q2]) rfl ⟨_, rfl, ROwns.nil _ _ _, ?_⟩
      exact ((HB.out.setCell (Nat.le_refl _) _).setCell (Nat.le_refl _) _).setCell (Nat.le_refl _) _
  · go_wp2_with fail
    obtain ⟨X0, X1, O0, B0⟩ := readB w a b c d
    refine (C1.out _ _ O0.rints).mono ?_
    intro e w1 hh
    obtain ⟨rfl, B1⟩ := hh
    have Y0 : AtT 26 w1 w.heap.size 0 0 (.slice none 0 0) := X0.below B1 X0.lt
    have Y1 : AtT 26 w1 (w.heap.size + 1) a b (.slice (some ⟨w.heap.size + 1 + 1, 0, none⟩) 2 2) := X1.below B1 X1.lt
    have O1 : ROwns w1 (w.heap.size + 1) 3 (.slice (some ⟨w.heap.size + 1 + 1, 0, none⟩) 2 2) (ic [(c : Int), (d : Int)]) := O0.below B1 (Nat.le_refl _)
    have b1 : Below w.heap.size w w1 := B0.trans (B1.mono B0.size)
    obtain ⟨q0, q1, q2, z0, z1, z2, m0⟩ := res_cells (w1 := w1) (b := w.heap.size) Y0
    obtain ⟨d0, d1, d2⟩ := Y1.cells
    have m1 := Y1.lt
    have HO := hide O1
    have HB := hide b1
    clear B1 Y0 Y1 O1 b1 X0 X1 O0 B0 C1 ha hb hc hd hs i0 i1 i2 i3
    cases r with
    | true =>
      go_wp2
      refine bodyPost_ret (v := .tuple #[.agg #[.int .i64 a, .int .i64 b, .slice (some ⟨w.heap.size + 1 + 1, 0, none⟩) 2 2], .bool true]) (by simp [results, go_sem, q0, q1, q2]) rfl ⟨_, rfl, ?_, ?_⟩
      · exact ((((HO.out.setCell_other (by omega) _).setCell_other (by omega) _).setCell_other (by omega) _).base_le (by omega))
      · exact ((HB.out.setCell (Nat.le_refl _) _).setCell (Nat.le_refl _) _).setCell (Nat.le_refl _) _
    | false =>
      go_wp2
      refine bodyPost_ret (v := .tuple #[.agg #[.int .i64 0, .int .i64 0, .slice none 0 0], .bool false]) (by simp [results, go_sem, q0, q1, q2]) rfl ⟨_, rfl, ROwns.nil _ _ _, ?_⟩
      exact ((HB.out.setCell (Nat.le_refl _) _).setCell (Nat.le_refl _) _).setCell (Nat.le_refl _) _
end Go.Proofs.Ythgcidgdgileiaa
