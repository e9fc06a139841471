
/- impl.rowsOf, impl.flagsOf and laws.toBoolS by their contracts. -/
import Derived.Test.YtgjbenbodegnjaaCom
import Derived.Test.YtgjbenbodegnjaaBIn
import Derived.Deep.OwnRows
namespace Go.Proofs.Ytgjbenbodegnjaa.Kit
open Go.RowKit
/-- The first j flags are copiedB, the others are false yet. -/
def copiedB (j : Nat) (xs : List Bool) : List Bool := xs.take j ++ List.replicate (xs.length - j) false
theorem copied_lengthB (j : Nat) (xs : List Bool) (h : j ≤ xs.length) : (copiedB j xs).length = xs.length := by simp [copiedB]; omega
theorem copied_zeroB (xs : List Bool) : copiedB 0 xs = List.replicate xs.length false := by simp [copiedB]
theorem copied_allB (xs : List Bool) : copiedB xs.length xs = xs := by simp [copiedB]
theorem copied_cellB (j : Nat) (xs : List Bool) (h : j < xs.length) : (fc (copiedB j xs))[j]? = some (.bool false) := by
  unfold fc copiedB
  have e : (List.map (fun z => Value.bool z) (xs.take j)).length = j := by simp; omega
  rw [List.map_append, List.getElem?_append_right (by omega), e, Nat.sub_self, List.map_replicate, List.getElem?_replicate, if_pos (by omega)]
theorem copied_setB (j : Nat) (xs : List Bool) (h : j < xs.length) : (fc (copiedB j xs)).set j (.bool xs[j]) = fc (copiedB (j + 1) xs) := by
  have e : (copiedB j xs).set j xs[j] = copiedB (j + 1) xs := by
    unfold copiedB
    rw [List.set_append_right _ _ (by simp; omega), List.take_succ_eq_append_getElem h, List.length_take, Nat.min_eq_left (by omega), Nat.sub_self, show xs.length - j = (xs.length - (j + 1)) + 1 by omega, List.replicate_succ, List.set_cons_zero, List.append_assoc]
    rfl
  rw [← e]
  simp [fc, List.map_set]
theorem made_flags (w : World) (xs : List Bool) (h : xs.length ≤ 8388608) (e : TypeId) : ROwns (w.alloc (.cells (madeCells #[.bool false] xs.length) e)) w.heap.size e (.slice (some ⟨w.heap.size, 0, none⟩) xs.length xs.length) (fc (copiedB 0 xs)) := by
  have e1 : (madeCells #[.bool false] xs.length).toList = fc (copiedB 0 xs) := by rw [toList_madeCells_one, copied_zeroB]; simp [fc]
  have e2 : (madeCells #[.bool false] xs.length).size = xs.length := by rw [← Array.length_toList, e1, fc_length, copied_lengthB 0 xs (Nat.zero_le _)]
  have := ROwns.lit w w.heap.size e (madeCells #[.bool false] xs.length) (Nat.le_refl _) (by rw [e2]; unfold maxLen; omega)
  rwa [e1, e2] at this
/-- One more flag copiedB. -/
theorem copied_next {wr : World} {base g n : Nat} {e : TypeId} {j : Nat} {xs : List Bool} (hn : xs.length = n) (hj : j < n) (h : ROwns wr base e (.slice (some ⟨g, 0, none⟩) n n) (fc (copiedB j xs))) :
    ROwns (wr.setCell ⟨g, j, none⟩ (.bool (xs[j]'(by omega)))) base e (.slice (some ⟨g, 0, none⟩) n n) (fc (copiedB (j + 1) xs)) ∧ wr.cell? ⟨g, j, none⟩ = some (.bool false) ∧ wr.frozen? ⟨g, j, none⟩ = false ∧ g < wr.heap.size := by
  have hml : (fc (copiedB j xs)).length = n := by rw [fc_length, copied_lengthB j xs (by omega), hn]
  obtain ⟨g2, c2, e1, q2, q3, -, q5, -⟩ := h.at j (by omega)
  rw [copied_cellB j xs (by omega)] at q2
  simp only [Value.slice.injEq, Option.some.injEq, Addr.mk.injEq] at e1
  obtain ⟨⟨rfl, -, -⟩, -, rfl⟩ := e1
  have O1 : ROwns wr base e (.slice (some ⟨g, 0, none⟩) (fc (copiedB j xs)).length n) (fc (copiedB j xs)) := by rw [hml]; exact h
  have O2 := O1.stored j (.bool (xs[j]'(by omega)))
  rw [copied_setB j xs (by omega), hml] at O2
  exact ⟨O2.1, q2, q3, q5⟩
end Go.Proofs.Ytgjbenbodegnjaa.Kit
namespace Go.Proofs.Ytgjbenbodegnjaa
open Go.RowKit Kit
theorem Try.u22 : Try.prog.underlying 22 = some (.slice 4) := by kernel_rfl
theorem Try.i4 : (Try.prog.info? 4).map (fun i => (i.zero, i.size, i.bytes)) = some (some (.bool false), 1, 1) := by kernel_rfl
theorem make_fl (n : Nat) (h : n ≤ 8388608) (w : World) : (Instr.makeSlice 22 (.int .i64 (n : Int)) (.int .i64 (n : Int))).run Try.prog w = .ok (.slice (some ⟨w.heap.size, 0, none⟩) n n) (w.alloc (.cells (madeCells #[.bool false] n) 4)) :=
  run_make_row' 22 4 (.bool false) 1 Try.u22 Try.i4 rfl .i64 .i64 n (by omega) (by omega) w
set_option maxRecDepth 100000 in
set_option maxHeartbeats 1600000 in
theorem toB_anyB (v : Value) (xs : List Bool) (w : World) (hv : RFl w v xs) (hl : xs.length ≤ 1048576) :
    Calls Try.prog 13 #[v] w fun e w' => ∃ u, e = .returned u ∧ ROwns w' w.heap.size 4 u (fc xs) ∧ Below w.heap.size w w' := by
  obtain ⟨a, c, rfl, hc⟩ := hv
  have HC := hide hc
  clear hc
  have mk := make_fl xs.length (by omega)
  go_enter Try.func13, Try.ntmps13
  go_wp2
  go_loopw [4] (fun i wr => ∃ j : Nat, j ≤ xs.length ∧ i = .int .i64 j ∧ ROwns wr w.heap.size 4 (.slice (some ⟨w.heap.size, 0, none⟩) xs.length xs.length) (fc (copiedB j xs)) ∧ Below w.heap.size w wr) (fun i _ => xs.length - (intOf i).toNat)
  case atStart => exact ⟨0, Nat.zero_le _, rfl, made_flags w xs (by omega) 4, (Below.refl _ w).alloc (Nat.le_refl _) _⟩
  case round =>
    obtain ⟨j, hj, rfl, hown, hb⟩ := hrel
    by_cases hlt : j < xs.length
    · obtain ⟨g, off, rfl, hg, k1⟩ := HC.out j hlt
      have q1 : wr.cell? ⟨g, off + j, none⟩ = some (.bool xs[j]) := (hb.cell (p := ⟨g, off + j, none⟩) hg).trans k1
      obtain ⟨O2, q2, q3, q4⟩ := copied_next rfl hlt hown
      have HO := hide (And.intro O2 (hb.setCell (p := ⟨w.heap.size, j, none⟩) (Nat.le_refl _) (.bool xs[j])))
      obtain ⟨t, ht⟩ : ∃ t, xs[j] = t := ⟨_, rfl⟩
      rw [ht] at q1 HO
      have hne : ¬ g = w.heap.size := by omega
      have j0 : (0 : Int) ≤ (j : Int) := by omega
      have j1 : (j : Int) < (xs.length : Int) := by omega
      clear hown hb O2 ht k1 mk
      go_wp2
      go_roundw
      case rel => exact ⟨j + 1, by omega, by go_num, HO.out.1, HO.out.2⟩
      case measure => simp [intOf]; omega
    · have hjl : j = xs.length := by omega
      have HR := hide (And.intro hown hb)
      have HJ := hide hjl
      clear hown hb hjl mk
      go_wp2
      go_ret
      exact ⟨_, rfl, by have := HR.out.1; rwa [HJ.out, copied_allB] at this, HR.out.2⟩

end Go.Proofs.Ytgjbenbodegnjaa
