
/- laws.szIntS, laws.szInode, laws.toIntS and laws.toInode by their contracts. -/
import Derived.Test.YtgjbenbodegnjaaCom
import Derived.Test.YtgjbenbodegnjaaIEq
import Derived.Test.YtgjbenbodegnjaaINew
import Derived.Deep.OwnRows
namespace Go.Proofs.Ytgjbenbodegnjaa.Kit
open Go.RowKit
/-- The first j numbers are copiedI, the others are 0 yet. -/
def copiedI (j : Nat) (xs : List Int) : List Int := xs.take j ++ List.replicate (xs.length - j) 0
theorem copied_lengthI (j : Nat) (xs : List Int) (h : j ≤ xs.length) : (copiedI j xs).length = xs.length := by simp [copiedI]; omega
theorem copied_zeroI (xs : List Int) : copiedI 0 xs = List.replicate xs.length 0 := by simp [copiedI]
theorem copied_allI (xs : List Int) : copiedI xs.length xs = xs := by simp [copiedI]
theorem copied_cellI (j : Nat) (xs : List Int) (h : j < xs.length) : (ic (copiedI j xs))[j]? = some (.int .i64 0) := by
  unfold ic copiedI
  have e : (List.map (fun z => Value.int .i64 z) (xs.take j)).length = j := by simp; omega
  rw [List.map_append, List.getElem?_append_right (by omega), e, Nat.sub_self, List.map_replicate, List.getElem?_replicate, if_pos (by omega)]
theorem copied_setI (j : Nat) (xs : List Int) (h : j < xs.length) : (ic (copiedI j xs)).set j (.int .i64 xs[j]) = ic (copiedI (j + 1) xs) := by
  have e : (copiedI j xs).set j xs[j] = copiedI (j + 1) xs := by
    unfold copiedI
    rw [List.set_append_right _ _ (by simp; omega), List.take_succ_eq_append_getElem h, List.length_take, Nat.min_eq_left (by omega), Nat.sub_self, show xs.length - j = (xs.length - (j + 1)) + 1 by omega, List.replicate_succ, List.set_cons_zero, List.append_assoc]
    rfl
  rw [← e]
  simp [ic, List.map_set]
end Go.Proofs.Ytgjbenbodegnjaa.Kit
namespace Go.Proofs.Ytgjbenbodegnjaa
open Go.RowKit Kit
theorem make_nI (n : Nat) (h : n ≤ 1048576) (w : World) : (Instr.makeSlice 59 (.int .i64 (n : Int)) (.int .i64 (n : Int))).run Try.prog w = .ok (.slice (some ⟨w.heap.size, 0, none⟩) n n) (w.alloc (.cells (madeCells #[.int .i64 0] n) 3)) :=
  run_make_row' 59 3 (.int .i64 0) 8 Try.u59 Try.i3 rfl .i64 .i64 n (by omega) (by omega) w

set_option maxHeartbeats 800000 in
theorem szN_inI (k l : Int) (a : Option Addr) (n c : Nat) (w : World) (h : n ≤ 1048576) :
    Calls Try.prog 32 #[.agg #[.int .i64 k, .int .i64 l, .slice a n c], .int .i64 1048576] w fun e w' => e = .returned (.int .i64 (1048576 - (n : Int))) ∧ Below w.heap.size w w' := by
  go_enter Try.func32, Try.ntmps32
  go_wp2
  go_ret
  exact ⟨rfl, by go_grown⟩
set_option maxHeartbeats 800000 in
theorem szN_outI (k l : Int) (a : Option Addr) (n c : Nat) (w : World) (h : ¬ n ≤ 1048576) (h2 : n ≤ maxLen) :
    Calls Try.prog 32 #[.agg #[.int .i64 k, .int .i64 l, .slice a n c], .int .i64 1048576] w fun e w' => e = .returned (.int .i64 (-1)) ∧ Below w.heap.size w w' := by
  have h3 : n ≤ 9223372036854775807 := h2
  clear h2
  go_enter Try.func32, Try.ntmps32
  go_wp2
  go_ret
  exact ⟨rfl, by go_grown⟩

set_option maxRecDepth 100000 in
set_option maxHeartbeats 1600000 in
theorem toI_any (v : Value) (xs : List Int) (w : World) (hv : RInts w v xs) (hl : xs.length ≤ 1048576) :
    Calls Try.prog 37 #[v] w fun e w' => ∃ u, e = .returned u ∧ ROwns w' w.heap.size 3 u (ic xs) ∧ Below w.heap.size w w' := by
  obtain ⟨a, c, rfl, hc⟩ := hv
  have HC := hide hc
  clear hc
  have mk := make_nI xs.length hl
  go_enter Try.func37, Try.ntmps37
  go_wp2
  go_loopw [4] (fun i wr => ∃ j : Nat, j ≤ xs.length ∧ i = .int .i64 j ∧ ROwns wr w.heap.size 3 (.slice (some ⟨w.heap.size, 0, none⟩) xs.length xs.length) (ic (copiedI j xs)) ∧ Below w.heap.size w wr) (fun i _ => xs.length - (intOf i).toNat)
  case atStart =>
    refine ⟨0, Nat.zero_le _, rfl, ?_, (Below.refl _ w).alloc (Nat.le_refl _) _⟩
    have e1 : (madeCells #[.int .i64 0] xs.length).toList = ic (copiedI 0 xs) := by rw [toList_madeCells_one, copied_zeroI]; simp [ic]
    have e2 : (madeCells #[.int .i64 0] xs.length).size = xs.length := by rw [← Array.length_toList, e1, ic_length, copied_lengthI 0 xs (Nat.zero_le _)]
    have := ROwns.lit w w.heap.size 3 (madeCells #[.int .i64 0] xs.length) (Nat.le_refl _) (by rw [e2]; unfold maxLen; omega)
    rwa [e1, e2] at this
  case round =>
    obtain ⟨j, hj, rfl, hown, hb⟩ := hrel
    by_cases hlt : j < xs.length
    · obtain ⟨g, off, rfl, hg, k1⟩ := HC.out j hlt
      have q1 : wr.cell? ⟨g, off + j, none⟩ = some (.int .i64 xs[j]) := (hb.cell (p := ⟨g, off + j, none⟩) hg).trans k1
      have hml : (ic (copiedI j xs)).length = xs.length := by rw [ic_length, copied_lengthI j xs hj]
      obtain ⟨g2, c2, e1, q2, q3, -⟩ := hown.at j (by omega)
      rw [copied_cellI j xs hlt] at q2
      simp only [Value.slice.injEq, Option.some.injEq, Addr.mk.injEq] at e1
      obtain ⟨⟨rfl, -, -⟩, -, rfl⟩ := e1
      have O1 : ROwns wr w.heap.size 3 (.slice (some ⟨w.heap.size, 0, none⟩) (ic (copiedI j xs)).length xs.length) (ic (copiedI j xs)) := by rw [hml]; exact hown
      have O2 := O1.stored j (.int .i64 xs[j])
      rw [copied_setI j xs hlt, hml] at O2
      have HO := hide (And.intro O2.1 (hb.setCell (p := ⟨w.heap.size, j, none⟩) (Nat.le_refl _) (.int .i64 xs[j])))
      obtain ⟨t, ht⟩ : ∃ t, xs[j] = t := ⟨_, rfl⟩
      rw [ht] at q1 HO
      have hne : ¬ g = w.heap.size := by omega
      have j0 : (0 : Int) ≤ (j : Int) := by omega
      have j1 : (j : Int) < (xs.length : Int) := by omega
      clear hown hb hml O1 O2 ht k1 mk
      go_wp2
      go_roundw
      case rel => exact ⟨j + 1, by omega, by go_num, HO.out.1, HO.out.2⟩
      case measure => simp [intOf]; omega
    · have hjl : j = xs.length := by omega
      have HR := hide (And.intro hown hb)
      have HJ := hide hjl
      clear hown hb hjl mk
      go_wp2
      go_ret
      exact ⟨_, rfl, by have := HR.out.1; rwa [HJ.out, copied_allI] at this, HR.out.2⟩

set_option maxHeartbeats 1600000 in
theorem toN_anyI (k l : Int) (v : Value) (xs : List Int) (w : World) (hv : RInts w v xs) (hl : xs.length ≤ 1048576) :
    Calls Try.prog 35 #[.agg #[.int .i64 k, .int .i64 l, v]] w fun e w' => ∃ u, e = .returned (.agg #[.int .i64 k, .int .i64 l, u]) ∧ ROwns w' w.heap.size 3 u (ic xs) ∧ Below w.heap.size w w' := by
  have HV := hide hv
  obtain ⟨a, c, rfl, -⟩ := hv
  go_enter Try.func35, Try.ntmps35
  go_wp2_with fail
  refine (toI_any _ xs _ (((HV.out.alloc _).alloc _).alloc _) hl).mono ?_
  rintro e w1 ⟨u, rfl, O1, B1⟩
  obtain ⟨a1, c1, rfl⟩ := O1.rints.form
  have K0 : AtI w1 (w.heap.size + 1) 0 0 (.slice none 0 0) := by
    have := ((AtI.new (w.alloc (Obj.cells #[.int .i64 k, .int .i64 l, .slice a xs.length c] 74)) 0 0 (.slice none 0 0)).alloc (Obj.cells #[.int .i64 k, .int .i64 l, .slice none 0 0] 80)).below B1 (by simp)
    simpa using this
  have K1 : AtI w1 (w.heap.size + 1 + 1) k l (.slice none 0 0) := by
    have := (AtI.new ((w.alloc (Obj.cells #[.int .i64 k, .int .i64 l, .slice a xs.length c] 74)).alloc (Obj.cells #[.int .i64 0, .int .i64 0, .slice none 0 0] 80)) k l (.slice none 0 0)).below B1 (by simp)
    simpa using this
  obtain ⟨q0, q1, q2, z0, z1, z2, m0⟩ := res_cells (w1 := w1) (b := w.heap.size + 1) K0
  obtain ⟨d0, d1, d2, m1⟩ := K1.cells
  have f2 : w1.frozen? ⟨w.heap.size + 1 + 1, 2, none⟩ = false := by
    have : w1.heap[w.heap.size + 1 + 1]? = _ := K1
    simp [World.frozen?, this]
  have B2 : Below w.heap.size w w1 := ((((Below.refl _ w).alloc (Nat.le_refl _) _).alloc (by simp) _).alloc (by simp; omega) _).trans (B1.mono (by simp; omega))
  have O2 : ROwns w1 (w.heap.size + 1 + 1 + 1) 3 (.slice a1 xs.length c1) (ic xs) := O1.base_le (by simp)
  have HO := hide O2
  have HB := hide B2
  clear O1 O2 B1 B2 K0 K1
  go_wp2
  refine bodyPost_ret (v := .agg #[.int .i64 k, .int .i64 l, .slice a1 xs.length c1]) (by simp [results, go_sem, q0, q1, q2]) rfl ⟨_, rfl, ?_, ?_⟩
  · exact ((((((HO.out.setCell_other (by omega) _).setCell_other (by omega) _).setCell_other (by omega) _).setCell_other (by omega) _)).base_le (by omega))
  · exact ((((HB.out.setCell (by simp; omega) _).setCell (by simp) _).setCell (by simp) _).setCell (by simp) _)
end Go.Proofs.Ytgjbenbodegnjaa
