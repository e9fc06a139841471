/- The text of a unit: spec.l07Unit, impl.textOfUnit by their contracts. -/
import Derived.Test.YtajollmmpdkhbaaOkk
import Derived.Test.YtajollmmpdkhbaaBTxtS
import Derived.Test.YtajollmmpdkhbaaKTextS
import Derived.Test.YtajollmmpdkhbaaKTextI
namespace Go.Proofs.Ytajollmmpdkhbaa
open Go.RowKit Kit
/-- The text of a unit of a right disk. -/
def inoB (x : Ino) : ByteArray := textL x.1 x.2.1 x.2.2
def blkB (b : Blk) : ByteArray := blockB b.1 b.2.1 b.2.2
def unitB (xs ys : List Bool) (is : List Ino) (bs : List Blk) (u : Nat) : ByteArray :=
  if u = 0 then textB xs ys else if u ≤ 4 then inoB (is.getD (2 * u - 2) zI) ++ inoB (is.getD (2 * u - 1) zI) else blkB (bs.getD (u - 5) zB)
theorem diskOk_parts {xs ys : List Bool} {is : List Ino} {bs : List Blk} (h : diskOk xs ys is bs = true) : okB xs.length ys.length = true ∧ is.length = 8 ∧ bs.length = 16 ∧ (∀ (j : Nat) (h : j < is.length), inoOk is[j] = true) ∧ ∀ (j : Nat) (h : j < bs.length), blkOk bs[j] = true := by
  unfold diskOk at h
  simp only [Bool.and_eq_true, decide_eq_true_eq] at h
  refine ⟨h.1.1, h.1.2.2, h.2.2, fun j hj => ?_, fun j hj => ?_⟩
  · exact List.all_eq_true.1 h.1.2.1 _ (List.getElem_mem hj)
  · exact List.all_eq_true.1 h.2.1 _ (List.getElem_mem hj)
theorem textL_size (k l : Int) (xs : List Int) : (textL k l xs).size ≤ 4 := by
  unfold textL
  split
  · rw [quadB_size]; omega
  · exact Nat.zero_le _
set_option maxRecDepth 100000 in
set_option maxHeartbeats 1600000 in
theorem specUnit_i (u v iv bv : Value) (xs ys : List Bool) (is : List Ino) (bs : List Blk) (k : Nat) (w : World) (h : DR w u v iv bv xs ys is bs) (hl : is.length = 8) (hk : 1 ≤ k) (hk4 : k ≤ 4) :
    Calls Try.prog 46 #[.agg #[u, v, iv, bv], .int .i64 k] w fun e w' => e = .returned (.string (inoB (is.getD (2 * k - 2) zI) ++ inoB (is.getD (2 * k - 1) zI))) ∧ Below w.heap.size w w' := by
  obtain ⟨a3, c3, ri, -, hii⟩ := h.i.ino
  obtain ⟨a1, c1, a2, c2, -, -, a4, c4, rfl, rfl, -, rfl⟩ := h.form
  subst ri
  clear h
  obtain ⟨n4, hn4⟩ : ∃ n, bs.length = n := ⟨_, rfl⟩
  obtain ⟨n1, hn1⟩ : ∃ n, xs.length = n := ⟨_, rfl⟩
  obtain ⟨n2, hn2⟩ : ∃ n, ys.length = n := ⟨_, rfl⟩
  obtain ⟨g1, o1, p1, rfl, hg1, m1, m2, m3, hr1⟩ := hii (2 * k - 2) (by omega)
  obtain ⟨g2, o2, p2, e2, hg2, s1, s2, s3, hr2⟩ := hii (2 * k - 1) (by omega)
  simp only [Option.some.injEq, Addr.mk.injEq] at e2
  obtain ⟨rfl, rfl, -⟩ := e2
  rw [show is.getD (2 * k - 2) zI = is[2 * k - 2]'(by omega) by simp [List.getD, List.getElem?_eq_getElem (show 2 * k - 2 < is.length by omega)], show is.getD (2 * k - 1) zI = is[2 * k - 1]'(by omega) by simp [List.getD, List.getElem?_eq_getElem (show 2 * k - 1 < is.length by omega)]]
  obtain ⟨x, hx⟩ : ∃ x, is[2 * k - 2]'(by omega) = x := ⟨_, rfl⟩
  obtain ⟨y, hy⟩ : ∃ x, is[2 * k - 1]'(by omega) = x := ⟨_, rfl⟩
  rw [hx] at m1 m2 hr1 ⊢
  rw [hy] at s1 s2 hr2 ⊢
  obtain ⟨x1, x2, x3⟩ := x
  obtain ⟨y1, y2, y3⟩ := y
  obtain ⟨pa, pc, rfl⟩ := hr1.form
  obtain ⟨qa, qc, rfl⟩ := hr2.form
  simp only at m1 m2 m3 s1 s2 s3 hr1 hr2
  rw [hl, hn1, hn2, hn4]
  clear hii hx hy hl hn1 hn2 hn4
  have H1 := hide hr1
  have H2 := hide hr2
  have i0 : ((k : Int) == 0) = false := by simp; omega
  have i4 : decide ((k : Int) ≤ 4) = true := by simp; omega
  have C1 := hide (fun W h => specText_anyI x1 x2 x3 (.slice pa x3.length pc) W h)
  have C2 := hide (fun W h => specText_anyI y1 y2 y3 (.slice qa y3.length qc) W h)
  have z1 := textL_size x1 x2 x3
  have z2 := textL_size y1 y2 y3
  show Calls Try.prog 46 _ w fun e w' => e = .returned (.string (textL x1 x2 x3 ++ textL y1 y2 y3)) ∧ Below w.heap.size w w'
  generalize textL x1 x2 x3 = T1 at *
  generalize textL y1 y2 y3 = T2 at *
  clear hr1 hr2
  go_enter Try.func46, Try.ntmps46
  go_wp2_with fail
  refine (C1.out _ (H1.out.alloc _)).mono ?_
  rintro e w1 ⟨rfl, B1⟩
  have BW : Below w.heap.size w w1 := ((Below.refl _ w).alloc (Nat.le_refl _) _).trans (B1.mono (by simp))
  have K0 : AtC w1 w.heap.size 28 #[.slice a1 n1 c1, .slice a2 n2 c2, .slice (some ⟨g1, o1, none⟩) 8 c3, .slice a4 n4 c4] := (AtC.new w 28 _).over B1
  have p2 : w1.cell? ⟨w.heap.size, 2, none⟩ = some (.slice (some ⟨g1, o1, none⟩) 8 c3) := K0.cell 2
  have t1 := (BW.cell (p := ⟨g1, o1 + (2 * k - 1) * 3, none⟩) hg1).trans s1
  have t2 := (BW.cell (p := ⟨g1, o1 + (2 * k - 1) * 3 + 1, none⟩) hg1).trans s2
  have t3 := (BW.cell (p := ⟨g1, o1 + (2 * k - 1) * 3 + 2, none⟩) hg1).trans s3
  have HBW := hide BW
  clear B1 BW K0 m1 m2 m3 s1 s2 s3
  go_wp2_with fail
  refine (C2.out _ (H2.out.below HBW.out (Nat.le_refl _))).mono ?_
  rintro e w2 ⟨rfl, B2⟩
  have HB2 := hide (HBW.out.trans (B2.mono HBW.out.size))
  clear B2
  go_wp2
  go_ret
  exact ⟨rfl, HB2.out⟩
set_option maxRecDepth 100000 in
set_option maxHeartbeats 1600000 in
theorem specUnit_b (u v iv bv : Value) (xs ys : List Bool) (is : List Ino) (bs : List Blk) (k : Nat) (w : World) (h : DR w u v iv bv xs ys is bs) (hl : bs.length = 16) (hk : 5 ≤ k) (hk4 : k ≤ 20) (hB : ∀ (j : Nat) (h : j < bs.length), bigB 1048576 bs[j]) :
    Calls Try.prog 46 #[.agg #[u, v, iv, bv], .int .i64 k] w fun e w' => e = .returned (.string (blkB (bs.getD (k - 5) zB))) ∧ Below w.heap.size w w' := by
  obtain ⟨a4, c4, ri, -, hii⟩ := h.k.blk
  obtain ⟨a1, c1, a2, c2, a3, c3, -, -, rfl, rfl, rfl, -⟩ := h.form
  subst ri
  clear h
  obtain ⟨n3, hn3⟩ : ∃ n, is.length = n := ⟨_, rfl⟩
  obtain ⟨n1, hn1⟩ : ∃ n, xs.length = n := ⟨_, rfl⟩
  obtain ⟨n2, hn2⟩ : ∃ n, ys.length = n := ⟨_, rfl⟩
  obtain ⟨g1, o1, p1, rfl, hg1, m1, m2, m3, hr1⟩ := hii (k - 5) (by omega)
  rw [show bs.getD (k - 5) zB = bs[k - 5]'(by omega) by simp [List.getD, List.getElem?_eq_getElem (show k - 5 < bs.length by omega)]]
  have hbg := hB (k - 5) (by omega)
  obtain ⟨x, hx⟩ : ∃ x, bs[k - 5]'(by omega) = x := ⟨_, rfl⟩
  rw [hx] at m1 m3 hr1 hbg ⊢
  obtain ⟨x1, x2, x3⟩ := x
  obtain ⟨pa, pc, rfl⟩ := hr1.form
  simp only at m1 m2 m3 hr1
  rw [hl, hn1, hn2, hn3]
  have H1 := hide hr1
  have i0 : ((k : Int) == 0) = false := by simp; omega
  have i4 : decide ((k : Int) ≤ 4) = false := by simp; omega
  have HG := hide hbg.2.1
  have C1 := hide (fun W h => specText_anyK x1 (.slice pa x2.length pc) x3 x2 W h HG.out)
  clear hr1 hii hx hl hn1 hn2 hn3 hbg HG hB
  go_enter Try.func46, Try.ntmps46
  go_wp2_with fail
  refine (C1.out _ (H1.out.alloc _)).mono ?_
  rintro e w1 ⟨rfl, B1⟩
  have HBW := hide (((Below.refl _ w).alloc (Nat.le_refl _) (.cells #[.slice a1 n1 c1, .slice a2 n2 c2, .slice a3 n3 c3, .slice (some ⟨g1, o1, none⟩) 16 c4] 28)).trans (B1.mono (by simp)))
  clear B1
  go_wp2
  go_ret
  exact ⟨rfl, HBW.out⟩
set_option maxRecDepth 100000 in
set_option maxHeartbeats 1600000 in
theorem specUnit_z (u v iv bv : Value) (xs ys : List Bool) (is : List Ino) (bs : List Blk) (base : Nat) (w : World) (h : DR w u v iv bv xs ys is bs) (hT : Two w base u v xs ys) :
    Calls Try.prog 46 #[.agg #[u, v, iv, bv], .int .i64 0] w fun e w' => e = .returned (.string (textA xs ys)) ∧ Below w.heap.size w w' := by
  have HT := hide hT
  obtain ⟨a1, c1, a2, c2, a3, c3, a4, c4, rfl, rfl, rfl, rfl⟩ := h.form
  clear h hT
  go_enter Try.func46, Try.ntmps46
  go_wp2_with fail
  refine (specText_anyB _ _ xs ys base _ (HT.out.alloc _)).mono ?_
  rintro e w1 ⟨rfl, B1⟩
  have HBW := hide (((Below.refl _ w).alloc (Nat.le_refl _) (.cells #[.slice a1 xs.length c1, .slice a2 ys.length c2, .slice a3 is.length c3, .slice a4 bs.length c4] 28)).trans (B1.mono (by simp)))
  clear B1
  go_wp2
  go_ret
  exact ⟨rfl, HBW.out⟩
end Go.Proofs.Ytajollmmpdkhbaa
