/- spec.UnitText and impl.UnitText by their contracts; the walk of laws.FnExactUnitText: it returns true at every disk and number. -/
import Derived.Test.YtajollmmpdkhbaaUi
import Derived.Test.YtajollmmpdkhbaaQs
namespace Go.Proofs.Ytajollmmpdkhbaa
open Go.RowKit Kit
/-- Whether there is such a unit of a right disk. -/
def unitOk (xs ys : List Bool) (is : List Ino) (bs : List Blk) (u : Int) : Bool := diskOk xs ys is bs && (decide (0 ≤ u) && decide (u < 21))
theorem unitT_no {xs ys : List Bool} {is : List Ino} {bs : List Blk} {u : Int} (h : unitOk xs ys is bs u = false) : unitT xs ys is bs u = ⟨#[]⟩ := by
  unfold unitT
  unfold unitOk at h
  rw [h]
  rfl
theorem unitT_yes {xs ys : List Bool} {is : List Ino} {bs : List Blk} {u : Int} (h : unitOk xs ys is bs u = true) : unitT xs ys is bs u = unitB xs ys is bs u.toNat := by
  unfold unitT
  unfold unitOk at h
  rw [h]
  rfl
theorem in_is (u : Int) : inB u 0 20 = (decide (0 ≤ u) && decide (u < 21)) := by
  unfold inB
  rw [Bool.eq_iff_iff]
  simp
  omega
set_option maxRecDepth 100000 in
set_option maxHeartbeats 1600000 in
theorem specUT_any (u v iv bv : Value) (xs ys : List Bool) (is : List Ino) (bs : List Blk) (n : Int) (base : Nat) (w : World) (h : DR w u v iv bv xs ys is bs) (hT : Two w base u v xs ys) (hB : ∀ (j : Nat) (h : j < bs.length), bigB 1048576 bs[j]) :
    Calls Try.prog 16 #[.agg #[u, v, iv, bv], .int .i64 n] w fun e w' => e = .returned (.tuple #[.string (unitT xs ys is bs n), .bool (unitOk xs ys is bs n)]) ∧ Below w.heap.size w w' := by
  have H := hide h
  have HT := hide hT
  have HG := hide hB
  obtain ⟨a1, c1, a2, c2, a3, c3, a4, c4, rfl, rfl, rfl, rfl⟩ := h.form
  clear h hT hB
  have C0 := hide (fun W h => specOk_disk (.slice a1 xs.length c1) (.slice a2 ys.length c2) (.slice a3 is.length c3) (.slice a4 bs.length c4) xs ys is bs W h (fun j hj => (HG.out j hj).2.1))
  cases hok : diskOk xs ys is bs with
  | false =>
    have hno : unitOk xs ys is bs n = false := by unfold unitOk; rw [hok]; rfl
    rw [unitT_no hno, hno]
    rw [hok] at C0
    clear hok hno HG HT
    go_enter Try.func16, Try.ntmps16
    go_wp2_with fail
    refine (C0.out _ (H.out.alloc _)).mono ?_
    rintro e w1 ⟨rfl, B1⟩
    have HBW := hide (((Below.refl _ w).alloc (Nat.le_refl _) (.cells #[.slice a1 xs.length c1, .slice a2 ys.length c2, .slice a3 is.length c3, .slice a4 bs.length c4] 28)).trans (B1.mono (by simp)))
    clear B1
    go_wp2
    refine bodyPost_ret (v := .tuple #[.string ⟨#[]⟩, .bool false]) (by simp [results, go_sem]) rfl ⟨rfl, HBW.out⟩
  | true =>
    have HOK := hide hok
    rw [hok] at C0
    have L := hide (fun W => l01In_any n 0 20 W)
    rw [in_is] at L
    cases hin : (decide (0 ≤ n) && decide (n < 21)) with
    | false =>
      have hno : unitOk xs ys is bs n = false := by unfold unitOk; rw [hin, Bool.and_false]
      rw [unitT_no hno, hno]
      rw [hin] at L
      clear hok hno HG HT hin HOK
      go_enter Try.func16, Try.ntmps16
      go_wp2_with fail
      refine (C0.out _ (H.out.alloc _)).mono ?_
      rintro e w1 ⟨rfl, B1⟩
      have HBW := hide (((Below.refl _ w).alloc (Nat.le_refl _) (.cells #[.slice a1 xs.length c1, .slice a2 ys.length c2, .slice a3 is.length c3, .slice a4 bs.length c4] 28)).trans (B1.mono (by simp)))
      clear B1
      go_wp2_with (go_at_call 45; refine (L.out _).mono ?_; rintro e w2 ⟨rfl, rfl⟩)
      refine bodyPost_ret (v := .tuple #[.string ⟨#[]⟩, .bool false]) (by simp [results, go_sem]) rfl ⟨rfl, HBW.out⟩
    | true =>
      have hyes : unitOk xs ys is bs n = true := by unfold unitOk; rw [hok, hin]; rfl
      rw [unitT_yes hyes, hyes]
      rw [hin] at L
      simp only [Bool.and_eq_true, decide_eq_true_eq] at hin
      obtain ⟨m, rfl⟩ : ∃ m : Nat, n = m := ⟨n.toNat, by omega⟩
      have hm : m ≤ 20 := by omega
      rw [Int.toNat_natCast]
      have C1 := hide (fun W h hT => specUnit_any (.slice a1 xs.length c1) (.slice a2 ys.length c2) (.slice a3 is.length c3) (.slice a4 bs.length c4) xs ys is bs m base W h hT HOK.out hm HG.out)
      generalize unitB xs ys is bs m = T at *
      clear hok hyes HG hin HOK
      go_enter Try.func16, Try.ntmps16
      go_wp2_with fail
      refine (C0.out _ (H.out.alloc _)).mono ?_
      rintro e w1 ⟨rfl, B1⟩
      have X1 : AtC w1 w.heap.size 28 #[.slice a1 xs.length c1, .slice a2 ys.length c2, .slice a3 is.length c3, .slice a4 bs.length c4] := (AtC.new w 28 _).over B1
      have b1 : Below w.heap.size w w1 := ((Below.refl _ w).alloc (Nat.le_refl _) _).trans (B1.mono (by simp))
      have r0 : w1.cell? ⟨w.heap.size, 0, none⟩ = some (.slice a1 xs.length c1) := X1.cell 0
      have r1 : w1.cell? ⟨w.heap.size, 1, none⟩ = some (.slice a2 ys.length c2) := X1.cell 1
      have r2 : w1.cell? ⟨w.heap.size, 2, none⟩ = some (.slice a3 is.length c3) := X1.cell 2
      have r3 : w1.cell? ⟨w.heap.size, 3, none⟩ = some (.slice a4 bs.length c4) := X1.cell 3
      have HBW := hide b1
      clear B1 X1 b1 C0
      go_wp2_with (first | (go_at_call 45; refine (L.out _).mono ?_; rintro e w2 ⟨rfl, rfl⟩) | (go_at_call 46; refine (C1.out _ (H.out.below HBW.out (Nat.le_refl _)) (HT.out.below HBW.out (Nat.le_refl _))).mono ?_; rintro e w3 ⟨rfl, B3⟩; have HB3 := hide (HBW.out.trans (B3.mono HBW.out.size)); clear B3))
      refine bodyPost_ret (v := .tuple #[.string T, .bool true]) (by simp [results, go_sem]) rfl ⟨rfl, HB3.out⟩
set_option maxRecDepth 100000 in
set_option maxHeartbeats 1600000 in
theorem implUT_any (u v iv bv : Value) (xs ys : List Bool) (is : List Ino) (bs : List Blk) (n : Int) (w : World) (h : DR w u v iv bv xs ys is bs) (hi : is.length ≤ 1048576) (hk : bs.length ≤ 1048576) :
    Calls Try.prog 17 #[.agg #[u, v, iv, bv], .int .i64 n] w fun e w' => e = .returned (.tuple #[.string (unitT xs ys is bs n), .bool (unitOk xs ys is bs n)]) ∧ Below w.heap.size w w' := by
  have H := hide h
  obtain ⟨a1, c1, a2, c2, a3, c3, a4, c4, rfl, rfl, rfl, rfl⟩ := h.form
  clear h
  have C0 := hide (fun W h => implOk_disk (.slice a1 xs.length c1) (.slice a2 ys.length c2) (.slice a3 is.length c3) (.slice a4 bs.length c4) xs ys is bs W h hi hk)
  clear hi hk
  cases hok : diskOk xs ys is bs with
  | false =>
    have hno : unitOk xs ys is bs n = false := by unfold unitOk; rw [hok]; rfl
    rw [unitT_no hno, hno]
    rw [hok] at C0
    clear hok hno
    go_enter Try.func17, Try.ntmps17
    go_wp2_with fail
    refine (C0.out _ (H.out.alloc _)).mono ?_
    rintro e w1 ⟨rfl, B1⟩
    have HBW := hide (((Below.refl _ w).alloc (Nat.le_refl _) (.cells #[.slice a1 xs.length c1, .slice a2 ys.length c2, .slice a3 is.length c3, .slice a4 bs.length c4] 28)).trans (B1.mono (by simp)))
    clear B1
    go_wp2
    refine bodyPost_ret (v := .tuple #[.string ⟨#[]⟩, .bool false]) (by simp [results, go_sem]) rfl ⟨rfl, HBW.out⟩
  | true =>
    have HOK := hide hok
    rw [hok] at C0
    have L := hide (fun W => isUnit_any n W)
    cases hin : (decide (0 ≤ n) && decide (n < 21)) with
    | false =>
      have hno : unitOk xs ys is bs n = false := by unfold unitOk; rw [hin, Bool.and_false]
      rw [unitT_no hno, hno]
      rw [hin] at L
      clear hok hno hin HOK
      go_enter Try.func17, Try.ntmps17
      go_wp2_with fail
      refine (C0.out _ (H.out.alloc _)).mono ?_
      rintro e w1 ⟨rfl, B1⟩
      have HBW := hide (((Below.refl _ w).alloc (Nat.le_refl _) (.cells #[.slice a1 xs.length c1, .slice a2 ys.length c2, .slice a3 is.length c3, .slice a4 bs.length c4] 28)).trans (B1.mono (by simp)))
      clear B1
      go_wp2_with (go_at_call 47; refine (L.out _).mono ?_; rintro e w2 ⟨rfl, rfl⟩)
      refine bodyPost_ret (v := .tuple #[.string ⟨#[]⟩, .bool false]) (by simp [results, go_sem]) rfl ⟨rfl, HBW.out⟩
    | true =>
      have hyes : unitOk xs ys is bs n = true := by unfold unitOk; rw [hok, hin]; rfl
      rw [unitT_yes hyes, hyes]
      rw [hin] at L
      simp only [Bool.and_eq_true, decide_eq_true_eq] at hin
      obtain ⟨m, rfl⟩ : ∃ m : Nat, n = m := ⟨n.toNat, by omega⟩
      have hm : m ≤ 20 := by omega
      rw [Int.toNat_natCast]
      have C1 := hide (fun W h => implUnit_any (.slice a1 xs.length c1) (.slice a2 ys.length c2) (.slice a3 is.length c3) (.slice a4 bs.length c4) xs ys is bs m W h HOK.out hm)
      generalize unitB xs ys is bs m = T at *
      clear hok hyes hin HOK
      go_enter Try.func17, Try.ntmps17
      go_wp2_with fail
      refine (C0.out _ (H.out.alloc _)).mono ?_
      rintro e w1 ⟨rfl, B1⟩
      have X1 : AtC w1 w.heap.size 28 #[.slice a1 xs.length c1, .slice a2 ys.length c2, .slice a3 is.length c3, .slice a4 bs.length c4] := (AtC.new w 28 _).over B1
      have b1 : Below w.heap.size w w1 := ((Below.refl _ w).alloc (Nat.le_refl _) _).trans (B1.mono (by simp))
      have r0 : w1.cell? ⟨w.heap.size, 0, none⟩ = some (.slice a1 xs.length c1) := X1.cell 0
      have r1 : w1.cell? ⟨w.heap.size, 1, none⟩ = some (.slice a2 ys.length c2) := X1.cell 1
      have r2 : w1.cell? ⟨w.heap.size, 2, none⟩ = some (.slice a3 is.length c3) := X1.cell 2
      have r3 : w1.cell? ⟨w.heap.size, 3, none⟩ = some (.slice a4 bs.length c4) := X1.cell 3
      have HBW := hide b1
      clear B1 X1 b1 C0
      go_wp2_with (first | (go_at_call 47; refine (L.out _).mono ?_; rintro e w2 ⟨rfl, rfl⟩) | (go_at_call 48; refine (C1.out _ (H.out.below HBW.out (Nat.le_refl _))).mono ?_; rintro e w3 ⟨rfl, B3⟩; have HB3 := hide (HBW.out.trans (B3.mono HBW.out.size)); clear B3))
      refine bodyPost_ret (v := .tuple #[.string T, .bool true]) (by simp [results, go_sem]) rfl ⟨rfl, HB3.out⟩
end Go.Proofs.Ytajollmmpdkhbaa
