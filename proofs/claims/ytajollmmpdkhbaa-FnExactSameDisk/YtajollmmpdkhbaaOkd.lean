/- impl.inodesRight, impl.blocksRight, impl.DiskOk and spec.DiskOk by their contracts. -/
import Derived.Test.YtajollmmpdkhbaaTs
import Derived.Test.YtajollmmpdkhbaaIArg
import Derived.Test.YtajollmmpdkhbaaKOkS
import Derived.Deep.RegionHeld3
namespace Go.Proofs.Ytajollmmpdkhbaa.Kit
open Go.RowKit
theorem all_no {α : Type} {f : α → Bool} {l : List α} {j : Nat} (h : j < l.length) (hf : f l[j] = false) : l.all f = false := by
  rw [List.all_eq_false]
  exact ⟨l[j], List.getElem_mem h, by simp [hf]⟩
theorem all_yes {α : Type} {f : α → Bool} {l : List α} (h : ∀ (j : Nat) (h : j < l.length), f l[j] = true) : l.all f = true := by
  rw [List.all_eq_true]
  intro x hx
  obtain ⟨j, hj, rfl⟩ := List.getElem_of_mem hx
  exact h j hj
end Go.Proofs.Ytajollmmpdkhbaa.Kit
namespace Go.Proofs.Ytajollmmpdkhbaa
open Go.RowKit Kit
/-- Whether an inode is right; whether all are. -/
def inoOk (x : Ino) : Bool := okL x.1 x.2.1 x.2.2
def inosOk (l : List Ino) : Bool := l.all inoOk
/-- Whether a block is right; whether all are. -/
def blkOk (b : Blk) : Bool := blockOk b.1 b.2.1 b.2.2
def blksOk (l : List Blk) : Bool := l.all blkOk
/-- Whether a disk is right. -/
def diskOk (xs ys : List Bool) (is : List Ino) (bs : List Blk) : Bool := okB xs.length ys.length && (inosOk is && decide (is.length = 8)) && (blksOk bs && decide (bs.length = 16))
set_option maxRecDepth 100000 in
set_option maxHeartbeats 1600000 in
theorem inosRight_any (v : Value) (l : List Ino) (w : World) (hv : R3 KI w v l) (hl : l.length ≤ 1048576) :
    Calls Try.prog 43 #[v] w fun e w' => e = .returned (.bool (inosOk l && decide (l.length = 8))) ∧ Below w.heap.size w w' := by
  obtain ⟨a1, c1, rfl, -, hv'⟩ := hv.ino
  have HA := hide hv'
  clear hv hv'
  go_enter Try.func43, Try.ntmps43
  go_wp2
  go_loopw [7] (fun i wr => ∃ j : Nat, j ≤ l.length ∧ i = .int .i64 j ∧ Hid (∀ (k : Nat) (h : k < l.length), k < j → inoOk l[k] = true) ∧ Below w.heap.size w wr) (fun i _ => l.length - (intOf i).toNat)
  case atStart => exact ⟨0, Nat.zero_le _, rfl, fun _ _ h => absurd h (Nat.not_lt_zero _), Below.refl _ _⟩
  case round =>
    obtain ⟨j, hj, rfl, HS, hb⟩ := hrel
    by_cases hlt : j < l.length
    · obtain ⟨g1, o1, p1, rfl, hg1, m1, m2, m3, hr1⟩ := HA.out j hlt
      have q1 := (hb.cell (p := ⟨g1, o1 + j * 3, none⟩) hg1).trans m1
      have q2 := (hb.cell (p := ⟨g1, o1 + j * 3 + 1, none⟩) hg1).trans m2
      have q3 := (hb.cell (p := ⟨g1, o1 + j * 3 + 2, none⟩) hg1).trans m3
      obtain ⟨x, hx⟩ : ∃ x, l[j] = x := ⟨_, rfl⟩
      obtain ⟨y, s, z⟩ := x
      rw [hx] at q1 q2 hr1
      obtain ⟨pa, pc, rfl⟩ := hr1.form
      simp only at q1 q2 q3 hr1
      have HR : Hid (∀ w', Below w.heap.size w w' → RInts w' (.slice pa z.length pc) z) := fun w' hb => hr1.below hb (Nat.le_refl _)
      have j0 : (0 : Int) ≤ (j : Int) := by omega
      have j1 : (j : Int) < (l.length : Int) := by omega
      have hsz := hb.size
      have HBB := hide hb
      have HX := hide hx
      clear hb m1 m2 m3 hr1 hx
      cases hq : inoOk (y, s, z) with
      | true =>
        have HQ := hide hq
        have hq2 : okL y s z = true := hq
        have HQ2 := hide hq2
        clear hq hq2
        go_wp2_with (go_at_call 75; refine (implOk_anyI _ _ z _ _ (HR.out _ (HBB.out.alloc hsz _))).mono ?_; rw [HQ2.out]; rintro e w1 ⟨rfl, B1⟩; have HB1 := hide ((HBB.out.alloc hsz _).trans (B1.mono (by simp; omega))); clear B1)
        go_roundw
        case rel =>
          refine ⟨j + 1, by omega, by go_num, fun k hk hkj => ?_, HB1.out⟩
          by_cases hkk : k = j
          · subst hkk; rw [HX.out]; exact HQ.out
          · exact HS.out k hk (by omega)
        case measure => simp [intOf]; omega
      | false =>
        have hno : inosOk l = false := all_no hlt (by rw [HX.out]; exact hq)
        have HNO := hide hno
        have hq2 : okL y s z = false := hq
        have HQ2 := hide hq2
        clear hq hq2 hno
        go_wp2_with (go_at_call 75; refine (implOk_anyI _ _ z _ _ (HR.out _ (HBB.out.alloc hsz _))).mono ?_; rw [HQ2.out]; rintro e w1 ⟨rfl, B1⟩; have HB1 := hide ((HBB.out.alloc hsz _).trans (B1.mono (by simp; omega))); clear B1)
        go_ret
        exact ⟨ret_bool (by rw [HNO.out]; rfl), HB1.out⟩
    · have hyes : inosOk l = true := all_yes fun k hk => HS.out k hk (by omega)
      have HY := hide hyes
      have HBB := hide hb
      clear hb hyes
      go_wp2
      go_ret
      exact ⟨ret_bool (by rw [HY.out, Bool.true_and, Bool.eq_iff_iff]; simp; omega), HBB.out⟩
set_option maxRecDepth 100000 in
set_option maxHeartbeats 1600000 in
theorem blksRight_any (v : Value) (l : List Blk) (w : World) (hv : R3 KB w v l) (hl : l.length ≤ 1048576) :
    Calls Try.prog 44 #[v] w fun e w' => e = .returned (.bool (blksOk l && decide (l.length = 16))) ∧ Below w.heap.size w w' := by
  obtain ⟨a1, c1, rfl, -, hv'⟩ := hv.blk
  have HA := hide hv'
  clear hv hv'
  go_enter Try.func44, Try.ntmps44
  go_wp2
  go_loopw [7] (fun i wr => ∃ j : Nat, j ≤ l.length ∧ i = .int .i64 j ∧ Hid (∀ (k : Nat) (h : k < l.length), k < j → blkOk l[k] = true) ∧ Below w.heap.size w wr) (fun i _ => l.length - (intOf i).toNat)
  case atStart => exact ⟨0, Nat.zero_le _, rfl, fun _ _ h => absurd h (Nat.not_lt_zero _), Below.refl _ _⟩
  case round =>
    obtain ⟨j, hj, rfl, HS, hb⟩ := hrel
    by_cases hlt : j < l.length
    · obtain ⟨g1, o1, p1, rfl, hg1, m1, m2, m3, hr1⟩ := HA.out j hlt
      have q1 := (hb.cell (p := ⟨g1, o1 + j * 3, none⟩) hg1).trans m1
      have q2 := (hb.cell (p := ⟨g1, o1 + j * 3 + 1, none⟩) hg1).trans m2
      have q3 := (hb.cell (p := ⟨g1, o1 + j * 3 + 2, none⟩) hg1).trans m3
      obtain ⟨x, hx⟩ : ∃ x, l[j] = x := ⟨_, rfl⟩
      obtain ⟨y, s, z⟩ := x
      rw [hx] at q1 q3 hr1
      obtain ⟨pa, pc, rfl⟩ := hr1.form
      simp only at q1 q2 q3 hr1
      have HR : Hid (∀ w', Below w.heap.size w w' → RSl w' (.slice pa s.length pc) s) := fun w' hb => hr1.below hb (Nat.le_refl _)
      have j0 : (0 : Int) ≤ (j : Int) := by omega
      have j1 : (j : Int) < (l.length : Int) := by omega
      have hsz := hb.size
      have HBB := hide hb
      have HX := hide hx
      clear hb m1 m2 m3 hr1 hx
      cases hq : blkOk (y, s, z) with
      | true =>
        have HQ := hide hq
        have hq2 : blockOk y s z = true := hq
        have HQ2 := hide hq2
        clear hq hq2
        go_wp2_with (go_at_call 76; refine (implOk_anyK _ _ _ s _ (HR.out _ (HBB.out.alloc hsz _))).mono ?_; rw [HQ2.out]; rintro e w1 ⟨rfl, B1⟩; have HB1 := hide ((HBB.out.alloc hsz _).trans (B1.mono (by simp; omega))); clear B1)
        go_roundw
        case rel =>
          refine ⟨j + 1, by omega, by go_num, fun k hk hkj => ?_, HB1.out⟩
          by_cases hkk : k = j
          · subst hkk; rw [HX.out]; exact HQ.out
          · exact HS.out k hk (by omega)
        case measure => simp [intOf]; omega
      | false =>
        have hno : blksOk l = false := all_no hlt (by rw [HX.out]; exact hq)
        have HNO := hide hno
        have hq2 : blockOk y s z = false := hq
        have HQ2 := hide hq2
        clear hq hq2 hno
        go_wp2_with (go_at_call 76; refine (implOk_anyK _ _ _ s _ (HR.out _ (HBB.out.alloc hsz _))).mono ?_; rw [HQ2.out]; rintro e w1 ⟨rfl, B1⟩; have HB1 := hide ((HBB.out.alloc hsz _).trans (B1.mono (by simp; omega))); clear B1)
        go_ret
        exact ⟨ret_bool (by rw [HNO.out]; rfl), HB1.out⟩
    · have hyes : blksOk l = true := all_yes fun k hk => HS.out k hk (by omega)
      have HY := hide hyes
      have HBB := hide hb
      clear hb hyes
      go_wp2
      go_ret
      exact ⟨ret_bool (by rw [HY.out, Bool.true_and, Bool.eq_iff_iff]; simp; omega), HBB.out⟩
end Go.Proofs.Ytajollmmpdkhbaa
