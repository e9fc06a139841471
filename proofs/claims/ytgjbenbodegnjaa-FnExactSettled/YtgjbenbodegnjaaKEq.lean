
/- laws.eqSlot, eqSlotS, eqBlock, markSlotS, markBlock, heldSlotS and heldBlock by their contracts. -/
import Derived.Test.YtgjbenbodegnjaaCom
import Derived.Test.YtgjbenbodegnjaaKMarks
import Derived.Test.YtgjbenbodegnjaaKAt
import Derived.Deep.RegionHeld3
namespace Go.Proofs.Ytgjbenbodegnjaa.Kit
open Go.RowKit
/-- The marks of n slots from k on. -/
def mkS (k n : Nat) : List Sl := (List.range n).map fun j => (mkT (k + j * 2), ((k + j * 2 + 1 : Nat) : Int))
theorem mkS_length (k n : Nat) : (mkS k n).length = n := by simp [mkS]
theorem mkS_at (k n j : Nat) (h : j < (mkS k n).length) : (mkS k n)[j] = (mkT (k + j * 2), ((k + j * 2 + 1 : Nat) : Int)) := by simp [mkS]
/-- The first j slots are markedK already. -/
def markedK (k j : Nat) (l : List Sl) : List Sl := mkS k j ++ l.drop j
theorem marked_lengthK (k j : Nat) (l : List Sl) (h : j ≤ l.length) : (markedK k j l).length = l.length := by simp [markedK, mkS_length]; omega
theorem marked_zeroK (k : Nat) (l : List Sl) : markedK k 0 l = l := by simp [markedK, mkS]
theorem marked_allK (k : Nat) (l : List Sl) : markedK k l.length l = mkS k l.length := by simp [markedK]
theorem marked_setK (k j : Nat) (l : List Sl) (h : j < l.length) : (markedK k j l).set j (mkT (k + j * 2), ((k + j * 2 + 1 : Nat) : Int)) = markedK k (j + 1) l := by
  unfold markedK
  rw [List.set_append_right _ _ (by rw [mkS_length]; omega), mkS_length, Nat.sub_self, List.drop_eq_getElem_cons h, List.set_cons_zero]
  simp [mkS, List.range_succ]
end Go.Proofs.Ytgjbenbodegnjaa.Kit
namespace Go.Proofs.Ytgjbenbodegnjaa
open Go.RowKit Kit
theorem eqOne_same (t : ByteArray) (z : Int) (w : World) :
    Calls Try.prog 46 #[.agg #[.string t, .int .i64 z], .agg #[.string t, .int .i64 z]] w fun e w' => e = .returned (.bool true) ∧ Below w.heap.size w w' := by
  go_enter Try.func46, Try.ntmps46
  go_wp2
  go_ret
  exact ⟨rfl, by go_grown⟩
set_option maxRecDepth 100000 in
set_option maxHeartbeats 1600000 in
theorem eqS_same (va vb : Value) (l : List Sl) (w : World) (ha : RSl w va l) (hb : RSl w vb l) (hl : l.length ≤ 1048576) :
    Calls Try.prog 43 #[va, vb] w fun e w' => e = .returned (.bool true) ∧ Below w.heap.size w w' := by
  obtain ⟨a1, c1, rfl, -, ha⟩ := ha
  obtain ⟨a2, c2, rfl, -, hb⟩ := hb
  have HA := hide ha
  have HB := hide hb
  clear ha hb
  go_enter Try.func43, Try.ntmps43
  go_wp2
  go_loopw [5] (fun i wr => ∃ j : Nat, j ≤ l.length ∧ i = .int .i64 j ∧ Below w.heap.size w wr) (fun i _ => l.length - (intOf i).toNat)
  case atStart => exact ⟨0, Nat.zero_le _, rfl, Below.refl _ _⟩
  case round =>
    obtain ⟨j, hj, rfl, hb⟩ := hrel
    by_cases hlt : j < l.length
    · obtain ⟨g1, o1, rfl, hg1, m1, m2⟩ := HA.out j hlt
      obtain ⟨g2, o2, rfl, hg2, m3, m4⟩ := HB.out j hlt
      have HS : Hid (∀ w', Below w.heap.size w w' → w'.cell? ⟨g1, o1 + j * 2, none⟩ = some (.string l[j].1) ∧ w'.cell? ⟨g1, o1 + j * 2 + 1, none⟩ = some (.int .i64 l[j].2) ∧ w'.cell? ⟨g2, o2 + j * 2, none⟩ = some (.string l[j].1) ∧ w'.cell? ⟨g2, o2 + j * 2 + 1, none⟩ = some (.int .i64 l[j].2)) := fun w' hb =>
        ⟨(hb.cell (p := ⟨g1, o1 + j * 2, none⟩) hg1).trans m1, (hb.cell (p := ⟨g1, o1 + j * 2 + 1, none⟩) hg1).trans m2, (hb.cell (p := ⟨g2, o2 + j * 2, none⟩) hg2).trans m3, (hb.cell (p := ⟨g2, o2 + j * 2 + 1, none⟩) hg2).trans m4⟩
      obtain ⟨t, ht⟩ : ∃ t, l[j].1 = t := ⟨_, rfl⟩
      obtain ⟨z, hz⟩ : ∃ z, l[j].2 = z := ⟨_, rfl⟩
      rw [ht, hz] at HS
      clear ht hz m1 m2 m3 m4
      obtain ⟨r1, r2, r3, r4⟩ := HS.out _ hb
      have j0 : (0 : Int) ≤ (j : Int) := by omega
      have j1 : (j : Int) < (l.length : Int) := by omega
      have hsz := hb.size
      have HBB := hide hb
      clear hb
      go_wp2_with fail
      go_region_held3 (fun w' => w'.cell? ⟨g1, o1 + j * 2, none⟩ = some (.string t) ∧ w'.cell? ⟨g1, o1 + j * 2 + 1, none⟩ = some (.int .i64 z) ∧ w'.cell? ⟨g2, o2 + j * 2, none⟩ = some (.string t) ∧ w'.cell? ⟨g2, o2 + j * 2 + 1, none⟩ = some (.int .i64 z)) (first | exact HS.out _ HBB.out.drew | exact HS.out _ (HBB.out.trans ((of_drew B6).mono hsz))) ((go_at_call 46; refine (eqOne_same _ _ _).mono ?_; rintro e w6 ⟨rfl, B6⟩))
      have HB2 := hide (HBB.out.trans ((of_drew B6).mono hsz))
      clear B6
      go_wp2
      go_roundw
      case rel => exact ⟨j + 1, by omega, by go_num, HB2.out⟩
      case measure => simp [intOf]; omega
    · have HBB := hide hb
      clear hb
      go_wp2
      go_ret
      exact ⟨rfl, HBB.out⟩
theorem eqB_sameK (d : Bool) (va vb : Value) (t : ByteArray) (l : List Sl) (w : World) (ha : RSl w va l) (hb : RSl w vb l) (hl : l.length ≤ 1048576) :
    Calls Try.prog 39 #[.agg #[.bool d, va, .string t], .agg #[.bool d, vb, .string t]] w fun e w' => e = .returned (.bool true) ∧ Below w.heap.size w w' := by
  have HA := hide ha
  have HB := hide hb
  obtain ⟨a1, c1, rfl⟩ := ha.form
  obtain ⟨a2, c2, rfl⟩ := hb.form
  clear ha hb
  go_enter Try.func39, Try.ntmps39
  go_wp2_with fail
  refine (eqS_same _ _ l _ ((HA.out.alloc _).alloc _) ((HB.out.alloc _).alloc _) hl).mono ?_
  rintro e w1 ⟨rfl, B1⟩
  obtain ⟨r0, r1, r2, r3⟩ := (((AtC.new w 84 #[.bool d, .slice a1 l.length c1, .string t]).alloc (.cells #[.bool d, .slice a2 l.length c2, .string t] 84)).over B1).three
  obtain ⟨s0, s1, s2, s3⟩ := ((AtC.new (w.alloc (.cells #[.bool d, .slice a1 l.length c1, .string t] 84)) 84 #[.bool d, .slice a2 l.length c2, .string t]).over B1).three
  simp only [World.size_alloc] at s0 s1 s2 s3
  have HB1 := hide B1
  clear B1
  go_wp2
  go_ret
  exact ⟨rfl, ((((Below.refl _ w).alloc (Nat.le_refl _) _).alloc (by simp) _).trans (HB1.out.mono (by simp; omega)))⟩
end Go.Proofs.Ytgjbenbodegnjaa
