
/- laws.eqSlot, eqSlotS, eqBlock, markSlotS, markBlock, heldSlotS and heldBlock by their contracts. -/
import Derived.Test.YtggjillpfclajaaGreatCom
import Derived.Test.YtggjillpfclajaaGreatKMarks
import Derived.Test.YtggjillpfclajaaGreatKAt
import Derived.Deep.RegionHeld3
namespace Go.Proofs.YtggjillpfclajaaGreat.Kit
open Go.RowKit
/-- The marks of n slots from k on. -/
def mkS (k n : Nat) : List Sl := (List.range n).map fun j => (mkT (k + j * 2), ((k + j * 2 + 1 : Nat) : Int))
theorem mkS_length (k n : Nat) : (mkS k n).length = n := by simp [mkS]
theorem mkS_at (k n j : Nat) (h : j < (mkS k n).length) : (mkS k n)[j] = (mkT (k + j * 2), ((k + j * 2 + 1 : Nat) : Int)) := by simp [mkS]
/-- The first j slots are markedK already. -/
def markedK (k j : Nat) (l : List Sl) : List Sl := mkS k j ++ l.drop j
theorem marked_lengthK (k j : Nat) (l : List Sl) (h : j ≤ l.length) : (markedK k j l).length = l.length := by simp [markedK, mkS_length]; omega
theorem marked_zeroK (k : Nat) (l : List Sl) : markedK k 0 l = l := by simp [markedK, mkS]
theorem marked_allK (k : Nat) (l : List Sl) : markedK k l.length l = mkS k l.length := by simp [markedK]
theorem marked_setK (k j : Nat) (l : List Sl) (h : j < l.length) : (markedK k j l).set j (mkT (k + j * 2), ((k + j * 2 + 1 : Nat) : Int)) = markedK k (j + 1) l := by
  unfold markedK
  rw [List.set_append_right _ _ (by rw [mkS_length]; omega), mkS_length, Nat.sub_self, List.drop_eq_getElem_cons h, List.set_cons_zero]
  simp [mkS, List.range_succ]
end Go.Proofs.YtggjillpfclajaaGreat.Kit
namespace Go.Proofs.YtggjillpfclajaaGreat
open Go.RowKit Kit
theorem eqOne_same (t : ByteArray) (z : Int) (w : World) :
    Calls Tryz.prog 103 #[.agg #[.string t, .int .i64 z], .agg #[.string t, .int .i64 z]] w fun e w' => e = .returned (.bool true) ∧ Below w.heap.size w w' := by
  go_enter Tryz.func103, Tryz.ntmps103
  go_wp2
  go_ret
  exact ⟨rfl, by go_grown⟩
set_option maxRecDepth 100000 in
set_option maxHeartbeats 1600000 in
theorem eqS_same (va vb : Value) (l : List Sl) (w : World) (ha : RSl w va l) (hb : RSl w vb l) (hl : l.length ≤ 1048576) :
    Calls Tryz.prog 95 #[va, vb] w fun e w' => e = .returned (.bool true) ∧ Below w.heap.size w w' := by
  obtain ⟨a1, c1, rfl, -, ha⟩ := ha
  obtain ⟨a2, c2, rfl, -, hb⟩ := hb
  have HA := hide ha
  have HB := hide hb
  clear ha hb
  go_enter Tryz.func95, Tryz.ntmps95
  go_wp2
  go_loopw [5] (fun i wr => ∃ j : Nat, j ≤ l.length ∧ i = .int .i64 j ∧ Below w.heap.size w wr) (fun i _ => l.length - (intOf i).toNat)
  case atStart => exact ⟨0, Nat.zero_le _, rfl, Below.refl _ _⟩
  case round =>
    obtain ⟨j, hj, rfl, hb⟩ := hrel
    by_cases hlt : j < l.length
    · obtain ⟨g1, o1, rfl, hg1, m1, m2⟩ := HA.out j hlt
      obtain ⟨g2, o2, rfl, hg2, m3, m4⟩ := HB.out j hlt
      have HS : Hid (∀ w', Below w.heap.size w w' → w'.cell? ⟨g1, o1 + j * 2, none⟩ = some (.string l[j].1) ∧ w'.cell? ⟨g1, o1 + j * 2 + 1, none⟩ = some (.int .i64 l[j].2) ∧ w'.cell? ⟨g2, o2 + j * 2, none⟩ = some (.string l[j].1) ∧ w'.cell? ⟨g2, o2 + j * 2 + 1, none⟩ = some (.int .i64 l[j].2)) := fun w' hb =>
        ⟨(hb.cell (p := ⟨g1, o1 + j * 2, none⟩) hg1).trans m1, (hb.cell (p := ⟨g1, o1 + j * 2 + 1, none⟩) hg1).trans m2, (hb.cell (p := ⟨g2, o2 + j * 2, none⟩) hg2).trans m3, (hb.cell (p := ⟨g2, o2 + j * 2 + 1, none⟩) hg2).trans m4⟩
      obtain ⟨t, ht⟩ : ∃ t, l[j].1 = t := ⟨_, rfl⟩
      obtain ⟨z, hz⟩ : ∃ z, l[j].2 = z := ⟨_, rfl⟩
      rw [ht, hz] at HS
      clear ht hz m1 m2 m3 m4
      obtain ⟨r1, r2, r3, r4⟩ := HS.out _ hb
      have j0 : (0 : Int) ≤ (j : Int) := by omega
      have j1 : (j : Int) < (l.length : Int) := by omega
      have hsz := hb.size
      have HBB := hide hb
      clear hb
      go_wp2_with fail
      go_region_held3 (fun w' => w'.cell? ⟨g1, o1 + j * 2, none⟩ = some (.string t) ∧ w'.cell? ⟨g1, o1 + j * 2 + 1, none⟩ = some (.int .i64 z) ∧ w'.cell? ⟨g2, o2 + j * 2, none⟩ = some (.string t) ∧ w'.cell? ⟨g2, o2 + j * 2 + 1, none⟩ = some (.int .i64 z)) (first | exact HS.out _ HBB.out.drew | exact HS.out _ (HBB.out.trans ((of_drew B6).mono hsz))) ((go_at_call 103; refine (eqOne_same _ _ _).mono ?_; rintro e w6 ⟨rfl, B6⟩))
      have HB2 := hide (HBB.out.trans ((of_drew B6).mono hsz))
      clear B6
      go_wp2
      go_roundw
      case rel => exact ⟨j + 1, by omega, by go_num, HB2.out⟩
      case measure => simp [intOf]; omega
    · have HBB := hide hb
      clear hb
      go_wp2
      go_ret
      exact ⟨rfl, HBB.out⟩
set_option maxRecDepth 100000 in
set_option maxHeartbeats 1600000 in
theorem markS_any (v : Value) (l : List Sl) (base k : Nat) (w : World) (ha : SOwns w base 132 v l) (hk0 : 1 ≤ k) (hk1 : k ≤ 100000000000000) (hl : l.length ≤ 100000000000000) :
    Calls Tryz.prog 85 #[v, .int .i64 k] w fun e w' => e = .returned (.int .i64 (k + l.length * 2 : Nat)) ∧ SOwns w' base 132 v (mkS k l.length) ∧ w.grownBy w' v.ownBlock := by
  obtain ⟨a1, c1, rfl, hnil⟩ := ha.form
  have HA := hide ha
  clear ha
  go_enter Tryz.func85, Tryz.ntmps85
  go_wp2
  go_loopw [1, 5] (fun x i wr => ∃ j : Nat, j ≤ l.length ∧ i = .int .i64 j ∧ x = .int .i64 (k + j * 2 : Nat) ∧ SOwns wr base 132 (.slice a1 l.length c1) (markedK k j l) ∧ w.grownBy wr (Value.slice a1 l.length c1).ownBlock) (fun _ i _ => l.length - (intOf i).toNat)
  case atStart => exact ⟨0, Nat.zero_le _, rfl, rfl, by rw [marked_zeroK]; exact HA.out, grownBy_below (Below.refl _ _) _⟩
  case round =>
    obtain ⟨j, hj, rfl, rfl, hown, hg⟩ := hrel
    by_cases hlt : j < l.length
    · have hml : (markedK k j l).length = l.length := marked_lengthK k j l hj
      have HOWN := hide hown
      have HGR := hide hg
      have HML := hide hml
      clear hown hg hml hnil
      have j0 : (0 : Int) ≤ (j : Int) := by omega
      have j1 : (j : Int) < (l.length : Int) := by omega
      obtain ⟨K, hK⟩ : ∃ K : Nat, k + j * 2 = K := ⟨_, rfl⟩
      have hK0 : 1 ≤ K := by omega
      have hK1 : K ≤ 1000000000000000 := by omega
      have MS := hide (marked_setK k j l hlt)
      rw [show ((k + j * 2 + 1 : Nat) : Int) = ((k + j * 2 : Nat) : Int) + 1 from rfl] at MS
      rw [hK] at MS ⊢
      have HK := hide hK
      clear hK
      go_wp2_with (go_at_call 67; refine (markText_any K _ (by omega) (by omega)).mono ?_; rintro e w1 ⟨rfl, B1⟩; have O0 : SOwns w1 base 132 (.slice a1 (markedK k j l).length c1) (markedK k j l) := by { rw [HML.out]; exact HOWN.out.below B1 (Nat.le_refl _) }; obtain ⟨g, c2, e1, k1, k2, k3, k4, k5, -⟩ := O0.at j (by rw [HML.out]; exact hlt); simp only [Value.slice.injEq] at e1; obtain ⟨rfl, -, rfl⟩ := e1; have O2 := O0.set_both j (by rw [HML.out]; exact hlt) (mkT K) ((K : Int) + 1); rw [HML.out, MS.out] at O2; have HO := hide (And.intro O2.1 (grownBy_trans (grownBy_trans HGR.out (grownBy_below B1 _)) O2.2)); clear O0 O2 B1)
      go_roundw
      case rel => exact ⟨j + 1, by omega, by go_num, by have := HK.out; rw [← this]; go_num, HO.out.1, HO.out.2⟩
      case measure => simp [intOf]; omega
    · have hjl : j = l.length := by omega
      have HR := hide (And.intro hown hg)
      have HJ := hide hjl
      clear hown hg hjl
      go_wp2
      go_ret
      exact ⟨by rw [HJ.out]; rfl, by have := HR.out.1; rwa [HJ.out, marked_allK] at this, HR.out.2⟩
set_option maxRecDepth 100000 in
set_option maxHeartbeats 1600000 in
theorem heldS_any (v : Value) (n base k : Nat) (w : World) (ha : SOwns w base 132 v (mkS k n)) (hk0 : 1 ≤ k) (hk1 : k ≤ 100000000000000) (hl : n ≤ 100000000000000) :
    Calls Tryz.prog 86 #[v, .int .i64 k] w fun e w' => e = .returned (.int .i64 (k + n * 2 : Nat)) ∧ Below w.heap.size w w' := by
  obtain ⟨a1, c1, rfl, -⟩ := ha.form
  rw [mkS_length] at *
  have HA := hide ha
  clear ha
  go_enter Tryz.func86, Tryz.ntmps86
  go_wp2
  go_loopw [1, 5] (fun x i wr => ∃ j : Nat, j ≤ n ∧ i = .int .i64 j ∧ x = .int .i64 (k + j * 2 : Nat) ∧ Below w.heap.size w wr) (fun _ i _ => n - (intOf i).toNat)
  case atStart => exact ⟨0, Nat.zero_le _, rfl, rfl, Below.refl _ _⟩
  case round =>
    obtain ⟨j, hj, rfl, rfl, hb⟩ := hrel
    by_cases hlt : j < n
    · obtain ⟨g, c2, e1, m1, m2, m3, m4, m5, -⟩ := HA.out.at j (by rw [mkS_length]; exact hlt)
      simp only [Value.slice.injEq] at e1
      obtain ⟨rfl, -, rfl⟩ := e1
      rw [mkS_at] at m1 m2
      have HS : Hid (∀ w', Below w.heap.size w w' → w'.cell? ⟨g, j * 2, none⟩ = some (.string (mkT (k + j * 2))) ∧ w'.cell? ⟨g, j * 2 + 1, none⟩ = some (.int .i64 (((k + j * 2 : Nat) : Int) + 1))) := fun w' hb =>
        ⟨(hb.cell (p := ⟨g, j * 2, none⟩) m5).trans m1, (hb.cell (p := ⟨g, j * 2 + 1, none⟩) m5).trans m2⟩
      have j0 : (0 : Int) ≤ (j : Int) := by omega
      have j1 : (j : Int) < (n : Int) := by omega
      obtain ⟨K, hK⟩ : ∃ K : Nat, k + j * 2 = K := ⟨_, rfl⟩
      have hK0 : 1 ≤ K := by omega
      have hK1 : K ≤ 1000000000000000 := by omega
      rw [hK] at HS ⊢
      have HK := hide hK
      clear hK m1 m2 m3
      obtain ⟨r1, r2⟩ := HS.out _ hb
      have hsz := hb.size
      have HBB := hide hb
      clear hb
      go_wp2_with fail
      go_region_held3 (fun w' => w'.cell? ⟨g, j * 2, none⟩ = some (.string (mkT K)) ∧ w'.cell? ⟨g, j * 2 + 1, none⟩ = some (.int .i64 ((K : Int) + 1))) (first | exact HS.out _ HBB.out.drew | exact HS.out _ (HBB.out.trans ((of_drew B6).mono hsz))) ((go_at_call 67; refine (markText_any K _ (by omega) (by omega)).mono ?_; rintro e w6 ⟨rfl, B6⟩))
      have hB2 := HBB.out.trans ((of_drew B6).mono hsz)
      have HB2 := hide hB2
      obtain ⟨r5, r6⟩ := HS.out _ hB2
      clear B6 hB2
      go_wp2
      go_roundw
      case rel => exact ⟨j + 1, by omega, by go_num, by have := HK.out; rw [← this]; go_num, HB2.out⟩
      case measure => simp [intOf]; omega
    · have hjl : j = n := by omega
      have HJ := hide hjl
      have HBB := hide hb
      clear hjl hb
      go_wp2
      go_ret
      exact ⟨by rw [HJ.out]; rfl, HBB.out⟩
theorem eqB_sameK (d : Bool) (va vb : Value) (t : ByteArray) (l : List Sl) (w : World) (ha : RSl w va l) (hb : RSl w vb l) (hl : l.length ≤ 1048576) :
    Calls Tryz.prog 84 #[.agg #[.bool d, va, .string t], .agg #[.bool d, vb, .string t]] w fun e w' => e = .returned (.bool true) ∧ Below w.heap.size w w' := by
  have HA := hide ha
  have HB := hide hb
  obtain ⟨a1, c1, rfl⟩ := ha.form
  obtain ⟨a2, c2, rfl⟩ := hb.form
  clear ha hb
  go_enter Tryz.func84, Tryz.ntmps84
  go_wp2_with fail
  refine (eqS_same _ _ l _ ((HA.out.alloc _).alloc _) ((HB.out.alloc _).alloc _) hl).mono ?_
  rintro e w1 ⟨rfl, B1⟩
  obtain ⟨r0, r1, r2, r3⟩ := (((AtC.new w 115 #[.bool d, .slice a1 l.length c1, .string t]).alloc (.cells #[.bool d, .slice a2 l.length c2, .string t] 115)).over B1).three
  obtain ⟨s0, s1, s2, s3⟩ := ((AtC.new (w.alloc (.cells #[.bool d, .slice a1 l.length c1, .string t] 115)) 115 #[.bool d, .slice a2 l.length c2, .string t]).over B1).three
  simp only [World.size_alloc] at s0 s1 s2 s3
  have HB1 := hide B1
  clear B1
  go_wp2
  go_ret
  exact ⟨rfl, ((((Below.refl _ w).alloc (Nat.le_refl _) _).alloc (by simp) _).trans (HB1.out.mono (by simp; omega)))⟩
end Go.Proofs.YtggjillpfclajaaGreat
