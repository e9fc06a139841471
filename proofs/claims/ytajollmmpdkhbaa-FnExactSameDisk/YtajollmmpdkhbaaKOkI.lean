
/- impl.slotsRight and impl.BlockOk by their contracts. -/
import Derived.Test.YtajollmmpdkhbaaCom
import Derived.Test.YtajollmmpdkhbaaKRight
import Derived.Deep.RegionHeld3
namespace Go.Proofs.Ytajollmmpdkhbaa.Kit
open Go.RowKit
/-- What is asked of slots, one behind the other. -/
def okF : List Sl → List Sl → Bool
  | _, [] => true
  | ahead, s :: r => slotOk s && decide (placeR ahead s.1 < 0) && okF (ahead ++ [s]) r
/-- The slots of a directory are right. -/
def slotsOk (xs : List Sl) : Bool := decide (xs.length = 4) && okF [] xs
/-- A block is right. -/
def blockOk (d : Bool) (xs : List Sl) (t : ByteArray) : Bool := if d then decide (t.size = 0) && slotsOk xs else decide (xs.length = 0 ∧ t.size ≤ 16)
theorem ok_start {xs : List Sl} (h : xs.length = 4) : slotsOk xs = okF (xs.take 0) (xs.drop 0) := by simp [slotsOk, h]
theorem ok_other {xs : List Sl} (h : xs.length ≠ 4) : slotsOk xs = false := by simp [slotsOk, h]
theorem ok_next {R : Bool} {xs : List Sl} {j : Nat} (h : j < xs.length) (hp : R = okF (xs.take j) (xs.drop j)) (h1 : slotOk xs[j] = true) (h2 : placeR (xs.take j) xs[j].1 < 0) : R = okF (xs.take (j + 1)) (xs.drop (j + 1)) := by
  rw [hp, List.drop_eq_getElem_cons h, okF, h1, decide_eq_true h2, List.take_succ_eq_append_getElem h]
  rfl
theorem ok_bad {R : Bool} {xs : List Sl} {j : Nat} (h : j < xs.length) (hp : R = okF (xs.take j) (xs.drop j)) (h1 : slotOk xs[j] = false) : R = false := by
  rw [hp, List.drop_eq_getElem_cons h, okF, h1]
  rfl
theorem ok_twice {R : Bool} {xs : List Sl} {j : Nat} (h : j < xs.length) (hp : R = okF (xs.take j) (xs.drop j)) (h2 : ¬ placeR (xs.take j) xs[j].1 < 0) : R = false := by
  rw [hp, List.drop_eq_getElem_cons h, okF, decide_eq_false h2]
  simp
theorem ok_end {R : Bool} {xs : List Sl} {j : Nat} (h : xs.length ≤ j) (hp : R = okF (xs.take j) (xs.drop j)) : R = true := by
  rw [hp, List.drop_of_length_le h, okF]
theorem RSl.take {w : World} {a : Option Addr} {c : Nat} {xs : List Sl} (h : RSl w (.slice a xs.length c) xs) (j : Nat) (hj : j ≤ xs.length) : RSl w (.slice a j c) (xs.take j) := by
  obtain ⟨a', c', e, hcap, h⟩ := h
  simp only [Value.slice.injEq] at e
  obtain ⟨rfl, -, rfl⟩ := e
  have hl : (xs.take j).length = j := by simp; omega
  refine ⟨a, c, by rw [hl], by omega, fun i hi => ?_⟩
  rw [hl] at hi
  obtain ⟨g, off, e, hg, k1, k2⟩ := h i (by omega)
  exact ⟨g, off, e, hg, by simpa using k1, by simpa using k2⟩
end Go.Proofs.Ytajollmmpdkhbaa.Kit
namespace Go.Proofs.Ytajollmmpdkhbaa
open Go.RowKit Kit
set_option maxRecDepth 100000 in
set_option maxHeartbeats 1600000 in
theorem slotsRight_four (v : Value) (xs : List Sl) (w : World) (hv : RSl w v xs) (hl : xs.length = 4) :
    Calls Try.prog 96 #[v] w fun e w' => e = .returned (.bool (slotsOk xs)) ∧ Below w.heap.size w w' := by
  have HV := hide hv
  obtain ⟨a, c, rfl, hcap, hc⟩ := hv
  have HC := hide hc
  have HL := hide hl
  clear hc
  have HR := hide (ok_start hl)
  obtain ⟨R, hR⟩ : ∃ R, slotsOk xs = R := ⟨_, rfl⟩
  rw [hR] at HR ⊢
  rw [hl] at HV hcap ⊢
  clear hR hl
  go_enter Try.func96, Try.ntmps96
  go_wp2
  go_loopw [3, 4, 10] (fun _ _ i wr => ∃ j : Nat, j ≤ 4 ∧ i = .int .i64 j ∧ Hid (R = okF (xs.take j) (xs.drop j)) ∧ Below w.heap.size w wr) (fun _ _ i _ => 4 - (intOf i).toNat)
  case atStart => exact ⟨0, Nat.zero_le _, rfl, HR, Below.refl _ _⟩
  case round =>
    obtain ⟨j, hj, rfl, HP, hb⟩ := hrel
    by_cases hlt : j < 4
    · have hlx : j < xs.length := by rw [HL.out]; exact hlt
      obtain ⟨g, off, rfl, hg, k1, k2⟩ := HC.out j hlx
      have q1 := (hb.cell (p := ⟨g, off + j * 2, none⟩) hg).trans k1
      have q2 := (hb.cell (p := ⟨g, off + j * 2 + 1, none⟩) hg).trans k2
      have hsz := hb.size
      have j0 : (0 : Int) ≤ (j : Int) := by omega
      have j1 : (j : Int) < 4 := by omega
      have jc : (j : Int) ≤ (c : Int) := by omega
      have HTK := hide ((show RSl w (.slice (some ⟨g, off, none⟩) xs.length c) xs by rw [HL.out]; exact HV.out).take j (by omega))
      have C1 := hide (fun W => right_anyK xs[j].1 xs[j].2 W)
      have C2 := hide (fun W h => placeOf_any (.slice (some ⟨g, off, none⟩) j c) (xs.take j) xs[j].1 W h (by simp; have := HL.out; omega))
      have HBAD := hide (ok_bad hlx HP.out)
      have HTW := hide (ok_twice hlx HP.out)
      have HNX := hide (ok_next hlx HP.out)
      obtain ⟨t, ht⟩ : ∃ t, xs[j].1 = t := ⟨_, rfl⟩
      obtain ⟨z, hz⟩ : ∃ z, xs[j].2 = z := ⟨_, rfl⟩
      obtain ⟨r1, hr1⟩ : ∃ r, slotOk xs[j] = r := ⟨_, rfl⟩
      obtain ⟨r2, hr2⟩ : ∃ r, placeR (xs.take j) xs[j].1 = r := ⟨_, rfl⟩
      have e1 : (xs[j].1, xs[j].2) = xs[j] := rfl
      rw [e1, hr1] at C1
      rw [hr2] at C2 HTW HNX
      rw [hr1] at HBAD HNX
      rw [ht] at q1 C1 C2
      rw [hz] at q2 C1
      have HB := hide hb
      clear k1 k2 ht hz hr1 hr2 e1 hb HP hlx
      have HS : Hid (∀ w', Below (wr.heap.size + 1) (wr.alloc (.cells #[.string t, .int .i64 z] 94)) w' → w'.cell? ⟨wr.heap.size, 0, none⟩ = some (.string t) ∧ w'.cell? ⟨wr.heap.size, 1, none⟩ = some (.int .i64 z)) := fun w' hb => by
        obtain ⟨e0, e1, _⟩ := ((AtC.new wr 94 #[.string t, .int .i64 z]).below hb (by simp)).two
        exact ⟨e0, e1⟩
      have HBW := hide (HB.out.alloc hsz (.cells #[.string t, .int .i64 z] 94))
      cases r1 with
      | false =>
        go_wp2_with fail
        first | (go_region_with (go_at_call 105; refine (C1.out _).mono ?_; rintro e w6 ⟨rfl, B6⟩)) | fail
        all_goals have HBB := hide (HBW.out.trans ((of_drew B6).mono (by simp; omega)))
        all_goals have HQ := hide (HBAD.out trivial)
        all_goals clear B6
        all_goals go_wp2
        all_goals go_ret
        all_goals exact ⟨ret_bool HQ.out.symm, HBB.out⟩
      | true =>
        go_wp2_with fail
        go_region_held3 (fun w' => w'.cell? ⟨wr.heap.size, 0, none⟩ = some (.string t) ∧ w'.cell? ⟨wr.heap.size, 1, none⟩ = some (.int .i64 z)) (first | exact HS.out _ (Below.refl _ _).drew | exact HS.out _ (by simpa using of_drew B6) | exact HS.out _ (by simpa using ((of_drew B6).trans (B7.mono (of_drew B6).size)))) (first | (go_at_call 105; refine (C1.out _).mono ?_; rintro e w6 ⟨rfl, B6⟩) | (go_at_call 106; refine (C2.out _ (HTK.out.below (HBW.out.trans ((of_drew B6).mono (by simp; omega))) (Nat.le_refl _))).mono ?_; rintro e w7 ⟨rfl, B7⟩))
        have HBB := hide (HBW.out.trans (((of_drew B6).trans (B7.mono (of_drew B6).size)).mono (by simp; omega)))
        clear B6 B7
        by_cases hr : 0 ≤ r2
        · have HQ := hide (HTW.out hr)
          go_wp2
          go_ret
          exact ⟨ret_bool HQ.out.symm, HBB.out⟩
        · have HQ := hide (HNX.out trivial (by omega))
          go_wp2
          go_roundw
          case rel => exact ⟨j + 1, by omega, by go_num, HQ, HBB.out⟩
          case measure => simp [intOf]; omega
    · have HH := hide (ok_end (by rw [HL.out]; omega) HP.out)
      have HB := hide hb
      clear hb
      go_wp2
      go_ret
      exact ⟨ret_bool HH.out.symm, HB.out⟩
end Go.Proofs.Ytajollmmpdkhbaa
