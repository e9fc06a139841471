/- laws.markText, laws.eqStringS, laws.markStringS and laws.heldStringS by their contracts. -/
import Derived.Test.YtipippblnbihcalDoorDec
import Derived.Test.YtipippblnbihcalDoorKitB
import Derived.Deep.QuietTactic
import Derived.BigQuiet
import Derived.Deep.RegionHeld3
namespace Go.Proofs.YtipippblnbihcalDoor.Kit
open Go.RowKit
/-- The mark of a number. -/
def mkT (k : Nat) : ByteArray := accB (109 :: decF 20 k)
/-- The marks from k on, n of them. -/
def marks (k n : Nat) : List Value := (List.range n).map fun j => Value.string (mkT (k + j))
theorem marks_length (k n : Nat) : (marks k n).length = n := by simp [marks]
theorem marks_at (k n j : Nat) (h : j < n) : (marks k n)[j]? = some (.string (mkT (k + j))) := by simp [marks, h]
/-- The first j cells are marks already. -/
def marked (k j : Nat) (l : List Value) : List Value := marks k j ++ l.drop j
theorem marked_length (k j : Nat) (l : List Value) (h : j ≤ l.length) : (marked k j l).length = l.length := by simp [marked, marks_length]; omega
theorem marked_zero (k : Nat) (l : List Value) : marked k 0 l = l := by simp [marked, marks]
theorem marked_all (k : Nat) (l : List Value) : marked k l.length l = marks k l.length := by simp [marked]
theorem marked_set (k j : Nat) (l : List Value) (h : j < l.length) : (marked k j l).set j (.string (mkT (k + j))) = marked k (j + 1) l := by
  unfold marked
  rw [List.set_append_right _ _ (by rw [marks_length]; omega), marks_length, Nat.sub_self, List.drop_eq_getElem_cons h, List.set_cons_zero]
  simp [marks, List.range_succ]
end Go.Proofs.YtipippblnbihcalDoor.Kit
namespace Go.Proofs.YtipippblnbihcalDoor
open Go.RowKit Kit

set_option maxRecDepth 100000 in
set_option maxHeartbeats 800000 in
theorem markText_any (n : Nat) (w : World) (h0 : n ≠ 0) (h1 : n ≤ 1000000000000) :
    Calls Tryd.prog 17 #[.int .i64 n] w fun e w' => e = .returned (.string (mkT n)) ∧ Below w.heap.size w w' := by
  have m109 : (⟨#[109]⟩ : ByteArray) = oneB 109 := rfl
  go_enter Tryd.func17, Tryd.ntmps17
  go_wp2
  go_loopw [0, 3] (fun x t wr => ∃ (f m : Nat) (acc : List UInt8), x = .int .i64 m ∧ m ≤ 1000000000000 ∧ m < 10 ^ f ∧ acc.length + f = 20 ∧ Hid (decF 20 n = decF f m ++ acc) ∧ t = .string (accB acc) ∧ Below w.heap.size w wr) (fun x _ _ => (intOf x).toNat)
  case atStart => exact ⟨20, n, [], rfl, h1, by omega, rfl, hide (by simp), rfl, Below.refl _ _⟩
  case round =>
    obtain ⟨f, m, acc, rfl, hm, hf, hl, HE, rfl, hb⟩ := hrel
    have hsz := hb.size
    have hz := accB_size acc
    have hz1 : (accB acc).size ≤ 20 := by omega
    clear hz
    by_cases hz : m = 0
    · have e : mkT n = accB (109 :: acc) := by unfold mkT; rw [HE.out, hz, decF_zero]; rfl
      have HF := hide e
      have HC := hide (accB_cons 109 acc)
      have hs1 := oneB_size 109
      clear e
      go_wp2
      go_ret
      exact ⟨by rw [HF.out, ← HC.out]; rfl, hb⟩
    · cases f with
      | zero => simp at hf; omega
      | succ f =>
      have HS := hide (dec_step HE.out hz)
      have HC := hide (accB_cons (figB (m % 10)) acc)
      obtain ⟨d, hd⟩ : ∃ d : Nat, (m : Int) % 10 = d := ⟨m % 10, by omega⟩
      have hd' : m % 10 = d := by omega
      rw [hd'] at HS HC
      have hd1 : d < 10 := by omega
      have hs1 := oneB_size (figB d)
      have hco := conv_one (figB d)
      have hfg := figB_lo d hd1
      rw [hfg] at hco
      clear hd' hfg
      go_wp2
      go_roundw
      case rel => exact ⟨f, m / 10, figB d :: acc, by go_num, by omega, by rw [Nat.pow_succ] at hf; omega, by simp; omega, HS, by rw [HC.out], hb.alloc hsz _⟩
      case measure => simp [intOf]; omega

theorem markText_int (x : Int) (w : World) (h0 : 0 < x) (h1 : x ≤ 1000000000000) :
    Calls Tryd.prog 17 #[.int .i64 x] w fun e w' => e = .returned (.string (mkT x.toNat)) ∧ Below w.heap.size w w' := by
  obtain ⟨n, rfl⟩ := Int.eq_ofNat_of_zero_le (show 0 ≤ x by omega)
  rw [Int.toNat_natCast]
  exact markText_any n w (by omega) (by omega)

set_option maxRecDepth 100000 in
set_option maxHeartbeats 800000 in
theorem eqS_same (va vb : Value) (l : List ByteArray) (b1 b2 : Nat) (w : World) (ha : ROwns w b1 9 va (l.map Value.string)) (hb : ROwns w b2 9 vb (l.map Value.string)) (hl : l.length ≤ 1000000000) :
    Calls Tryd.prog 9 #[va, vb] w fun e w' => e = .returned (.bool true) ∧ Below w.heap.size w w' := by
  obtain ⟨a1, c1, rfl, _⟩ := ha.form
  obtain ⟨a2, c2, rfl, _⟩ := hb.form
  have HA := hide ha
  have HB := hide hb
  rw [List.length_map] at *
  clear ha hb
  go_enter Tryd.func9, Tryd.ntmps9
  go_wp2
  go_loopw [5] (fun i wr => ∃ j : Nat, j ≤ l.length ∧ i = .int .i64 j ∧ ∃ q, wr = w.drewN q) (fun i _ => l.length - (intOf i).toNat)
  case atStart => exact ⟨0, Nat.zero_le _, rfl, 0, rfl⟩
  case round =>
    obtain ⟨j, hj, rfl, q, rfl⟩ := hrel
    by_cases hlt : j < l.length
    · obtain ⟨g1, d1, e1, k1, -⟩ := HA.out.at j (by simpa using hlt)
      obtain ⟨g2, d2, e2, k2, -⟩ := HB.out.at j (by simpa using hlt)
      simp only [Value.slice.injEq] at e1 e2
      obtain ⟨rfl, -, -⟩ := e1
      obtain ⟨rfl, -, -⟩ := e2
      obtain ⟨t, ht⟩ : ∃ t, l[j] = t := ⟨_, rfl⟩
      have k1' : w.cell? ⟨g1, j, none⟩ = some (.string t) := by rw [k1]; simp [hlt, ht]
      have k2' : w.cell? ⟨g2, j, none⟩ = some (.string t) := by rw [k2]; simp [hlt, ht]
      clear k1 k2 ht
      have j0 : (0 : Int) ≤ (j : Int) := by omega
      have j1 : (j : Int) < (l.length : Int) := by omega
      go_wp2
      go_quiet (fail)
      go_wp2
      go_roundw
      case rel => exact ⟨j + 1, by omega, by go_num, _, rfl⟩
      case measure => simp [intOf]; omega
    · go_wp2
      go_ret
      exact ⟨rfl, below_drewN (Below.refl _ _) _⟩

set_option maxRecDepth 100000 in
set_option maxHeartbeats 800000 in
theorem markS_any (v : Value) (l : List Value) (base k : Nat) (w : World) (ha : ROwns w base 9 v l) (hst : ∀ u ∈ l, ∃ t, u = .string t) (hk : k ≠ 0) (hk1 : k ≤ 1000000000) (hl : l.length ≤ 1000000000) :
    Calls Tryd.prog 10 #[v, .int .i64 k] w fun e w' => e = .returned (.int .i64 (k + l.length : Nat)) ∧ ROwns w' base 9 v (marks k l.length) ∧ w.grownBy w' v.ownBlock := by
  obtain ⟨a1, c1, rfl, hnil⟩ := ha.form
  have HA := hide ha
  have HS := hide hst
  clear ha hst
  go_enter Tryd.func10, Tryd.ntmps10
  go_wp2
  go_loopw [1, 5] (fun x i wr => ∃ j : Nat, j ≤ l.length ∧ i = .int .i64 j ∧ x = .int .i64 (k + j : Nat) ∧ ROwns wr base 9 (.slice a1 l.length c1) (marked k j l) ∧ w.grownBy wr (Value.slice a1 l.length c1).ownBlock) (fun _ i _ => l.length - (intOf i).toNat)
  case atStart => exact ⟨0, Nat.zero_le _, rfl, rfl, by rw [marked_zero]; exact HA.out, grownBy_below (Below.refl _ _) _⟩
  case round =>
    obtain ⟨j, hj, rfl, rfl, hown, hg⟩ := hrel
    by_cases hlt : j < l.length
    · have hml := marked_length k j l hj
      obtain ⟨g, c2, e1, k1, k2, k3, k4, k5⟩ := hown.at j (by omega)
      simp only [Value.slice.injEq] at e1
      obtain ⟨rfl, -, rfl⟩ := e1
      have hc : ∃ t, wr.cell? ⟨g, j, none⟩ = some (.string t) := by
        obtain ⟨t, ht⟩ := HS.out l[j] (List.getElem_mem hlt)
        refine ⟨t, ?_⟩
        rw [k1]
        unfold marked
        rw [List.getElem?_append_right (by rw [marks_length]; omega), marks_length, Nat.sub_self, List.getElem?_drop]
        simp [hlt, ht]
      obtain ⟨t, hct⟩ := hc
      have HO := hide hown
      have HG := hide hg
      have HM := hide hml
      have HMS := hide (marked_set k j l hlt)
      have j0 : (0 : Int) ≤ (j : Int) := by omega
      have j1 : (j : Int) < (l.length : Int) := by omega
      clear hown hg hml k1 hnil
      have tn : ((k : Int) + (j : Int)).toNat = k + j := by omega
      go_wp2_with (go_at_call 17; refine (markText_int _ _ ?_ ?_).mono ?_; omega; omega; rintro e w1 ⟨rfl, hb⟩; have q1 : w1.cell? ⟨g, j, none⟩ = some (.string t) := (hb.cell (p := ⟨g, j, none⟩) k4).trans hct; have q2 : w1.frozen? ⟨g, j, none⟩ = false := (hb.frozen (p := ⟨g, j, none⟩) k4).trans k2)
      have O1 : ROwns w1 base 9 (.slice (some ⟨g, 0, none⟩) (marked k j l).length c1) (marked k j l) := by rw [HM.out]; exact HO.out.below hb (Nat.le_refl _)
      have O2 := O1.stored j (.string (mkT (k + j)))
      rw [HMS.out, HM.out] at O2
      have O3 : w.grownBy (w1.setCell ⟨g, j, none⟩ (.string (mkT (k + j)))) (some g) := grownBy_trans (grownBy_trans HG.out (grownBy_below hb _)) O2.2
      go_roundw
      case rel => exact ⟨j + 1, by omega, by go_num, by go_num, O2.1, O3⟩
      case measure => simp [intOf]; omega
    · have hjl : j = l.length := by omega
      have HR := hide (And.intro hown hg)
      have HJ := hide hjl
      clear hown hg hjl
      go_wp2
      go_ret
      exact ⟨by rw [HJ.out]; rfl, by have := HR.out.1; rwa [HJ.out, marked_all] at this, HR.out.2⟩

set_option maxRecDepth 100000 in
set_option maxHeartbeats 800000 in
theorem heldS_any (v : Value) (n base k : Nat) (w : World) (ha : ROwns w base 9 v (marks k n)) (hk : k ≠ 0) (hk1 : k ≤ 1000000000) (hl : n ≤ 1000000000) :
    Calls Tryd.prog 11 #[v, .int .i64 k] w fun e w' => e = .returned (.int .i64 (k + n : Nat)) ∧ Below w.heap.size w w' := by
  obtain ⟨a1, c1, rfl, -⟩ := ha.form
  rw [marks_length] at *
  have HA := hide ha
  clear ha
  go_enter Tryd.func11, Tryd.ntmps11
  go_wp2
  go_loopw [1, 5] (fun x i wr => ∃ j : Nat, j ≤ n ∧ i = .int .i64 j ∧ x = .int .i64 (k + j : Nat) ∧ Below w.heap.size w wr) (fun _ i _ => n - (intOf i).toNat)
  case atStart => exact ⟨0, Nat.zero_le _, rfl, rfl, Below.refl _ _⟩
  case round =>
    obtain ⟨j, hj, rfl, rfl, hb⟩ := hrel
    by_cases hlt : j < n
    · obtain ⟨g, c2, e1, k1, -, -, k4, -⟩ := HA.out.at j (by rw [marks_length]; exact hlt)
      simp only [Value.slice.injEq] at e1
      obtain ⟨rfl, -, rfl⟩ := e1
      have hct : wr.cell? ⟨g, j, none⟩ = some (.string (mkT (k + j))) := by
        rw [hb.cell (p := ⟨g, j, none⟩) k4, k1]; exact marks_at k n j hlt
      have k5 : g < wr.heap.size := by have := hb.size; omega
      have HB := hide hb
      have j0 : (0 : Int) ≤ (j : Int) := by omega
      have j1 : (j : Int) < (n : Int) := by omega
      have tn : ((k : Int) + (j : Int)).toNat = k + j := by omega
      clear hb k1
      go_wp2
      go_region_held3 (fun w' => w'.cell? ⟨g, j, none⟩ = some (.string (mkT (k + j)))) (first | go_keep | exact (hb2.cell (p := ⟨g, j, none⟩) k5).trans hct) ((go_at_call 17; refine (markText_int _ _ ?_ ?_).mono ?_; omega; omega; rintro e w1 ⟨rfl, hb2⟩))
      have R1 := hide (HB.out.trans ((of_drew hb2).mono HB.out.size))
      go_wp2
      go_roundw
      case rel => exact ⟨j + 1, by omega, by go_num, by go_num, R1.out⟩
      case measure => simp [intOf]; omega
    · have hjl : j = n := by omega
      have HR := hide hb
      have HJ := hide hjl
      clear hb hjl
      go_wp2
      go_ret
      exact ⟨by rw [HJ.out]; rfl, HR.out⟩
end Go.Proofs.YtipippblnbihcalDoor
