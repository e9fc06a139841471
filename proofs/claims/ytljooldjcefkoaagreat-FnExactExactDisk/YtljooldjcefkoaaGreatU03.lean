/- Texts of the proof, bundled: ITo, KMarks, KEq, KTo, Sz, SzD. -/
import Derived.Deep.OwnRows
import Derived.Test.YtljooldjcefkoaaGreatRows
import Derived.Deep.RegionHeld3
import Derived.Test.YtljooldjcefkoaaGreatU01
import Derived.Test.YtljooldjcefkoaaGreatU02
/- laws.szIntS, laws.szInode, laws.toIntS and laws.toInode by their contracts. -/
namespace Go.Proofs.YtljooldjcefkoaaGreat.Kit
open Go.RowKit
/-- The first j numbers are copiedI, the others are 0 yet. -/
def copiedI (j : Nat) (xs : List Int) : List Int := xs.take j ++ List.replicate (xs.length - j) 0
theorem copied_lengthI (j : Nat) (xs : List Int) (h : j ≤ xs.length) : (copiedI j xs).length = xs.length := by simp [copiedI]; omega
theorem copied_zeroI (xs : List Int) : copiedI 0 xs = List.replicate xs.length 0 := by simp [copiedI]
theorem copied_allI (xs : List Int) : copiedI xs.length xs = xs := by simp [copiedI]
theorem copied_cellI (j : Nat) (xs : List Int) (h : j < xs.length) : (ic (copiedI j xs))[j]? = some (.int .i64 0) := by
  unfold ic copiedI
  have e : (List.map (fun z => Value.int .i64 z) (xs.take j)).length = j := by simp; omega
  rw [List.map_append, List.getElem?_append_right (by omega), e, Nat.sub_self, List.map_replicate, List.getElem?_replicate, if_pos (by omega)]
theorem copied_setI (j : Nat) (xs : List Int) (h : j < xs.length) : (ic (copiedI j xs)).set j (.int .i64 xs[j]) = ic (copiedI (j + 1) xs) := by
  have e : (copiedI j xs).set j xs[j] = copiedI (j + 1) xs := by
    unfold copiedI
    rw [List.set_append_right _ _ (by simp; omega), List.take_succ_eq_append_getElem h, List.length_take, Nat.min_eq_left (by omega), Nat.sub_self, show xs.length - j = (xs.length - (j + 1)) + 1 by omega, List.replicate_succ, List.set_cons_zero, List.append_assoc]
    rfl
  rw [← e]
  simp [ic, List.map_set]
end Go.Proofs.YtljooldjcefkoaaGreat.Kit
namespace Go.Proofs.YtljooldjcefkoaaGreat
open Go.RowKit Kit
theorem make_nI (n : Nat) (h : n ≤ 1048576) (w : World) : (Instr.makeSlice 42 (.int .i64 (n : Int)) (.int .i64 (n : Int))).run Tryz.prog w = .ok (.slice (some ⟨w.heap.size, 0, none⟩) n n) (w.alloc (.cells (madeCells #[.int .i64 0] n) 3)) :=
  run_make_row' 42 3 (.int .i64 0) 8 Tryz.u42 Tryz.i3 rfl .i64 .i64 n (by omega) (by omega) w

set_option maxHeartbeats 800000 in
theorem szN_inI (k l : Int) (a : Option Addr) (n c : Nat) (w : World) (h : n ≤ 1048576) :
    Calls Tryz.prog 45 #[.agg #[.int .i64 k, .int .i64 l, .slice a n c], .int .i64 1048576] w fun e w' => e = .returned (.int .i64 (1048576 - (n : Int))) ∧ Below w.heap.size w w' := by
  go_enter Tryz.func45, Tryz.ntmps45
  go_wp2
  go_ret
  exact ⟨rfl, by go_grown⟩
set_option maxHeartbeats 800000 in
theorem szN_outI (k l : Int) (a : Option Addr) (n c : Nat) (w : World) (h : ¬ n ≤ 1048576) (h2 : n ≤ maxLen) :
    Calls Tryz.prog 45 #[.agg #[.int .i64 k, .int .i64 l, .slice a n c], .int .i64 1048576] w fun e w' => e = .returned (.int .i64 (-1)) ∧ Below w.heap.size w w' := by
  have h3 : n ≤ 9223372036854775807 := h2
  clear h2
  go_enter Tryz.func45, Tryz.ntmps45
  go_wp2
  go_ret
  exact ⟨rfl, by go_grown⟩

set_option maxRecDepth 100000 in
set_option maxHeartbeats 1600000 in
theorem toI_any (v : Value) (xs : List Int) (w : World) (hv : RInts w v xs) (hl : xs.length ≤ 1048576) :
    Calls Tryz.prog 83 #[v] w fun e w' => ∃ u, e = .returned u ∧ ROwns w' w.heap.size 3 u (ic xs) ∧ Below w.heap.size w w' := by
  obtain ⟨a, c, rfl, hc⟩ := hv
  have HC := hide hc
  clear hc
  have mk := make_nI xs.length hl
  go_enter Tryz.func83, Tryz.ntmps83
  go_wp2
  go_loopw [4] (fun i wr => ∃ j : Nat, j ≤ xs.length ∧ i = .int .i64 j ∧ ROwns wr w.heap.size 3 (.slice (some ⟨w.heap.size, 0, none⟩) xs.length xs.length) (ic (copiedI j xs)) ∧ Below w.heap.size w wr) (fun i _ => xs.length - (intOf i).toNat)
  case atStart =>
    refine ⟨0, Nat.zero_le _, rfl, ?_, (Below.refl _ w).alloc (Nat.le_refl _) _⟩
    have e1 : (madeCells #[.int .i64 0] xs.length).toList = ic (copiedI 0 xs) := by rw [toList_madeCells_one, copied_zeroI]; simp [ic]
    have e2 : (madeCells #[.int .i64 0] xs.length).size = xs.length := by rw [← Array.length_toList, e1, ic_length, copied_lengthI 0 xs (Nat.zero_le _)]
    have := ROwns.lit w w.heap.size 3 (madeCells #[.int .i64 0] xs.length) (Nat.le_refl _) (by rw [e2]; unfold maxLen; omega)
    rwa [e1, e2] at this
  case round =>
    obtain ⟨j, hj, rfl, hown, hb⟩ := hrel
    by_cases hlt : j < xs.length
    · obtain ⟨g, off, rfl, hg, k1⟩ := HC.out j hlt
      have q1 : wr.cell? ⟨g, off + j, none⟩ = some (.int .i64 xs[j]) := (hb.cell (p := ⟨g, off + j, none⟩) hg).trans k1
      have hml : (ic (copiedI j xs)).length = xs.length := by rw [ic_length, copied_lengthI j xs hj]
      obtain ⟨g2, c2, e1, q2, q3, -⟩ := hown.at j (by omega)
      rw [copied_cellI j xs hlt] at q2
      simp only [Value.slice.injEq, Option.some.injEq, Addr.mk.injEq] at e1
      obtain ⟨⟨rfl, -, -⟩, -, rfl⟩ := e1
      have O1 : ROwns wr w.heap.size 3 (.slice (some ⟨w.heap.size, 0, none⟩) (ic (copiedI j xs)).length xs.length) (ic (copiedI j xs)) := by rw [hml]; exact hown
      have O2 := O1.stored j (.int .i64 xs[j])
      rw [copied_setI j xs hlt, hml] at O2
      have HO := hide (And.intro O2.1 (hb.setCell (p := ⟨w.heap.size, j, none⟩) (Nat.le_refl _) (.int .i64 xs[j])))
      obtain ⟨t, ht⟩ : ∃ t, xs[j] = t := ⟨_, rfl⟩
      rw [ht] at q1 HO
      have hne : ¬ g = w.heap.size := by omega
      have j0 : (0 : Int) ≤ (j : Int) := by omega
      have j1 : (j : Int) < (xs.length : Int) := by omega
      clear hown hb hml O1 O2 ht k1 mk
      go_wp2
      go_roundw
      case rel => exact ⟨j + 1, by omega, by go_num, HO.out.1, HO.out.2⟩
      case measure => simp [intOf]; omega
    · have hjl : j = xs.length := by omega
      have HR := hide (And.intro hown hb)
      have HJ := hide hjl
      clear hown hb hjl mk
      go_wp2
      go_ret
      exact ⟨_, rfl, by have := HR.out.1; rwa [HJ.out, copied_allI] at this, HR.out.2⟩

set_option maxHeartbeats 1600000 in
theorem toN_anyI (k l : Int) (v : Value) (xs : List Int) (w : World) (hv : RInts w v xs) (hl : xs.length ≤ 1048576) :
    Calls Tryz.prog 54 #[.agg #[.int .i64 k, .int .i64 l, v]] w fun e w' => ∃ u, e = .returned (.agg #[.int .i64 k, .int .i64 l, u]) ∧ ROwns w' w.heap.size 3 u (ic xs) ∧ Below w.heap.size w w' := by
  have HV := hide hv
  obtain ⟨a, c, rfl, -⟩ := hv
  go_enter Tryz.func54, Tryz.ntmps54
  go_wp2_with fail
  refine (toI_any _ xs _ (((HV.out.alloc _).alloc _).alloc _) hl).mono ?_
  rintro e w1 ⟨u, rfl, O1, B1⟩
  obtain ⟨a1, c1, rfl⟩ := O1.rints.form
  have K0 : AtI w1 (w.heap.size + 1) 0 0 (.slice none 0 0) := by
    have := ((AtI.new (w.alloc (Obj.cells #[.int .i64 k, .int .i64 l, .slice a xs.length c] 63)) 0 0 (.slice none 0 0)).alloc (Obj.cells #[.int .i64 k, .int .i64 l, .slice none 0 0] 44)).below B1 (by simp)
    simpa using this
  have K1 : AtI w1 (w.heap.size + 1 + 1) k l (.slice none 0 0) := by
    have := (AtI.new ((w.alloc (Obj.cells #[.int .i64 k, .int .i64 l, .slice a xs.length c] 63)).alloc (Obj.cells #[.int .i64 0, .int .i64 0, .slice none 0 0] 44)) k l (.slice none 0 0)).below B1 (by simp)
    simpa using this
  obtain ⟨q0, q1, q2, z0, z1, z2, m0⟩ := res_cells (w1 := w1) (b := w.heap.size + 1) K0
  obtain ⟨d0, d1, d2, m1⟩ := K1.cells
  have f2 : w1.frozen? ⟨w.heap.size + 1 + 1, 2, none⟩ = false := by
    have : w1.heap[w.heap.size + 1 + 1]? = _ := K1
    simp [World.frozen?, this]
  have B2 : Below w.heap.size w w1 := ((((Below.refl _ w).alloc (Nat.le_refl _) _).alloc (by simp) _).alloc (by simp; omega) _).trans (B1.mono (by simp; omega))
  have O2 : ROwns w1 (w.heap.size + 1 + 1 + 1) 3 (.slice a1 xs.length c1) (ic xs) := O1.base_le (by simp)
  have HO := hide O2
  have HB := hide B2
  clear O1 O2 B1 B2 K0 K1
  go_wp2
  refine bodyPost_ret (v := .agg #[.int .i64 k, .int .i64 l, .slice a1 xs.length c1]) (by simp [results, go_sem, q0, q1, q2]) rfl ⟨_, rfl, ?_, ?_⟩
  · exact ((((((HO.out.setCell_other (by omega) _).setCell_other (by omega) _).setCell_other (by omega) _).setCell_other (by omega) _)).base_le (by omega))
  · exact ((((HB.out.setCell (by simp; omega) _).setCell (by simp) _).setCell (by simp) _).setCell (by simp) _)
end Go.Proofs.YtljooldjcefkoaaGreat
/- Marks: laws.markText by its contract; one byte as a string. -/
namespace Go.Proofs.YtljooldjcefkoaaGreat.Kit
open Go.RowKit
/-- The figures of a number, with fuel; none for 0. -/
def decF : Nat → Nat → List UInt8
  | 0, _ => []
  | f + 1, n => if n = 0 then [] else decF f (n / 10) ++ [figB (n % 10)]
theorem decF_zero (f : Nat) : decF f 0 = [] := by cases f <;> simp [decF]
theorem decF_pos (f n : Nat) (h : n ≠ 0) : decF (f + 1) n = decF f (n / 10) ++ [figB (n % 10)] := by simp [decF, h]
theorem dec_step {n f m : Nat} {acc : List UInt8} (h : decF 20 n = decF (f + 1) m ++ acc) (hm : m ≠ 0) : decF 20 n = decF f (m / 10) ++ (figB (m % 10) :: acc) := by
  rw [h, decF_pos f m hm]; simp
/-- One byte as a string. -/
def oneB (b : UInt8) : ByteArray := ⟨#[b]⟩
theorem oneB_size (b : UInt8) : (oneB b).size = 1 := rfl
/-- Figures as a string. -/
def accB (l : List UInt8) : ByteArray := ⟨l.toArray⟩
theorem accB_cons (b : UInt8) (l : List UInt8) : oneB b ++ accB l = accB (b :: l) := by
  unfold oneB accB
  rw [show (⟨#[b]⟩ : ByteArray) = ⟨[b].toArray⟩ from rfl, ByteArray.mk_append_mk]
  simp
theorem accB_size (l : List UInt8) : (accB l).size = l.length := by simp [accB, ByteArray.size]
/-- The mark of a number. -/
def mkT (k : Nat) : ByteArray := accB (109 :: decF 20 k)
end Go.Proofs.YtljooldjcefkoaaGreat.Kit
namespace Go.Proofs.YtljooldjcefkoaaGreat
open Go.RowKit Kit
theorem conv_one (b : UInt8) (W : World) : (convert 148 9 (.slice (some ⟨W.heap.size, 0, none⟩) 1 1)).run Tryz.prog (W.alloc (.cells #[.int .u8 (b.toNat : Int)] 5)) = .ok (.string (oneB b)) (W.alloc (.cells #[.int .u8 (b.toNat : Int)] 5)) :=
  conv_own (P := Tryz.prog) 148 9 5 Tryz.underlying148 Tryz.underlying5 Tryz.underlying9 (base := 0) (l := [b]) (World.ownsRow_lit W #[.int .u8 (b.toNat : Int)] 1 (Nat.zero_le _) (by unfold maxLen; omega) rfl)

end Go.Proofs.YtljooldjcefkoaaGreat
/- laws.eqSlot, eqSlotS, eqBlock, markSlotS, markBlock, heldSlotS and heldBlock by their contracts. -/
namespace Go.Proofs.YtljooldjcefkoaaGreat.Kit
open Go.RowKit
/-- The marks of n slots from k on. -/
def mkS (k n : Nat) : List Sl := (List.range n).map fun j => (mkT (k + j * 2), ((k + j * 2 + 1 : Nat) : Int))
theorem mkS_length (k n : Nat) : (mkS k n).length = n := by simp [mkS]
theorem mkS_at (k n j : Nat) (h : j < (mkS k n).length) : (mkS k n)[j] = (mkT (k + j * 2), ((k + j * 2 + 1 : Nat) : Int)) := by simp [mkS]
/-- The first j slots are markedK already. -/
def markedK (k j : Nat) (l : List Sl) : List Sl := mkS k j ++ l.drop j
theorem marked_lengthK (k j : Nat) (l : List Sl) (h : j ≤ l.length) : (markedK k j l).length = l.length := by simp [markedK, mkS_length]; omega
theorem marked_zeroK (k : Nat) (l : List Sl) : markedK k 0 l = l := by simp [markedK, mkS]
theorem marked_allK (k : Nat) (l : List Sl) : markedK k l.length l = mkS k l.length := by simp [markedK]
theorem marked_setK (k j : Nat) (l : List Sl) (h : j < l.length) : (markedK k j l).set j (mkT (k + j * 2), ((k + j * 2 + 1 : Nat) : Int)) = markedK k (j + 1) l := by
  unfold markedK
  rw [List.set_append_right _ _ (by rw [mkS_length]; omega), mkS_length, Nat.sub_self, List.drop_eq_getElem_cons h, List.set_cons_zero]
  simp [mkS, List.range_succ]
end Go.Proofs.YtljooldjcefkoaaGreat.Kit
namespace Go.Proofs.YtljooldjcefkoaaGreat
open Go.RowKit Kit
theorem eqOne_same (t : ByteArray) (z : Int) (w : World) :
    Calls Tryz.prog 105 #[.agg #[.string t, .int .i64 z], .agg #[.string t, .int .i64 z]] w fun e w' => e = .returned (.bool true) ∧ Below w.heap.size w w' := by
  go_enter Tryz.func105, Tryz.ntmps105
  go_wp2
  go_ret
  exact ⟨rfl, by go_grown⟩
set_option maxRecDepth 100000 in
set_option maxHeartbeats 1600000 in
theorem eqS_same (va vb : Value) (l : List Sl) (w : World) (ha : RSl w va l) (hb : RSl w vb l) (hl : l.length ≤ 1048576) :
    Calls Tryz.prog 94 #[va, vb] w fun e w' => e = .returned (.bool true) ∧ Below w.heap.size w w' := by
  obtain ⟨a1, c1, rfl, -, ha⟩ := ha
  obtain ⟨a2, c2, rfl, -, hb⟩ := hb
  have HA := hide ha
  have HB := hide hb
  clear ha hb
  go_enter Tryz.func94, Tryz.ntmps94
  go_wp2
  go_loopw [5] (fun i wr => ∃ j : Nat, j ≤ l.length ∧ i = .int .i64 j ∧ Below w.heap.size w wr) (fun i _ => l.length - (intOf i).toNat)
  case atStart => exact ⟨0, Nat.zero_le _, rfl, Below.refl _ _⟩
  case round =>
    obtain ⟨j, hj, rfl, hb⟩ := hrel
    by_cases hlt : j < l.length
    · obtain ⟨g1, o1, rfl, hg1, m1, m2⟩ := HA.out j hlt
      obtain ⟨g2, o2, rfl, hg2, m3, m4⟩ := HB.out j hlt
      have HS : Hid (∀ w', Below w.heap.size w w' → w'.cell? ⟨g1, o1 + j * 2, none⟩ = some (.string l[j].1) ∧ w'.cell? ⟨g1, o1 + j * 2 + 1, none⟩ = some (.int .i64 l[j].2) ∧ w'.cell? ⟨g2, o2 + j * 2, none⟩ = some (.string l[j].1) ∧ w'.cell? ⟨g2, o2 + j * 2 + 1, none⟩ = some (.int .i64 l[j].2)) := fun w' hb =>
        ⟨(hb.cell (p := ⟨g1, o1 + j * 2, none⟩) hg1).trans m1, (hb.cell (p := ⟨g1, o1 + j * 2 + 1, none⟩) hg1).trans m2, (hb.cell (p := ⟨g2, o2 + j * 2, none⟩) hg2).trans m3, (hb.cell (p := ⟨g2, o2 + j * 2 + 1, none⟩) hg2).trans m4⟩
      obtain ⟨t, ht⟩ : ∃ t, l[j].1 = t := ⟨_, rfl⟩
      obtain ⟨z, hz⟩ : ∃ z, l[j].2 = z := ⟨_, rfl⟩
      rw [ht, hz] at HS
      clear ht hz m1 m2 m3 m4
      obtain ⟨r1, r2, r3, r4⟩ := HS.out _ hb
      have j0 : (0 : Int) ≤ (j : Int) := by omega
      have j1 : (j : Int) < (l.length : Int) := by omega
      have hsz := hb.size
      have HBB := hide hb
      clear hb
      go_wp2_with fail
      go_region_held3 (fun w' => w'.cell? ⟨g1, o1 + j * 2, none⟩ = some (.string t) ∧ w'.cell? ⟨g1, o1 + j * 2 + 1, none⟩ = some (.int .i64 z) ∧ w'.cell? ⟨g2, o2 + j * 2, none⟩ = some (.string t) ∧ w'.cell? ⟨g2, o2 + j * 2 + 1, none⟩ = some (.int .i64 z)) (first | exact HS.out _ HBB.out.drew | exact HS.out _ (HBB.out.trans ((of_drew B6).mono hsz))) ((go_at_call 105; refine (eqOne_same _ _ _).mono ?_; rintro e w6 ⟨rfl, B6⟩))
      have HB2 := hide (HBB.out.trans ((of_drew B6).mono hsz))
      clear B6
      go_wp2
      go_roundw
      case rel => exact ⟨j + 1, by omega, by go_num, HB2.out⟩
      case measure => simp [intOf]; omega
    · have HBB := hide hb
      clear hb
      go_wp2
      go_ret
      exact ⟨rfl, HBB.out⟩
theorem eqB_sameK (d : Bool) (va vb : Value) (t : ByteArray) (l : List Sl) (w : World) (ha : RSl w va l) (hb : RSl w vb l) (hl : l.length ≤ 1048576) :
    Calls Tryz.prog 77 #[.agg #[.bool d, va, .string t], .agg #[.bool d, vb, .string t]] w fun e w' => e = .returned (.bool true) ∧ Below w.heap.size w w' := by
  have HA := hide ha
  have HB := hide hb
  obtain ⟨a1, c1, rfl⟩ := ha.form
  obtain ⟨a2, c2, rfl⟩ := hb.form
  clear ha hb
  go_enter Tryz.func77, Tryz.ntmps77
  go_wp2_with fail
  refine (eqS_same _ _ l _ ((HA.out.alloc _).alloc _) ((HB.out.alloc _).alloc _) hl).mono ?_
  rintro e w1 ⟨rfl, B1⟩
  obtain ⟨r0, r1, r2, r3⟩ := (((AtC.new w 73 #[.bool d, .slice a1 l.length c1, .string t]).alloc (.cells #[.bool d, .slice a2 l.length c2, .string t] 73)).over B1).three
  obtain ⟨s0, s1, s2, s3⟩ := ((AtC.new (w.alloc (.cells #[.bool d, .slice a1 l.length c1, .string t] 73)) 73 #[.bool d, .slice a2 l.length c2, .string t]).over B1).three
  simp only [World.size_alloc] at s0 s1 s2 s3
  have HB1 := hide B1
  clear B1
  go_wp2
  go_ret
  exact ⟨rfl, ((((Below.refl _ w).alloc (Nat.le_refl _) _).alloc (by simp) _).trans (HB1.out.mono (by simp; omega)))⟩
end Go.Proofs.YtljooldjcefkoaaGreat
/- laws.szSlot, szSlotS, szBlock, toSlot, toSlotS and toBlock by their contracts. -/
namespace Go.Proofs.YtljooldjcefkoaaGreat.Kit
open Go.RowKit
/-- A slot without anything. -/
def no1 : Sl := (⟨#[]⟩, 0)
/-- The first j slots are copiedK, the others are without anything yet. -/
def copiedK (j : Nat) (xs : List Sl) : List Sl := xs.take j ++ List.replicate (xs.length - j) no1
theorem copied_lengthK (j : Nat) (xs : List Sl) (h : j ≤ xs.length) : (copiedK j xs).length = xs.length := by simp [copiedK]; omega
theorem copied_zeroK (xs : List Sl) : copiedK 0 xs = List.replicate xs.length no1 := by simp [copiedK]
theorem copied_allK (xs : List Sl) : copiedK xs.length xs = xs := by simp [copiedK]
theorem copied_setK (j : Nat) (xs : List Sl) (h : j < xs.length) : (copiedK j xs).set j xs[j] = copiedK (j + 1) xs := by
  unfold copiedK
  rw [List.set_append_right _ _ (by simp; omega), List.take_succ_eq_append_getElem h, List.length_take, Nat.min_eq_left (by omega), Nat.sub_self, show xs.length - j = (xs.length - (j + 1)) + 1 by omega, List.replicate_succ, List.set_cons_zero, List.append_assoc]
  rfl
theorem made_two (n : Nat) : (madeCells #[.string ⟨#[]⟩, .int .i64 0] (n * 2)).toList = sc (List.replicate n no1) := by
  apply List.ext_getElem?
  intro j
  by_cases hj : j < n * 2
  · have e : (madeCells #[.string ⟨#[]⟩, .int .i64 0] (n * 2)).toList[j]? = some (#[Value.string ⟨#[]⟩, .int .i64 0][j % 2]!) := by simp [madeCells, hj]
    rw [e]
    rcases Nat.mod_two_eq_zero_or_one j with h | h
    · obtain ⟨q, rfl⟩ : ∃ q, j = q * 2 := ⟨j / 2, by omega⟩
      rw [sc_name _ q (by simp; omega), h]
      simp [no1]
    · obtain ⟨q, rfl⟩ : ∃ q, j = q * 2 + 1 := ⟨j / 2, by omega⟩
      rw [sc_ino _ q (by simp; omega), h]
      simp [no1]
  · rw [List.getElem?_eq_none (by simp [madeCells]; omega), List.getElem?_eq_none (by rw [sc_length]; simp; omega)]
end Go.Proofs.YtljooldjcefkoaaGreat.Kit
namespace Go.Proofs.YtljooldjcefkoaaGreat
open Go.RowKit Kit
theorem Tryz.u71 : Tryz.prog.underlying 71 = some (.slice 77) := by kernel_rfl
theorem Tryz.i77 : (Tryz.prog.info? 77).map (fun i => (i.zero, i.size, i.bytes)) = some (some (.agg #[.string ⟨#[]⟩, .int .i64 0]), 2, 24) := by kernel_rfl
theorem make_nK (n : Nat) (h : n ≤ 1048576) (w : World) : (Instr.makeSlice 71 (.int .i64 (n : Int)) (.int .i64 (n : Int))).run Tryz.prog w = .ok (.slice (some ⟨w.heap.size, 0, none⟩) n n) (w.alloc (.cells (madeCells #[.string ⟨#[]⟩, .int .i64 0] (n * 2)) 77)) := by
  obtain ⟨i0, hi, hz0, hz1, hz2⟩ := info_parts Tryz.i77
  rw [run_make w 71 77 i0 _ Tryz.u71 hi hz0 .i64 .i64 n n (by omega) (by omega) (by rw [hz2]; omega) (by omega), hz1]
  rfl
set_option maxHeartbeats 800000 in
theorem szOne_any (t : ByteArray) (z L : Int) (w : World) (h0 : 0 ≤ L) (hL : L ≤ 1048576) (ht : t.size ≤ maxLen) :
    Calls Tryz.prog 96 #[.agg #[.string t, .int .i64 z], .int .i64 L] w fun e w' => ∃ r, e = .returned (.int .i64 r) ∧ (r = -1 ∨ (0 ≤ r ∧ r ≤ L ∧ (t.size : Int) ≤ L)) ∧ Below w.heap.size w w' := by
  have ht' : t.size ≤ 9223372036854775807 := ht
  clear ht
  by_cases h : L - (t.size : Int) < 0
  · go_enter Tryz.func96, Tryz.ntmps96
    go_wp2
    go_ret
    exact ⟨-1, rfl, .inl rfl, by go_grown⟩
  · go_enter Tryz.func96, Tryz.ntmps96
    go_wp2
    go_ret
    exact ⟨L - (t.size : Int), rfl, .inr ⟨by omega, by omega, by omega⟩, by go_grown⟩
set_option maxRecDepth 100000 in
set_option maxHeartbeats 1600000 in
theorem szS_any (v : Value) (xs : List Sl) (w : World) (hv : RSl w v xs) (hlen : xs.length ≤ maxLen) (hbig : ∀ (j : Nat) (h : j < xs.length), xs[j].1.size ≤ maxLen) :
    Calls Tryz.prog 81 #[v, .int .i64 1048576] w fun e w' => ∃ r, e = .returned (.int .i64 r) ∧ (r = -1 ∨ (0 ≤ r ∧ r ≤ 1048576 ∧ xs.length ≤ 1048576 ∧ ∀ (j : Nat) (h : j < xs.length), xs[j].1.size ≤ 1048576)) ∧ Below w.heap.size w w' := by
  obtain ⟨a, c, rfl, -, hc⟩ := hv
  have HC := hide hc
  have HG := hide hbig
  have hl' : xs.length ≤ 9223372036854775807 := hlen
  clear hc hbig hlen
  by_cases hn : 1048576 < xs.length
  · go_enter Tryz.func81, Tryz.ntmps81
    go_wp2
    go_ret
    exact ⟨-1, rfl, .inl rfl, Below.refl _ _⟩
  · have hn2 : decide ((1048576 : Int) - (xs.length : Int) < 0) = false := by simp; omega
    go_enter Tryz.func81, Tryz.ntmps81
    go_wp2
    go_loopw [1, 5] (fun x i wr => ∃ (j : Nat) (L : Int), j ≤ xs.length ∧ i = .int .i64 j ∧ x = .int .i64 L ∧ 0 ≤ L ∧ L ≤ 1048576 ∧ Hid (∀ (k : Nat) (h : k < xs.length), k < j → xs[k].1.size ≤ 1048576) ∧ Below w.heap.size w wr) (fun _ i _ => xs.length - (intOf i).toNat)
    case atStart => exact ⟨0, _, Nat.zero_le _, rfl, rfl, by omega, by omega, fun _ _ h => absurd h (Nat.not_lt_zero _), Below.refl _ _⟩
    case round =>
      obtain ⟨j, L, hj, rfl, rfl, hL0, hL1, HS, hb⟩ := hrel
      by_cases hlt : j < xs.length
      · obtain ⟨g, off, rfl, hg, m1, m2⟩ := HC.out j hlt
        have q1 := (hb.cell (p := ⟨g, off + j * 2, none⟩) hg).trans m1
        have q2 := (hb.cell (p := ⟨g, off + j * 2 + 1, none⟩) hg).trans m2
        have hgt := HG.out j hlt
        obtain ⟨t, ht⟩ : ∃ t, xs[j].1 = t := ⟨_, rfl⟩
        obtain ⟨z, hz⟩ : ∃ z, xs[j].2 = z := ⟨_, rfl⟩
        rw [ht] at q1 hgt
        rw [hz] at q2
        have HT := hide ht
        have HGT := hide hgt
        have HB := hide hb
        have hsz := hb.size
        have j0 : (0 : Int) ≤ (j : Int) := by omega
        have j1 : (j : Int) < (xs.length : Int) := by omega
        clear m1 m2 ht hz hb hgt
        go_wp2_with (go_at_call 96; refine (szOne_any _ _ _ _ hL0 hL1 HGT.out).mono ?_; rintro e w1 ⟨r, rfl, hr, B1⟩; have HB1 := hide (HB.out.trans (B1.mono hsz)); have HRR := hide hr; have hr1 : -1 ≤ r := by { rcases hr with h | h <;> omega }; clear B1 hr)
        · go_ret
          exact ⟨-1, rfl, .inl rfl, HB1.out⟩
        · have hr0 : 0 ≤ r := by omega
          have hrr : r ≤ L ∧ (t.size : Int) ≤ L := by rcases HRR.out with h | h <;> omega
          go_roundw
          case rel =>
            refine ⟨j + 1, r, by omega, by go_num, rfl, hr0, by omega, fun k hk hkj => ?_, HB1.out⟩
            by_cases hkk : k = j
            · subst hkk; rw [HT.out]; omega
            · exact HS.out k hk (by omega)
          case measure => simp [intOf]; omega
      · have HB := hide hb
        clear hb
        go_wp2
        go_ret
        exact ⟨L, rfl, .inr ⟨hL0, hL1, by omega, fun k hk => HS.out k hk (by omega)⟩, HB.out⟩
set_option maxHeartbeats 800000 in
theorem szB_any (d : Bool) (v : Value) (t : ByteArray) (xs : List Sl) (w : World) (hv : RSl w v xs) (hlen : xs.length ≤ maxLen) (hbig : ∀ (j : Nat) (h : j < xs.length), xs[j].1.size ≤ maxLen) (ht : t.size ≤ maxLen) :
    Calls Tryz.prog 46 #[.agg #[.bool d, v, .string t], .int .i64 1048576] w fun e w' => ∃ r, e = .returned (.int .i64 r) ∧ (r = -1 ∨ (0 ≤ r ∧ xs.length ≤ 1048576 ∧ (∀ (j : Nat) (h : j < xs.length), xs[j].1.size ≤ 1048576) ∧ t.size ≤ 1048576)) ∧ Below w.heap.size w w' := by
  have HV := hide hv
  have HL := hide hlen
  have HG := hide hbig
  obtain ⟨a, c, rfl, -⟩ := hv
  have ht' : t.size ≤ 9223372036854775807 := ht
  clear ht hlen hbig
  go_enter Tryz.func46, Tryz.ntmps46
  go_wp2_with fail
  refine (szS_any _ xs _ (HV.out.alloc _) HL.out HG.out).mono ?_
  rintro e w1 ⟨r, rfl, hr, B1⟩
  obtain ⟨r0, r1, r2, r3⟩ := ((AtC.new w 67 #[.bool d, .slice a xs.length c, .string t]).over B1).three
  have HB := hide (((Below.refl _ w).alloc (Nat.le_refl _) (.cells #[.bool d, .slice a xs.length c, .string t] 67)).trans (B1.mono (by simp)))
  have HR := hide hr
  have hr1 : -1 ≤ r := by rcases hr with h | h <;> omega
  have hr2 : r ≤ 1048576 := by rcases hr with h | h <;> omega
  clear hr B1
  by_cases hneg : r < 0
  · go_wp2
    go_ret
    exact ⟨-1, rfl, .inl rfl, HB.out⟩
  · by_cases h : r - (t.size : Int) < 0
    · go_wp2
      go_ret
      exact ⟨-1, rfl, .inl rfl, HB.out⟩
    · go_wp2
      go_ret
      have := HR.out.resolve_left (by omega)
      exact ⟨r - (t.size : Int), rfl, .inr ⟨by omega, this.2.2.1, this.2.2.2, by omega⟩, HB.out⟩
set_option maxHeartbeats 800000 in
theorem toOne_any (t : ByteArray) (z : Int) (w : World) :
    Calls Tryz.prog 97 #[.agg #[.string t, .int .i64 z]] w fun e w' => e = .returned (.agg #[.string t, .int .i64 z]) ∧ Below w.heap.size w w' := by
  go_enter Tryz.func97, Tryz.ntmps97
  go_wp2
  refine bodyPost_ret (v := .agg #[.string t, .int .i64 z]) (by simp [results, go_sem]) rfl ⟨rfl, by go_grown⟩
set_option maxRecDepth 100000 in
set_option maxHeartbeats 1600000 in
theorem toS_any (v : Value) (xs : List Sl) (w : World) (hv : RSl w v xs) (hl : xs.length ≤ 1048576) :
    Calls Tryz.prog 84 #[v] w fun e w' => ∃ u, e = .returned u ∧ SOwns w' w.heap.size 77 u xs ∧ Below w.heap.size w w' := by
  obtain ⟨a, c, rfl, -, hc⟩ := hv
  have HC := hide hc
  clear hc
  have mk := make_nK xs.length hl
  go_enter Tryz.func84, Tryz.ntmps84
  go_wp2
  go_loopw [4] (fun i wr => ∃ j : Nat, j ≤ xs.length ∧ i = .int .i64 j ∧ SOwns wr w.heap.size 77 (.slice (some ⟨w.heap.size, 0, none⟩) xs.length xs.length) (copiedK j xs) ∧ Below w.heap.size w wr) (fun i _ => xs.length - (intOf i).toNat)
  case atStart =>
    refine ⟨0, Nat.zero_le _, rfl, ?_, (Below.refl _ w).alloc (Nat.le_refl _) _⟩
    have := SOwns.lit w w.heap.size 77 (madeCells #[.string ⟨#[]⟩, .int .i64 0] (xs.length * 2)) (copiedK 0 xs) (by rw [made_two, copied_zeroK]) (Nat.le_refl _) (by rw [copied_lengthK _ _ (Nat.zero_le _)]; unfold maxLen; omega)
    rwa [copied_lengthK _ _ (Nat.zero_le _)] at this
  case round =>
    obtain ⟨j, hj, rfl, hown, hb⟩ := hrel
    by_cases hlt : j < xs.length
    · obtain ⟨g, off, rfl, hg, m1, m2⟩ := HC.out j hlt
      have q1 := (hb.cell (p := ⟨g, off + j * 2, none⟩) hg).trans m1
      have q2 := (hb.cell (p := ⟨g, off + j * 2 + 1, none⟩) hg).trans m2
      have HML := hide (copied_lengthK j xs hj)
      have CS := hide (copied_setK j xs hlt)
      obtain ⟨t, ht⟩ : ∃ t, xs[j].1 = t := ⟨_, rfl⟩
      obtain ⟨z, hz⟩ : ∃ z, xs[j].2 = z := ⟨_, rfl⟩
      have e1 : xs[j] = (t, z) := by rw [← ht, ← hz]
      rw [e1] at CS
      rw [ht] at q1
      rw [hz] at q2
      have HOWN := hide hown
      have HB := hide hb
      have hsz := hb.size
      have hgw : ¬ g = w.heap.size := by omega
      have j0 : (0 : Int) ≤ (j : Int) := by omega
      have j1 : (j : Int) < (xs.length : Int) := by omega
      clear hown hb m1 m2 ht hz e1 mk
      go_wp2_with (go_at_call 97; refine (toOne_any _ _ _).mono ?_; rintro e w1 ⟨rfl, B1⟩; have O0 : SOwns w1 w.heap.size 77 (.slice (some ⟨w.heap.size, 0, none⟩) (copiedK j xs).length xs.length) (copiedK j xs) := by { rw [HML.out]; exact HOWN.out.below B1 (Nat.le_refl _) }; obtain ⟨g3, c3, e3, k1, k2, k3, k4, k5, -⟩ := O0.at j (by rw [HML.out]; exact hlt); simp only [Value.slice.injEq, Option.some.injEq, Addr.mk.injEq] at e3; obtain ⟨⟨rfl, -, -⟩, -, rfl⟩ := e3; have O2 := O0.set_both j (by rw [HML.out]; exact hlt) t z; rw [HML.out, CS.out] at O2; have HO := hide (And.intro O2.1 (((HB.out.trans (B1.mono hsz)).setCell (p := ⟨w.heap.size, j * 2, none⟩) (Nat.le_refl _) (.string t)).setCell (p := ⟨w.heap.size, j * 2 + 1, none⟩) (Nat.le_refl _) (.int .i64 z))); clear O0 O2 B1)
      go_roundw
      case rel => exact ⟨j + 1, by omega, by go_num, HO.out.1, HO.out.2⟩
      case measure => simp [intOf]; omega
    · have hjl : j = xs.length := by omega
      have HR := hide (And.intro hown hb)
      have HJ := hide hjl
      clear hown hb hjl mk
      go_wp2
      go_ret
      exact ⟨_, rfl, by have := HR.out.1; rwa [HJ.out, copied_allK] at this, HR.out.2⟩
set_option maxHeartbeats 1600000 in
theorem toB_anyK (d : Bool) (v : Value) (t : ByteArray) (xs : List Sl) (w : World) (hv : RSl w v xs) (hl : xs.length ≤ 1048576) :
    Calls Tryz.prog 55 #[.agg #[.bool d, v, .string t]] w fun e w' => ∃ u, e = .returned (.agg #[.bool d, u, .string t]) ∧ SOwns w' w.heap.size 77 u xs ∧ Below w.heap.size w w' := by
  have HV := hide hv
  obtain ⟨a, c, rfl, -⟩ := hv
  go_enter Tryz.func55, Tryz.ntmps55
  go_wp2_with fail
  refine (toS_any _ xs _ (((HV.out.alloc _).alloc _).alloc _) hl).mono ?_
  rintro e w1 ⟨u, rfl, O1, B1⟩
  obtain ⟨a1, c1, rfl⟩ := O1.rsl.form
  have K0 : AtC w1 (w.heap.size + 1) 73 #[.bool false, .slice none 0 0, .string ⟨#[]⟩] := by
    have := ((AtC.new (w.alloc (Obj.cells #[.bool d, .slice a xs.length c, .string t] 67)) 73 #[.bool false, .slice none 0 0, .string ⟨#[]⟩]).alloc (Obj.cells #[.bool d, .slice none 0 0, .string ⟨#[]⟩] 73)).over B1
    simpa using this
  have K1 : AtC w1 (w.heap.size + 1 + 1) 73 #[.bool d, .slice none 0 0, .string ⟨#[]⟩] := by
    have := (AtC.new ((w.alloc (Obj.cells #[.bool d, .slice a xs.length c, .string t] 67)).alloc (Obj.cells #[.bool false, .slice none 0 0, .string ⟨#[]⟩] 73)) 73 #[.bool d, .slice none 0 0, .string ⟨#[]⟩]).over B1
    simpa using this
  have K2 : AtC w1 w.heap.size 67 #[.bool d, .slice a xs.length c, .string t] := (((AtC.new w 67 #[.bool d, .slice a xs.length c, .string t]).alloc _).alloc _).over B1
  obtain ⟨q0, q1, q2, m0⟩ := K0.three
  obtain ⟨z0, z1, z2⟩ := K0.frz
  obtain ⟨d0, d1, d2, m1⟩ := K1.three
  obtain ⟨f0, f1, f2⟩ := K1.frz
  obtain ⟨g0, g1, g2, m2⟩ := K2.three
  have B2 : Below w.heap.size w w1 := ((((Below.refl _ w).alloc (Nat.le_refl _) _).alloc (by simp) _).alloc (by simp; omega) _).trans (B1.mono (by simp; omega))
  have O2 : SOwns w1 (w.heap.size + 1 + 1 + 1) 77 (.slice a1 xs.length c1) xs := O1.base_le (by simp)
  have HO := hide O2
  have HB := hide B2
  clear O1 O2 B1 B2 K0 K1 K2
  go_wp2
  refine bodyPost_ret (v := .agg #[.bool d, .slice a1 xs.length c1, .string t]) (by simp [results, go_sem, q0, q1, q2]) rfl ⟨_, rfl, ?_, ?_⟩
  · exact (((((HO.out.setCell_low (by omega) _).setCell_low (by omega) _).setCell_low (by omega) _).setCell_low (by omega) _).setCell_low (by omega) _).base_le (by omega)
  · exact (((((HB.out.setCell (by simp; omega) _).setCell (by simp; omega) _).setCell (by simp) _).setCell (by simp) _).setCell (by simp) _)
end Go.Proofs.YtljooldjcefkoaaGreat
/- laws.szDisk and what it calls, by their contracts, whatever is left. -/
namespace Go.Proofs.YtljooldjcefkoaaGreat.Kit
open Go.RowKit
theorem R3.ino {w : World} {v : Value} {xs : List Ino} (h : R3 KI w v xs) : ∃ a cap, v = .slice a xs.length cap ∧ xs.length ≤ cap ∧ ∀ (j : Nat) (h : j < xs.length), ∃ g off p, a = some ⟨g, off, none⟩ ∧ g < w.heap.size ∧ w.cell? ⟨g, off + j * 3, none⟩ = some (.int .i64 xs[j].1) ∧ w.cell? ⟨g, off + j * 3 + 1, none⟩ = some (.int .i64 xs[j].2.1) ∧ w.cell? ⟨g, off + j * 3 + 2, none⟩ = some p ∧ RInts w p xs[j].2.2 := by
  obtain ⟨a, cap, e, hc, h⟩ := h
  refine ⟨a, cap, e, hc, fun j hj => ?_⟩
  obtain ⟨g, off, t, e1, hg, c0, c1, c2, r0, r1, r2⟩ := h j hj
  exact ⟨g, off, t.2.2, e1, hg, by rw [c0, r0], by rw [c1, r1], c2, r2⟩
theorem R3.blk {w : World} {v : Value} {xs : List Blk} (h : R3 KB w v xs) : ∃ a cap, v = .slice a xs.length cap ∧ xs.length ≤ cap ∧ ∀ (j : Nat) (h : j < xs.length), ∃ g off p, a = some ⟨g, off, none⟩ ∧ g < w.heap.size ∧ w.cell? ⟨g, off + j * 3, none⟩ = some (.bool xs[j].1) ∧ w.cell? ⟨g, off + j * 3 + 1, none⟩ = some p ∧ w.cell? ⟨g, off + j * 3 + 2, none⟩ = some (.string xs[j].2.2) ∧ RSl w p xs[j].2.1 := by
  obtain ⟨a, cap, e, hc, h⟩ := h
  refine ⟨a, cap, e, hc, fun j hj => ?_⟩
  obtain ⟨g, off, t, e1, hg, c0, c1, c2, r0, r1, r2⟩ := h j hj
  exact ⟨g, off, t.2.1, e1, hg, by rw [c0, r0], c1, by rw [c2, r2], r1⟩
/-- A block whose texts are not longer than n. -/
def bigB (n : Nat) (b : Blk) : Prop := b.2.1.length ≤ n ∧ (∀ (j : Nat) (h : j < b.2.1.length), b.2.1[j].1.size ≤ n) ∧ b.2.2.size ≤ n
/-- Lists and texts of a disk are not longer than n. -/
structure Big (n : Nat) (xs ys : List Bool) (is : List Ino) (bs : List Blk) : Prop where
  x : xs.length ≤ n
  y : ys.length ≤ n
  i : is.length ≤ n
  p : ∀ (j : Nat) (h : j < is.length), is[j].2.2.length ≤ n
  b : bs.length ≤ n
  s : ∀ (j : Nat) (h : j < bs.length), bigB n bs[j]
end Go.Proofs.YtljooldjcefkoaaGreat.Kit
namespace Go.Proofs.YtljooldjcefkoaaGreat
open Go.RowKit Kit

set_option maxHeartbeats 800000 in
theorem szBits_L (a1 a2 : Option Addr) (n m c1 c2 : Nat) (L : Int) (w : World) (h0 : 0 ≤ L) (hL : L ≤ 1048576) (h1 : n ≤ maxLen) (h2 : m ≤ maxLen) :
    Calls Tryz.prog 12 #[.agg #[.slice a1 n c1, .slice a2 m c2], .int .i64 L] w fun e w' => ∃ r, e = .returned (.int .i64 r) ∧ (r = -1 ∨ (0 ≤ r ∧ r ≤ L ∧ n ≤ 1048576 ∧ m ≤ 1048576)) ∧ Below w.heap.size w w' := by
  have h3 : n ≤ 9223372036854775807 := h1
  have h4 : m ≤ 9223372036854775807 := h2
  clear h1 h2
  by_cases hn : L - (n : Int) < 0
  · go_enter Tryz.func12, Tryz.ntmps12
    go_wp2
    go_ret
    exact ⟨_, rfl, .inl rfl, by go_grown⟩
  · by_cases hm : L - (n : Int) - (m : Int) < 0
    · go_enter Tryz.func12, Tryz.ntmps12
      go_wp2
      go_ret
      exact ⟨_, rfl, .inl rfl, by go_grown⟩
    · go_enter Tryz.func12, Tryz.ntmps12
      go_wp2
      go_ret
      exact ⟨_, rfl, .inr ⟨by omega, by omega, by omega, by omega⟩, by go_grown⟩
set_option maxHeartbeats 800000 in
theorem szIno_L (k l : Int) (a : Option Addr) (n c : Nat) (L : Int) (w : World) (h0 : 0 ≤ L) (hL : L ≤ 1048576) (h1 : n ≤ maxLen) :
    Calls Tryz.prog 45 #[.agg #[.int .i64 k, .int .i64 l, .slice a n c], .int .i64 L] w fun e w' => ∃ r, e = .returned (.int .i64 r) ∧ (r = -1 ∨ (0 ≤ r ∧ r ≤ L ∧ n ≤ 1048576)) ∧ Below w.heap.size w w' := by
  have h3 : n ≤ 9223372036854775807 := h1
  clear h1
  by_cases hn : L - (n : Int) < 0
  · go_enter Tryz.func45, Tryz.ntmps45
    go_wp2
    go_ret
    exact ⟨_, rfl, .inl rfl, by go_grown⟩
  · go_enter Tryz.func45, Tryz.ntmps45
    go_wp2
    go_ret
    exact ⟨_, rfl, .inr ⟨by omega, by omega, by omega⟩, by go_grown⟩
set_option maxRecDepth 100000 in
set_option maxHeartbeats 1600000 in
theorem szInoS_L (v : Value) (xs : List Ino) (L0 : Int) (w : World) (hv : R3 KI w v xs) (h0 : 0 ≤ L0) (h1 : L0 ≤ 1048576) (hlen : xs.length ≤ maxLen) (hbig : ∀ (j : Nat) (h : j < xs.length), xs[j].2.2.length ≤ maxLen) :
    Calls Tryz.prog 13 #[v, .int .i64 L0] w fun e w' => ∃ r, e = .returned (.int .i64 r) ∧ (r = -1 ∨ (0 ≤ r ∧ r ≤ L0 ∧ xs.length ≤ 1048576 ∧ ∀ (j : Nat) (h : j < xs.length), xs[j].2.2.length ≤ 1048576)) ∧ Below w.heap.size w w' := by
  obtain ⟨a, c, rfl, -, hc⟩ := hv.ino
  have HC := hide hc
  have HG := hide hbig
  have hl' : xs.length ≤ 9223372036854775807 := hlen
  clear hc hbig hlen hv
  by_cases hn : L0 - (xs.length : Int) < 0
  · go_enter Tryz.func13, Tryz.ntmps13
    go_wp2
    go_ret
    exact ⟨-1, rfl, .inl rfl, Below.refl _ _⟩
  · have hn2 : decide (L0 - (xs.length : Int) < 0) = false := by simp; omega
    go_enter Tryz.func13, Tryz.ntmps13
    go_wp2
    go_loopw [1, 5] (fun x i wr => ∃ (j : Nat) (L : Int), j ≤ xs.length ∧ i = .int .i64 j ∧ x = .int .i64 L ∧ 0 ≤ L ∧ L ≤ L0 ∧ Hid (∀ (k : Nat) (h : k < xs.length), k < j → xs[k].2.2.length ≤ 1048576) ∧ Below w.heap.size w wr) (fun _ i _ => xs.length - (intOf i).toNat)
    case atStart => exact ⟨0, _, Nat.zero_le _, rfl, rfl, by omega, by omega, fun _ _ h => absurd h (Nat.not_lt_zero _), Below.refl _ _⟩
    case round =>
      obtain ⟨j, L, hj, rfl, rfl, hL0, hL1, HS, hb⟩ := hrel
      by_cases hlt : j < xs.length
      · obtain ⟨g, off, p, rfl, hg, m1, m2, m3, hp⟩ := HC.out j hlt
        obtain ⟨pa, pc, rfl⟩ := hp.form
        have q1 := (hb.cell (p := ⟨g, off + j * 3, none⟩) hg).trans m1
        have q2 := (hb.cell (p := ⟨g, off + j * 3 + 1, none⟩) hg).trans m2
        have q3 := (hb.cell (p := ⟨g, off + j * 3 + 2, none⟩) hg).trans m3
        have hgt := HG.out j hlt
        obtain ⟨n, hn⟩ : ∃ n, xs[j].2.2.length = n := ⟨_, rfl⟩
        obtain ⟨y, hy⟩ : ∃ y, xs[j].1 = y := ⟨_, rfl⟩
        obtain ⟨z, hz⟩ : ∃ z, xs[j].2.1 = z := ⟨_, rfl⟩
        rw [hn] at q3 hgt
        rw [hy] at q1
        rw [hz] at q2
        have HT := hide hn
        have HGT := hide hgt
        have HB := hide hb
        have hsz := hb.size
        have j0 : (0 : Int) ≤ (j : Int) := by omega
        have j1 : (j : Int) < (xs.length : Int) := by omega
        clear m1 m2 m3 hy hz hb hgt hp hn
        go_wp2_with (go_at_call 45; refine (szIno_L _ _ _ _ _ _ _ hL0 (by omega) HGT.out).mono ?_; rintro e w1 ⟨r, rfl, hr, B1⟩; have HB1 := hide (HB.out.trans (B1.mono hsz)); have HRR := hide hr; have hr1 : -1 ≤ r := by { rcases hr with h | h <;> omega }; clear B1 hr)
        · go_ret
          exact ⟨-1, rfl, .inl rfl, HB1.out⟩
        · have hr0 : 0 ≤ r := by omega
          have hrr : r ≤ L ∧ n ≤ 1048576 := by rcases HRR.out with h | h <;> omega
          go_roundw
          case rel =>
            refine ⟨j + 1, r, by omega, by go_num, rfl, hr0, by omega, fun k hk hkj => ?_, HB1.out⟩
            by_cases hkk : k = j
            · subst hkk; rw [HT.out]; omega
            · exact HS.out k hk (by omega)
          case measure => simp [intOf]; omega
      · have HB := hide hb
        clear hb
        go_wp2
        go_ret
        exact ⟨L, rfl, .inr ⟨hL0, hL1, by omega, fun k hk => HS.out k hk (by omega)⟩, HB.out⟩
set_option maxRecDepth 100000 in
set_option maxHeartbeats 1600000 in
theorem szS_L (v : Value) (xs : List Sl) (L0 : Int) (w : World) (hv : RSl w v xs) (h0 : 0 ≤ L0) (h1 : L0 ≤ 1048576) (hlen : xs.length ≤ maxLen) (hbig : ∀ (j : Nat) (h : j < xs.length), xs[j].1.size ≤ maxLen) :
    Calls Tryz.prog 81 #[v, .int .i64 L0] w fun e w' => ∃ r, e = .returned (.int .i64 r) ∧ (r = -1 ∨ (0 ≤ r ∧ r ≤ L0 ∧ xs.length ≤ 1048576 ∧ ∀ (j : Nat) (h : j < xs.length), xs[j].1.size ≤ 1048576)) ∧ Below w.heap.size w w' := by
  obtain ⟨a, c, rfl, -, hc⟩ := hv
  have HC := hide hc
  have HG := hide hbig
  have hl' : xs.length ≤ 9223372036854775807 := hlen
  clear hc hbig hlen
  by_cases hn : L0 - (xs.length : Int) < 0
  · go_enter Tryz.func81, Tryz.ntmps81
    go_wp2
    go_ret
    exact ⟨-1, rfl, .inl rfl, Below.refl _ _⟩
  · have hn2 : decide (L0 - (xs.length : Int) < 0) = false := by simp; omega
    go_enter Tryz.func81, Tryz.ntmps81
    go_wp2
    go_loopw [1, 5] (fun x i wr => ∃ (j : Nat) (L : Int), j ≤ xs.length ∧ i = .int .i64 j ∧ x = .int .i64 L ∧ 0 ≤ L ∧ L ≤ L0 ∧ Hid (∀ (k : Nat) (h : k < xs.length), k < j → xs[k].1.size ≤ 1048576) ∧ Below w.heap.size w wr) (fun _ i _ => xs.length - (intOf i).toNat)
    case atStart => exact ⟨0, _, Nat.zero_le _, rfl, rfl, by omega, by omega, fun _ _ h => absurd h (Nat.not_lt_zero _), Below.refl _ _⟩
    case round =>
      obtain ⟨j, L, hj, rfl, rfl, hL0, hL1, HS, hb⟩ := hrel
      by_cases hlt : j < xs.length
      · obtain ⟨g, off, rfl, hg, m1, m2⟩ := HC.out j hlt
        have q1 := (hb.cell (p := ⟨g, off + j * 2, none⟩) hg).trans m1
        have q2 := (hb.cell (p := ⟨g, off + j * 2 + 1, none⟩) hg).trans m2
        have hgt := HG.out j hlt
        obtain ⟨t, ht⟩ : ∃ t, xs[j].1 = t := ⟨_, rfl⟩
        obtain ⟨z, hz⟩ : ∃ z, xs[j].2 = z := ⟨_, rfl⟩
        rw [ht] at q1 hgt
        rw [hz] at q2
        have HT := hide ht
        have HGT := hide hgt
        have HB := hide hb
        have hsz := hb.size
        have j0 : (0 : Int) ≤ (j : Int) := by omega
        have j1 : (j : Int) < (xs.length : Int) := by omega
        clear m1 m2 ht hz hb hgt
        go_wp2_with (go_at_call 96; refine (szOne_any _ _ _ _ hL0 (by omega) HGT.out).mono ?_; rintro e w1 ⟨r, rfl, hr, B1⟩; have HB1 := hide (HB.out.trans (B1.mono hsz)); have HRR := hide hr; have hr1 : -1 ≤ r := by { rcases hr with h | h <;> omega }; clear B1 hr)
        · go_ret
          exact ⟨-1, rfl, .inl rfl, HB1.out⟩
        · have hr0 : 0 ≤ r := by omega
          have hrr : r ≤ L ∧ (t.size : Int) ≤ L := by rcases HRR.out with h | h <;> omega
          go_roundw
          case rel =>
            refine ⟨j + 1, r, by omega, by go_num, rfl, hr0, by omega, fun k hk hkj => ?_, HB1.out⟩
            by_cases hkk : k = j
            · subst hkk; rw [HT.out]; omega
            · exact HS.out k hk (by omega)
          case measure => simp [intOf]; omega
      · have HB := hide hb
        clear hb
        go_wp2
        go_ret
        exact ⟨L, rfl, .inr ⟨hL0, hL1, by omega, fun k hk => HS.out k hk (by omega)⟩, HB.out⟩
set_option maxHeartbeats 800000 in
theorem szBlk_L (d : Bool) (v : Value) (t : ByteArray) (xs : List Sl) (L0 : Int) (w : World) (hv : RSl w v xs) (h0 : 0 ≤ L0) (h1 : L0 ≤ 1048576) (hB : bigB maxLen (d, xs, t)) :
    Calls Tryz.prog 46 #[.agg #[.bool d, v, .string t], .int .i64 L0] w fun e w' => ∃ r, e = .returned (.int .i64 r) ∧ (r = -1 ∨ (0 ≤ r ∧ r ≤ L0 ∧ bigB 1048576 (d, xs, t))) ∧ Below w.heap.size w w' := by
  obtain ⟨hlen, hbig, ht⟩ := hB
  have HV := hide hv
  have HL := hide hlen
  have HG := hide hbig
  obtain ⟨a, c, rfl, -⟩ := hv
  have ht' : t.size ≤ 9223372036854775807 := ht
  clear ht hlen hbig
  go_enter Tryz.func46, Tryz.ntmps46
  go_wp2_with fail
  refine (szS_L _ xs _ _ (HV.out.alloc _) h0 h1 HL.out HG.out).mono ?_
  rintro e w1 ⟨r, rfl, hr, B1⟩
  obtain ⟨r0, r1, r2, r3⟩ := ((AtC.new w 67 #[.bool d, .slice a xs.length c, .string t]).over B1).three
  have HB := hide (((Below.refl _ w).alloc (Nat.le_refl _) (.cells #[.bool d, .slice a xs.length c, .string t] 67)).trans (B1.mono (by simp)))
  have HR := hide hr
  have hr1 : -1 ≤ r := by rcases hr with h | h <;> omega
  have hr2 : r ≤ 1048576 := by rcases hr with h | h <;> omega
  clear hr B1
  by_cases hneg : r < 0
  · go_wp2
    go_ret
    exact ⟨-1, rfl, .inl rfl, HB.out⟩
  · by_cases h : r - (t.size : Int) < 0
    · go_wp2
      go_ret
      exact ⟨-1, rfl, .inl rfl, HB.out⟩
    · go_wp2
      go_ret
      have := HR.out.resolve_left (by omega)
      exact ⟨r - (t.size : Int), rfl, .inr ⟨by omega, by omega, this.2.2.1, this.2.2.2, show t.size ≤ 1048576 by omega⟩, HB.out⟩
set_option maxRecDepth 100000 in
set_option maxHeartbeats 1600000 in
theorem szBlkS_L (v : Value) (xs : List Blk) (L0 : Int) (w : World) (hv : R3 KB w v xs) (h0 : 0 ≤ L0) (h1 : L0 ≤ 1048576) (hlen : xs.length ≤ maxLen) (hbig : ∀ (j : Nat) (h : j < xs.length), bigB maxLen xs[j]) :
    Calls Tryz.prog 14 #[v, .int .i64 L0] w fun e w' => ∃ r, e = .returned (.int .i64 r) ∧ (r = -1 ∨ (0 ≤ r ∧ r ≤ L0 ∧ xs.length ≤ 1048576 ∧ ∀ (j : Nat) (h : j < xs.length), bigB 1048576 xs[j])) ∧ Below w.heap.size w w' := by
  obtain ⟨a, c, rfl, -, hc⟩ := hv.blk
  have HC := hide hc
  have HG := hide hbig
  have hl' : xs.length ≤ 9223372036854775807 := hlen
  clear hc hbig hlen hv
  by_cases hn : L0 - (xs.length : Int) < 0
  · go_enter Tryz.func14, Tryz.ntmps14
    go_wp2
    go_ret
    exact ⟨-1, rfl, .inl rfl, Below.refl _ _⟩
  · have hn2 : decide (L0 - (xs.length : Int) < 0) = false := by simp; omega
    go_enter Tryz.func14, Tryz.ntmps14
    go_wp2
    go_loopw [1, 5] (fun x i wr => ∃ (j : Nat) (L : Int), j ≤ xs.length ∧ i = .int .i64 j ∧ x = .int .i64 L ∧ 0 ≤ L ∧ L ≤ L0 ∧ Hid (∀ (k : Nat) (h : k < xs.length), k < j → bigB 1048576 xs[k]) ∧ Below w.heap.size w wr) (fun _ i _ => xs.length - (intOf i).toNat)
    case atStart => exact ⟨0, _, Nat.zero_le _, rfl, rfl, by omega, by omega, fun _ _ h => absurd h (Nat.not_lt_zero _), Below.refl _ _⟩
    case round =>
      obtain ⟨j, L, hj, rfl, rfl, hL0, hL1, HS, hb⟩ := hrel
      by_cases hlt : j < xs.length
      · obtain ⟨g, off, p, rfl, hg, m1, m2, m3, hp⟩ := HC.out j hlt
        have q1 := (hb.cell (p := ⟨g, off + j * 3, none⟩) hg).trans m1
        have q2 := (hb.cell (p := ⟨g, off + j * 3 + 1, none⟩) hg).trans m2
        have q3 := (hb.cell (p := ⟨g, off + j * 3 + 2, none⟩) hg).trans m3
        have hp2 := hp.below hb (Nat.le_refl _)
        have hgt := HG.out j hlt
        obtain ⟨y, hy⟩ : ∃ y, xs[j].1 = y := ⟨_, rfl⟩
        obtain ⟨s, hs⟩ : ∃ s, xs[j].2.1 = s := ⟨_, rfl⟩
        obtain ⟨z, hz⟩ : ∃ z, xs[j].2.2 = z := ⟨_, rfl⟩
        have hx : xs[j] = (y, s, z) := by rw [← hy, ← hs, ← hz]
        rw [hy] at q1
        rw [hz] at q3
        rw [hs] at hp2
        rw [hx] at hgt
        have HT := hide hx
        have HGT := hide hgt
        have HB := hide hb
        have HP := hide hp2
        have hsz := hb.size
        have j0 : (0 : Int) ≤ (j : Int) := by omega
        have j1 : (j : Int) < (xs.length : Int) := by omega
        clear m1 m2 m3 hy hz hs hb hgt hp hp2 hx
        go_wp2_with (go_at_call 46; refine (szBlk_L _ _ _ s _ _ HP.out hL0 (by omega) HGT.out).mono ?_; rintro e w1 ⟨r, rfl, hr, B1⟩; have HB1 := hide (HB.out.trans (B1.mono hsz)); have HRR := hide hr; have hr1 : -1 ≤ r := by { rcases hr with h | h <;> omega }; clear B1 hr)
        · go_ret
          exact ⟨-1, rfl, .inl rfl, HB1.out⟩
        · have hr0 : 0 ≤ r := by omega
          have hrr := HRR.out.resolve_left (by omega)
          have hrL := hrr.2.1
          have HRB := hide hrr.2.2
          clear hrr
          go_roundw
          case rel =>
            refine ⟨j + 1, r, by omega, by go_num, rfl, hr0, by omega, fun k hk hkj => ?_, HB1.out⟩
            by_cases hkk : k = j
            · subst hkk; rw [HT.out]; exact HRB.out
            · exact HS.out k hk (by omega)
          case measure => simp [intOf]; omega
      · have HB := hide hb
        clear hb
        go_wp2
        go_ret
        exact ⟨L, rfl, .inr ⟨hL0, hL1, by omega, fun k hk => HS.out k hk (by omega)⟩, HB.out⟩
end Go.Proofs.YtljooldjcefkoaaGreat
/- laws.szDisk by its contract. -/
namespace Go.Proofs.YtljooldjcefkoaaGreat
open Go.RowKit Kit
set_option maxRecDepth 100000 in
set_option maxHeartbeats 1600000 in
theorem szDisk_L (u v iv bv : Value) (xs ys : List Bool) (is : List Ino) (bs : List Blk) (L0 : Int) (w : World) (h1 : RFl w u xs) (h2 : RFl w v ys) (h3 : R3 KI w iv is) (h4 : R3 KB w bv bs) (hL : 0 ≤ L0) (hL1 : L0 ≤ 1048576) (hB : Big maxLen xs ys is bs) :
    Calls Tryz.prog 5 #[.agg #[u, v, iv, bv], .int .i64 L0] w fun e w' => ∃ r, e = .returned (.int .i64 r) ∧ (r = -1 ∨ (0 ≤ r ∧ r ≤ L0 ∧ Big 1048576 xs ys is bs)) ∧ Below w.heap.size w w' := by
  obtain ⟨a1, c1, rfl⟩ := h1.form
  obtain ⟨a2, c2, rfl⟩ := h2.form
  obtain ⟨a3, c3, rfl⟩ := h3.form
  obtain ⟨a4, c4, rfl⟩ := h4.form
  have H3 := hide h3
  have H4 := hide h4
  have HBG := hide hB
  clear h1 h2 h3 h4 hB
  go_enter Tryz.func5, Tryz.ntmps5
  go_wp2_with fail
  refine (szBits_L _ _ _ _ _ _ _ _ hL hL1 HBG.out.x HBG.out.y).mono ?_
  rintro e w1 ⟨r, rfl, hr, B1⟩
  have K0 := (AtC.new w 28 #[.slice a1 xs.length c1, .slice a2 ys.length c2, .slice a3 is.length c3, .slice a4 bs.length c4]).over B1
  have r2 := K0.cell 2
  have r3 := K0.cell 3
  have r4 := K0.lt
  have HB1 := hide (((Below.refl _ w).alloc (Nat.le_refl _) (.cells #[.slice a1 xs.length c1, .slice a2 ys.length c2, .slice a3 is.length c3, .slice a4 bs.length c4] 28)).trans (B1.mono (by simp)))
  have HK := hide K0
  have HR := hide hr
  have hr1 : -1 ≤ r := by rcases hr with h | h <;> omega
  have hr2 : r ≤ 1048576 := by rcases hr with h | h <;> omega
  clear hr B1 K0
  by_cases hneg : r < 0
  · go_wp2
    go_ret
    exact ⟨-1, rfl, .inl rfl, HB1.out⟩
  · have hrr := HR.out.resolve_left (by omega)
    have hrL := hrr.2.1
    have HXY := hide hrr.2.2
    clear hrr
    simp only [List.getElem?_toArray, List.getElem?_cons_succ, List.getElem?_cons_zero] at r2 r3
    go_wp2_with fail
    refine (szInoS_L _ is _ _ (H3.out.below HB1.out (Nat.le_refl _)) (by omega) hr2 HBG.out.i HBG.out.p).mono ?_
    rintro e w2 ⟨r', rfl, hr, B2⟩
    have K1 := HK.out.over B2
    have r5 := K1.cell 3
    have r6 := K1.lt
    have HB2 := hide (HB1.out.trans (B2.mono HB1.out.size))
    have HR2 := hide hr
    have hr3 : -1 ≤ r' := by rcases hr with h | h <;> omega
    have hr4 : r' ≤ 1048576 := by rcases hr with h | h <;> omega
    clear hr B2 K1
    by_cases hneg2 : r' < 0
    · go_wp2
      go_ret
      exact ⟨-1, rfl, .inl rfl, HB2.out⟩
    · have hrr := HR2.out.resolve_left (by omega)
      have hrL2 := hrr.2.1
      have HI := hide hrr.2.2
      clear hrr
      simp only [List.getElem?_toArray, List.getElem?_cons_succ, List.getElem?_cons_zero] at r5
      go_wp2_with fail
      refine (szBlkS_L _ bs _ _ (H4.out.below HB2.out (Nat.le_refl _)) (by omega) hr4 HBG.out.b HBG.out.s).mono ?_
      rintro e w3 ⟨r7, rfl, hr, B3⟩
      have HB3 := hide (HB2.out.trans (B3.mono HB2.out.size))
      have HR3 := hide hr
      have hr7 : -1 ≤ r7 := by rcases hr with h | h <;> omega
      have hr8 : r7 ≤ 1048576 := by rcases hr with h | h <;> omega
      clear hr B3
      by_cases hneg3 : r7 < 0
      · go_wp2
        go_ret
        exact ⟨-1, rfl, .inl rfl, HB3.out⟩
      · go_wp2
        go_ret
        have hrr := HR3.out.resolve_left (by omega)
        exact ⟨r7, rfl, .inr ⟨by omega, by omega, ⟨HXY.out.1, HXY.out.2, HI.out.1, HI.out.2, hrr.2.2.1, hrr.2.2.2⟩⟩, HB3.out⟩
end Go.Proofs.YtljooldjcefkoaaGreat
