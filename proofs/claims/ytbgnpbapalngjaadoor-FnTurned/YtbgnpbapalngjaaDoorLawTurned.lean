/- The walk of laws.FnTurned: it returns true at every code. -/
import Derived.Test.YtbgnpbapalngjaaDoorPlaces
import Derived.Test.YtbgnpbapalngjaaDoorLawSeal
namespace Go.Proofs.YtbgnpbapalngjaaDoor
open Go.RowKit Kit
theorem sealB_size (t : ByteArray) : (sealB t).size = t.size + 4 := by rw [← size_list, sealB_list, sealL_length, size_list]
theorem seal4_self (t : ByteArray) : Seal4 (sealB t) t.size t true := by
  have h1 : (sealB t).extract 0 t.size = t := by
    apply Go.WideShapes.bytes_inj
    rw [(seal4_list (sealB t) t.size (sealB_size t)).1, sealB_list, ← size_list, sealL_take]
  obtain ⟨P, b, h⟩ := seal4 (sealB t) t.size (sealB_size t)
  obtain ⟨h2, h3, h4, h5⟩ := h
  obtain rfl : t = P := h1.symm.trans h3
  obtain rfl : b = true := by rw [← h4]; simp
  exact ⟨h2, h3, h4, h5⟩
theorem seal4_turned (t M : ByteArray) (i : Nat) (hi : i < t.size + 4) (c : UInt8) (hc : c ≠ (sealB t)[i]'(by rw [sealB_size]; omega)) (hM : M.data.toList = (sealB t).data.toList.set i c) : ∃ P, Seal4 M t.size P false := by
  have hz : M.size = t.size + 4 := by rw [← size_list, hM, List.length_set, size_list, sealB_size]
  obtain ⟨P, b, h⟩ := seal4 M t.size hz
  cases b with
  | false => exact ⟨P, h⟩
  | true =>
    exfalso
    obtain ⟨h2, h3, h4, h5⟩ := h
    have e1 : sealL P.data.toList = M.data.toList := by
      have := beq_iff_eq.1 h4
      rwa [ByteArray.toList_eq, ByteArray.toList_eq, sealB_list] at this
    have e2 : P.data.toList = M.data.toList.take t.data.toList.length := by
      rw [← h3, (seal4_list M t.size hz).1, size_list]
    rw [e2] at e1
    rw [sealB_list] at hM
    have hl : (sealL t.data.toList).length = t.size + 4 := by rw [sealL_length, size_list]
    have hc2 : c ≠ (sealL t.data.toList)[i]'(by omega) := by
      intro e
      apply hc
      rw [e]
      simp only [← sealB_list]
      rfl
    exact sealL_turned t.data.toList M.data.toList i (by omega) c hc2 hM e1
theorem big_no (a : Option Addr) (len cap : Nat) (w : World) (h : len ≤ 1048576) :
    Calls Tryd.prog 8 #[.slice a len cap] w fun e w' => e = .returned (.bool false) ∧ w = w' := by
  have b0 : decide ((1048576 : Int) < (len : Int)) = false := by simp; omega
  go_enter Tryd.func8, Tryd.ntmps8
  go_wp2
  go_ret
  exact ⟨rfl, rfl⟩
theorem big_yes (a : Option Addr) (len cap : Nat) (w : World) (h : ¬ len ≤ 1048576) :
    Calls Tryd.prog 8 #[.slice a len cap] w fun e w' => e = .returned (.bool true) ∧ w = w' := by
  have b0 : decide ((1048576 : Int) < (len : Int)) = true := by simp; omega
  go_enter Tryd.func8, Tryd.ntmps8
  go_wp2
  go_ret
  exact ⟨rfl, rfl⟩
theorem Places.below {w w' : World} {v : Value} (h : Places w v) (hb : Below w.heap.size w w') : Places w' v := by
  obtain ⟨g, cap, x, y, h1, h2, h3, h4, h5, h6⟩ := h
  exact ⟨g, cap, x, y, h1, by have := hb.size; omega, h3, h4, (hb.cell (p := ⟨g, 0, none⟩) h2).trans h5, (hb.cell (p := ⟨g, 1, none⟩) h2).trans h6⟩
/-- One letter. -/
def xB : ByteArray := ⟨#[120]⟩
/-- '[]byte(t)': a slice of its bytes in a block of its own, that may be written. -/
theorem bytes_new (w : World) (t : ByteArray) : ∃ w' pc, (convert 9 22 (.string t)).run Tryd.prog w = .ok (.slice (some ⟨w.heap.size, 0, none⟩) t.size pc) w' ∧ Below w.heap.size w w' ∧ Lies w' w.heap.size t ∧ (∀ k, k < t.size → w'.frozen? ⟨w.heap.size, k, none⟩ = false) := by
  refine ⟨_, _, run_bytes_of_string (P := Tryd.prog) w 9 22 5 t Tryd.underlying9 Tryd.underlying22 Tryd.underlying5, (Below.refl _ w).drew.alloc (Nat.le_refl _) _, lies_new w.drew t _ _ _, ?_⟩
  · intro k hk
    have hh : (w.drew.alloc (.cells (bytesRow t (grownCap w t.size 0 5)) 5 ((bytesRow t (grownCap w t.size 0 5)).size, (bytesRow t (grownCap w t.size 0 5)).size + 1))).heap[w.heap.size]? = some (.cells (bytesRow t (grownCap w t.size 0 5)) 5 ((bytesRow t (grownCap w t.size 0 5)).size, (bytesRow t (grownCap w t.size 0 5)).size + 1)) := by
      show (w.heap.push _)[w.heap.size]? = _
      simp
    have hk2 : k < (bytesRow t (grownCap w t.size 0 5)).size := by
      simp only [bytesRow, Array.size_append, Array.size_map]
      have : t.data.size = t.size := rfl
      omega
    simp only [World.frozen?, hh]
    simp
    omega
theorem turned_back (w : World) (t : ByteArray) (B n pc i z : Nat) (hl : Lies w B t) (hn : t.size = n) (_hi : i < n) (hz : z < 256) :
    ∃ M : ByteArray, M.data.toList = t.data.toList.set i (UInt8.ofNat z) ∧ (convert 22 9 (.slice (some ⟨B, 0, none⟩) n pc)).run Tryd.prog (w.setCell ⟨B, i, none⟩ (.int .u8 z)).drew = .ok (.string M) (w.setCell ⟨B, i, none⟩ (.int .u8 z)).drew := by
  refine ⟨⟨(t.data.toList.set i (UInt8.ofNat z)).toArray⟩, by simp, ?_⟩
  have h := run_convert_bytes_back (P := Tryd.prog) (w.setCell ⟨B, i, none⟩ (.int .u8 z)).drew 22 9 5 ⟨B, 0, none⟩ pc (t.data.toList.set i (UInt8.ofNat z)) Tryd.underlying22 Tryd.underlying5 Tryd.underlying9 ?_
  · rw [List.length_set, size_list, hn] at h
    exact h
  · intro j hj
    rw [List.length_set, size_list] at hj
    have ha : (⟨B, 0, none⟩ : Addr).add j = ⟨B, j, none⟩ := by cases j <;> simp [Addr.add]
    rw [ha]
    show (w.setCell ⟨B, i, none⟩ (.int .u8 z)).cell? ⟨B, j, none⟩ = _
    by_cases e : i = j
    · subst e
      rw [World.cell?_setCell_same _ _ _ (hl.cell i hj), List.getElem_set_self, UInt8.toNat_ofNat', show z % 2 ^ 8 = z by omega]
    · rw [World.cell?_setCell_other _ _ _ _ (fun h => e (congrArg Addr.off h)), hl.cell j hj, List.getElem_set_ne e]
      rfl
set_option maxRecDepth 100000 in
set_option maxHeartbeats 3200000 in
theorem lawTurned (a : Option Addr) (len cap : Nat) (w : World) (hcode : CodeIs w a len) (ht : Tab w) :
    Calls Tryd.prog 3 #[.slice a len cap] w fun e w' => e = .returned (.bool true) ∧ Below w.heap.size w w' := by
  by_cases hlen : len ≤ 1048576
  · have HO := hide hcode
    have HT := hide ht
    clear hcode ht
    go_enter Tryd.func3, Tryd.ntmps3
    go_wp2_with fail
    refine (big_no a len cap w hlen).mono ?_
    rintro e w' ⟨rfl, rfl⟩
    go_wp2_with fail
    refine (drawSumOf_any w a len cap HO.out hlen).mono ?_
    rintro e w1 ⟨S, hS, rfl, hb1⟩
    have HB1 := hide hb1
    clear hb1
    go_wp2_with fail
    refine (drawPlaces_any w1 a len cap (code_below HO.out HB1.out) hlen).mono ?_
    rintro e w2 ⟨p, rfl, hp, hb2⟩
    have HB2 := hide (HB1.out.trans (hb2.mono HB1.out.size))
    have HP2 := hide hp
    clear hb2 HB1 hp
    have HQ := hide (implSealed_yes S w2 (by omega) (HT.out.below HB2.out rfl))
    have hts := sealB_size S
    have HU := fun w (h : Tab w) => hide (implUnsealed_mid (sealB S) w S.size S true (seal4_self S) (by omega) h)
    obtain ⟨t, hte⟩ : ∃ t, sealB S = t := ⟨_, rfl⟩
    rw [hte] at HQ hts
    simp only [hte, if_true] at HU
    have HE := hide hte
    clear hte
    go_wp2_with fail
    refine HQ.out.mono ?_
    rintro e w3 ⟨rfl, hb3⟩
    have HB3 := hide (HB2.out.trans (hb3.mono HB2.out.size))
    have HP3 := hide (HP2.out.below hb3)
    clear hb3 HB2 HP2
    go_wp2_with fail
    refine (HU w3 (HT.out.below HB3.out rfl)).out.mono ?_
    rintro e w4 ⟨rfl, hb4⟩
    have HB4 := hide (HB3.out.trans (hb4.mono HB3.out.size))
    have HP4 := hide (HP3.out.below hb4)
    clear hb4 HB3 HP3
    have str_eq : (S.toList == S.toList) = true := by simp
    have hsz4 : ((S.size : Int) + 4 == (S.size : Int) + 4) = true := by simp
    obtain ⟨w5, pc, hcv, hb5, hlies, hfz⟩ := bytes_new w4 t
    rw [hts] at hcv
    obtain ⟨g, gc, x, y, rfl, hg, hx, hy, gx, gy⟩ := HP4.out.below hb5
    have HW4 := hide (show w.heap.size ≤ w4.heap.size from HB4.out.size)
    have HB5 := hide (HB4.out.trans (hb5.mono HB4.out.size))
    clear hb5 HB4 HP4
    obtain ⟨i, hi⟩ : ∃ i : Nat, (x : Int) % ((S.size : Int) + 4) = (i : Int) := ⟨x % (S.size + 4), by rw [Int.natCast_emod]; rfl⟩
    have hi0 : (0 : Int) ≤ (i : Int) := by omega
    have hi1 : i < S.size + 4 := by have := Int.emod_lt_of_pos (x : Int) (show (0 : Int) < (S.size : Int) + 4 by omega); omega
    have hi2 : (i : Int) < (S.size : Int) + 4 := by omega
    have hnz : ((S.size : Int) + 4 == 0) = false := by simp; omega
    have hcell := hlies.cell i (by omega)
    have hfi := hfz i (by omega)
    obtain ⟨c, hc⟩ : ∃ c : Nat, (t[i]'(by omega)).toNat = c := ⟨_, rfl⟩
    rw [hc] at hcell
    have hc1 : c < 256 := by rw [← hc]; exact u8_lt _
    obtain ⟨d, hd⟩ : ∃ d : Nat, (y : Int) % 255 = (d : Int) := ⟨y % 255, by omega⟩
    have hd1 : d < 255 := by omega
    have hxo := u8_xor_nat c (1 + d) hc1 (by omega)
    rw [show ((1 + d : Nat) : Int) = 1 + (d : Int) by omega] at hxo
    have hxl : c ^^^ (1 + d) < 256 := Nat.xor_lt_two_pow (n := 8) (by omega) (by omega)
    obtain ⟨z, hz⟩ : ∃ z : Nat, c ^^^ (1 + d) = z := ⟨_, rfl⟩
    rw [hz] at hxo hxl
    have HZ := hide hz
    have HL := hide hlies
    have HF := hide hfz
    have HC := hide hc
    clear hz hlies hfz hc HQ HU
    go_wp2
    simp only [hi]
    clear hi gx
    go_region
    have HB6 : Hid (Below w.heap.size w (w5.setCell ⟨w4.heap.size, i, none⟩ (.int .u8 z)).drew) := hide (HB5.out.setCell (p := ⟨w4.heap.size, i, none⟩) HW4.out _).drew
    obtain ⟨M, hM, hbk⟩ := turned_back w5 t w4.heap.size (S.size + 4) pc i z HL.out hts hi1 hxl
    have HM := hide hM
    clear hM
    generalize (w5.setCell ⟨w4.heap.size, i, none⟩ (.int .u8 z)).drew = w6 at hbk HB6 ⊢
    have HN := hide (seal4_turned S M i hi1 (UInt8.ofNat z) (by
      have h1 := HE.out
      subst h1
      intro e
      have e2 : c = z := by rw [← HC.out, ← e, UInt8.toNat_ofNat']; omega
      have e3 : c ^^^ (1 + d) = c ^^^ 0 := by rw [HZ.out, Nat.xor_zero, e2]
      have := xor_right e3
      omega) (by rw [HE.out]; exact HM.out))
    have HT6 := hide (HT.out.below HB6.out rfl)
    clear hfi hcell gy hcv HL HF HC HZ hxo
    go_wp2_with fail
    obtain ⟨P, hP⟩ := HN.out
    refine (implUnsealed_mid M w6 S.size P false hP (by omega) HT6.out).mono ?_
    rintro e w7 ⟨rfl, hb7⟩
    have HB7 := hide (HB6.out.trans (hb7.mono HB6.out.size))
    have HT7 := hide (HT6.out.below hb7 rfl)
    clear hb7 HB6 HT6 hP
    have m120 : (⟨#[120]⟩ : ByteArray) = xB := rfl
    have s120 : xB.size = 1 := rfl
    have hx2 : (S ++ xB).size ≤ 1048580 := by rw [ByteArray.size_append, s120]; omega
    have HX := hide hx2
    clear hx2
    simp only [Bool.false_eq_true, if_false]
    go_wp2_with fail
    refine (implOf_any S w7 (by omega) HT7.out).mono ?_
    rintro e w8 ⟨rfl, rfl⟩
    go_wp2_with fail
    refine (implMore_any (sumT S.data.toList) xB w7 (sumT_lt _) (by omega) HT7.out).mono ?_
    rintro e w8 ⟨rfl, rfl⟩
    go_wp2_with fail
    refine (implOf_any (S ++ xB) w7 HX.out HT7.out).mono ?_
    rintro e w8 ⟨rfl, rfl⟩
    have hsum : sumT (S ++ xB).data.toList = sumN (sumT S.data.toList) xB.data.toList := by
      unfold sumT
      rw [← sumN_append]
      simp
    rw [hsum]
    go_wp2
    go_ret
    exact ⟨rfl, HB7.out⟩
  · go_enter Tryd.func3, Tryd.ntmps3
    go_wp2_with fail
    refine (big_yes a len cap w hlen).mono ?_
    rintro e w' ⟨rfl, rfl⟩
    go_wp2
    go_ret
    exact ⟨rfl, Below.refl _ _⟩
end Go.Proofs.YtbgnpbapalngjaaDoor
