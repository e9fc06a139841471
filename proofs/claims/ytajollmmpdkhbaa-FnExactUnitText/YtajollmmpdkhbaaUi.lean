/- impl.inodesAt, impl.textOfUnit by their contracts. -/
import Derived.Test.YtajollmmpdkhbaaUn
namespace Go.Proofs.Ytajollmmpdkhbaa.Kit
open Go.RowKit
theorem R3.sub {α : Type} {K : Kd α} {w : World} {g o n c : Nat} {xs : List α} (h : R3 K w (.slice (some ⟨g, o, none⟩) n c) xs) (i m : Nat) (him : i + m ≤ xs.length) : R3 K w (.slice (some ⟨g, o + i * 3, none⟩) m m) ((xs.drop i).take m) := by
  obtain ⟨a, cap, e, hc, h⟩ := h
  have hlen : ((xs.drop i).take m).length = m := by simp; omega
  refine ⟨some ⟨g, o + i * 3, none⟩, m, by rw [hlen], by rw [hlen]; exact Nat.le_refl _, fun j hj => ?_⟩
  rw [hlen] at hj
  obtain ⟨g', off, t, e1, hg, c0, c1, c2, r⟩ := h (i + j) (by omega)
  simp only [Value.slice.injEq] at e
  rw [← e.1] at e1
  simp only [Option.some.injEq, Addr.mk.injEq] at e1
  obtain ⟨rfl, rfl, -⟩ := e1
  rw [show o + (i + j) * 3 = o + i * 3 + j * 3 by omega] at c0 c1 c2
  exact ⟨g, o + i * 3, t, rfl, hg, c0, c1, c2, by simpa using r⟩
end Go.Proofs.Ytajollmmpdkhbaa.Kit
namespace Go.Proofs.Ytajollmmpdkhbaa
open Go.RowKit Kit
set_option maxRecDepth 100000 in
set_option maxHeartbeats 1600000 in
theorem inosAt_any (u v bv : Value) (g o c k : Nat) (w : World) (hk : 1 ≤ k) (hk4 : k ≤ 4) (hc : 8 ≤ c) :
    Calls Try.prog 81 #[.agg #[u, v, .slice (some ⟨g, o, none⟩) 8 c, bv], .int .i64 k] w fun e w' => e = .returned (.slice (some ⟨g, o + (2 * k - 2) * 3, none⟩) 2 2) ∧ Below w.heap.size w w' := by
  go_enter Try.func81, Try.ntmps81
  go_wp2
  go_ret
  exact ⟨by rw [show k * 2 - (k * 2 - 2) = 2 by omega, show k * 2 - 2 = 2 * k - 2 by omega]; rfl, by go_grown⟩
/-- The texts of inodes, one behind the other. -/
def catB (l : List Ino) : ByteArray := l.foldl (fun a x => a ++ inoB x) ⟨#[]⟩
theorem catB_take (l : List Ino) (j : Nat) (h : j < l.length) : catB (l.take (j + 1)) = catB (l.take j) ++ inoB l[j] := by
  unfold catB
  rw [← List.take_append_getElem h, List.foldl_append]
  rfl
theorem catB_size (l : List Ino) (j : Nat) : (catB (l.take j)).size ≤ 4 * j := by
  induction j with
  | zero => rw [List.take_zero]; exact Nat.le_refl 0
  | succ j ih =>
    by_cases h : j < l.length
    · rw [catB_take l j h, ByteArray.size_append]
      have := textL_size l[j].1 l[j].2.1 l[j].2.2
      unfold inoB
      omega
    · rw [List.take_of_length_le (by omega)] at ih ⊢
      omega
theorem catB_two (x y : Ino) : catB [x, y] = inoB x ++ inoB y := by
  unfold catB
  simp only [List.foldl]
  rw [show (⟨#[]⟩ : ByteArray) = ByteArray.empty from rfl, ByteArray.empty_append]
set_option maxRecDepth 100000 in
set_option maxHeartbeats 3200000 in
theorem implUnit_i (u v iv bv : Value) (xs ys : List Bool) (is : List Ino) (bs : List Blk) (k : Nat) (w : World) (h : DR w u v iv bv xs ys is bs) (hl : is.length = 8) (hk : 1 ≤ k) (hk4 : k ≤ 4) :
    Calls Try.prog 48 #[.agg #[u, v, iv, bv], .int .i64 k] w fun e w' => e = .returned (.string (inoB (is.getD (2 * k - 2) zI) ++ inoB (is.getD (2 * k - 1) zI))) ∧ Below w.heap.size w w' := by
  have hi := h.i
  obtain ⟨a3, c3, ri, hc3, hii⟩ := h.i.ino
  obtain ⟨a1, c1, a2, c2, -, -, a4, c4, rfl, rfl, -, rfl⟩ := h.form
  subst ri
  obtain ⟨g1, o1, p1, rfl, -⟩ := hii 0 (by omega)
  have hs := hi.sub (2 * k - 2) 2 (by omega)
  obtain ⟨l, hL⟩ : ∃ l, (is.drop (2 * k - 2)).take 2 = l := ⟨_, rfl⟩
  have hl2 : l.length = 2 := by rw [← hL]; simp; omega
  have hres : inoB (is.getD (2 * k - 2) zI) ++ inoB (is.getD (2 * k - 1) zI) = catB l := by
    have e : l = [is.getD (2 * k - 2) zI, is.getD (2 * k - 1) zI] := by
      rw [← hL]
      apply List.ext_getElem?
      intro j
      match j with
      | 0 => simp [List.getD, List.getElem?_eq_getElem (show 2 * k - 2 < is.length by omega)]
      | 1 => simp [List.getD, show 2 * k - 2 + 1 = 2 * k - 1 by omega, List.getElem?_eq_getElem (show 2 * k - 1 < is.length by omega)]
      | j + 2 => simp; omega
    rw [e, catB_two]
  rw [hres]
  rw [hL] at hs
  obtain ⟨aS, cS, eS, hcS, hs'⟩ := hs.ino
  simp only [Value.slice.injEq] at eS
  obtain ⟨rfl, -, rfl⟩ := eS
  have HS := hide hs'
  have HL2 := hide hl2
  obtain ⟨n4, hn4⟩ : ∃ n, bs.length = n := ⟨_, rfl⟩
  obtain ⟨n1, hn1⟩ : ∃ n, xs.length = n := ⟨_, rfl⟩
  obtain ⟨n2, hn2⟩ : ∃ n, ys.length = n := ⟨_, rfl⟩
  rw [hl, hn1, hn2, hn4]
  have h8 : 8 ≤ c3 := by omega
  have i0 : ((k : Int) == 0) = false := by simp; omega
  have i4 : decide ((k : Int) ≤ 4) = true := by simp; omega
  have HE : Hid (catB (l.take 2) = catB l) := by rw [List.take_of_length_le (by omega)]; exact rfl
  clear h hi hii hs hs' hL hres hl hn1 hn2 hn4 hc3 hcS hl2
  go_enter Try.func48, Try.ntmps48
  go_wp2_with fail
  refine (inosAt_any _ _ _ g1 o1 c3 k _ hk hk4 h8).mono ?_
  rintro e w1 ⟨rfl, B1⟩
  have BW : Below w.heap.size w w1 := ((Below.refl _ w).alloc (Nat.le_refl _) _).trans (B1.mono (by simp))
  have HBW := hide BW
  clear B1 BW
  generalize o1 + (2 * k - 2) * 3 = o at *
  go_wp2
  go_loopw [5, 36] (fun x i wr => ∃ j : Nat, j ≤ 2 ∧ i = .int .i64 j ∧ x = .string (catB (l.take j)) ∧ Hid (Below w.heap.size w wr)) (fun _ i _ => 2 - (intOf i).toNat)
  case atStart => exact ⟨0, by omega, rfl, rfl, HBW.out⟩
  case round =>
    obtain ⟨j, hj, rfl, rfl, HB⟩ := hrel
    by_cases hlt : j < 2
    · have hjl : j < l.length := by rw [HL2.out]; exact hlt
      obtain ⟨g', o', p, e1, hg, m1, m2, m3, hp⟩ := HS.out j hjl
      simp only [Option.some.injEq, Addr.mk.injEq] at e1
      obtain ⟨rfl, rfl, -⟩ := e1
      have q1 := (HB.out.cell (p := ⟨g1, o + j * 3, none⟩) hg).trans m1
      have q2 := (HB.out.cell (p := ⟨g1, o + j * 3 + 1, none⟩) hg).trans m2
      have q3 := (HB.out.cell (p := ⟨g1, o + j * 3 + 2, none⟩) hg).trans m3
      have CT := hide (catB_take l j hjl)
      have z1 := catB_size l j
      obtain ⟨x, hx⟩ : ∃ x, l[j] = x := ⟨_, rfl⟩
      rw [hx] at q1 q2 hp CT
      obtain ⟨x1, x2, x3⟩ := x
      obtain ⟨pa, pc, rfl⟩ := hp.form
      simp only at q1 q2 q3 hp
      have HP := hide (hp.below HB.out (Nat.le_refl _))
      have C := hide (fun W h => implText_anyI x1 x2 x3 (.slice pa x3.length pc) W h)
      have z2 := textL_size x1 x2 x3
      have CT2 : Hid (catB (l.take (j + 1)) = catB (l.take j) ++ textL x1 x2 x3) := CT.out
      generalize catB (l.take j) = P at *
      generalize textL x1 x2 x3 = T at *
      have hsz := HB.out.size
      have j0 : (0 : Int) ≤ (j : Int) := by omega
      have j1 : (j : Int) < 2 := by omega
      clear m1 m2 m3 hx hp CT HS HE
      go_wp2_with (go_at_call 82; refine (C.out _ (HP.out.alloc _)).mono ?_; rintro e w2 ⟨rfl, B2⟩; have HB2 := hide ((HB.out.alloc hsz _).trans (B2.mono (by simp; omega))); clear B2)
      go_roundw
      case rel => exact ⟨j + 1, by omega, by go_num, by rw [CT2.out], HB2.out⟩
      case measure => simp [intOf]; omega
    · obtain ⟨r, hr⟩ : ∃ r, catB (l.take j) = r := ⟨_, rfl⟩
      have hr2 : r = catB l := by rw [← hr, show j = 2 by omega]; exact HE.out
      rw [hr]
      have HR2 := hide hr2
      clear hr hr2 HE HS
      go_wp2
      go_ret
      exact ⟨by rw [← HR2.out]; rfl, HB.out⟩
set_option maxRecDepth 100000 in
set_option maxHeartbeats 1600000 in
theorem implUnit_z (u v iv bv : Value) (xs ys : List Bool) (is : List Ino) (bs : List Blk) (w : World) (h : DR w u v iv bv xs ys is bs) :
    Calls Try.prog 48 #[.agg #[u, v, iv, bv], .int .i64 0] w fun e w' => e = .returned (.string (textA xs ys)) ∧ Below w.heap.size w w' := by
  have H := hide h
  obtain ⟨a1, c1, a2, c2, a3, c3, a4, c4, rfl, rfl, rfl, rfl⟩ := h.form
  clear h
  go_enter Try.func48, Try.ntmps48
  go_wp2_with fail
  refine (implText_anyB _ _ xs ys _ (H.out.a.alloc _) (H.out.b.alloc _)).mono ?_
  rintro e w1 ⟨rfl, B1⟩
  have HBW := hide (((Below.refl _ w).alloc (Nat.le_refl _) (.cells #[.slice a1 xs.length c1, .slice a2 ys.length c2, .slice a3 is.length c3, .slice a4 bs.length c4] 28)).trans (B1.mono (by simp)))
  clear B1
  go_wp2
  go_ret
  exact ⟨rfl, HBW.out⟩
theorem place_any (k : Nat) (w : World) (hk : 5 ≤ k) (hk4 : k ≤ 20) : Calls Try.prog 84 #[.int .i64 k] w fun e w' => e = .returned (.int .i64 ((k - 5 : Nat) : Int)) ∧ w = w' := by
  go_enter Try.func84, Try.ntmps84
  go_wp2
  go_ret
  exact ⟨by go_num, rfl⟩
set_option maxRecDepth 100000 in
set_option maxHeartbeats 1600000 in
theorem implUnit_b (u v iv bv : Value) (xs ys : List Bool) (is : List Ino) (bs : List Blk) (k : Nat) (w : World) (h : DR w u v iv bv xs ys is bs) (hl : bs.length = 16) (hk : 5 ≤ k) (hk4 : k ≤ 20) :
    Calls Try.prog 48 #[.agg #[u, v, iv, bv], .int .i64 k] w fun e w' => e = .returned (.string (blkB (bs.getD (k - 5) zB))) ∧ Below w.heap.size w w' := by
  obtain ⟨a4, c4, ri, -, hii⟩ := h.k.blk
  obtain ⟨a1, c1, a2, c2, a3, c3, -, -, rfl, rfl, rfl, -⟩ := h.form
  subst ri
  clear h
  obtain ⟨n3, hn3⟩ : ∃ n, is.length = n := ⟨_, rfl⟩
  obtain ⟨n1, hn1⟩ : ∃ n, xs.length = n := ⟨_, rfl⟩
  obtain ⟨n2, hn2⟩ : ∃ n, ys.length = n := ⟨_, rfl⟩
  obtain ⟨g1, o1, p1, rfl, hg1, m1, m2, m3, hr1⟩ := hii (k - 5) (by omega)
  rw [show bs.getD (k - 5) zB = bs[k - 5]'(by omega) by simp [List.getD, List.getElem?_eq_getElem (show k - 5 < bs.length by omega)]]
  obtain ⟨x, hx⟩ : ∃ x, bs[k - 5]'(by omega) = x := ⟨_, rfl⟩
  rw [hx] at m1 m3 hr1 ⊢
  obtain ⟨x1, x2, x3⟩ := x
  obtain ⟨pa, pc, rfl⟩ := hr1.form
  simp only at m1 m2 m3 hr1
  rw [hl, hn1, hn2, hn3]
  obtain ⟨j, hj⟩ : ∃ j, k - 5 = j := ⟨_, rfl⟩
  have hj16 : j < 16 := by omega
  have j0 : (0 : Int) ≤ (j : Int) := by omega
  have j1 : (j : Int) < 16 := by omega
  rw [hj] at m1 m2 m3
  have P0 := hide (fun W => place_any k W hk hk4)
  rw [hj] at P0
  have H1 := hide hr1
  have i0 : ((k : Int) == 0) = false := by simp; omega
  have i4 : decide ((k : Int) ≤ 4) = false := by simp; omega
  have C1 := hide (fun W h => implText_anyK x1 (.slice pa x2.length pc) x3 x2 W h)
  have HS : Hid (∀ w', Below w.heap.size w w' → w'.cell? ⟨g1, o1 + j * 3, none⟩ = some (.bool x1) ∧ w'.cell? ⟨g1, o1 + j * 3 + 1, none⟩ = some (.slice pa x2.length pc) ∧ w'.cell? ⟨g1, o1 + j * 3 + 2, none⟩ = some (.string x3)) := fun w' hb =>
    ⟨(hb.cell (p := ⟨g1, o1 + j * 3, none⟩) hg1).trans m1, (hb.cell (p := ⟨g1, o1 + j * 3 + 1, none⟩) hg1).trans m2, (hb.cell (p := ⟨g1, o1 + j * 3 + 2, none⟩) hg1).trans m3⟩
  clear hr1 hii hx hl hn1 hn2 hn3 hj
  go_enter Try.func48, Try.ntmps48
  go_wp2_with fail
  have K0 := AtC.new w 28 #[.slice a1 n1 c1, .slice a2 n2 c2, .slice a3 n3 c3, .slice (some ⟨g1, o1, none⟩) 16 c4]
  have BW0 : Below w.heap.size w (w.alloc (.cells #[.slice a1 n1 c1, .slice a2 n2 c2, .slice a3 n3 c3, .slice (some ⟨g1, o1, none⟩) 16 c4] 28)) := (Below.refl _ w).alloc (Nat.le_refl _) _
  have HP := hide (H1.out.alloc (.cells #[.slice a1 n1 c1, .slice a2 n2 c2, .slice a3 n3 c3, .slice (some ⟨g1, o1, none⟩) 16 c4] 28))
  generalize w.alloc (.cells #[.slice a1 n1 c1, .slice a2 n2 c2, .slice a3 n3 c3, .slice (some ⟨g1, o1, none⟩) 16 c4] 28) = W0 at *
  have HS2 : Hid (∀ w', Below W0.heap.size W0 w' → w'.cell? ⟨w.heap.size, 3, none⟩ = some (.slice (some ⟨g1, o1, none⟩) 16 c4) ∧ w'.cell? ⟨g1, o1 + j * 3, none⟩ = some (.bool x1) ∧ w'.cell? ⟨g1, o1 + j * 3 + 1, none⟩ = some (.slice pa x2.length pc) ∧ w'.cell? ⟨g1, o1 + j * 3 + 2, none⟩ = some (.string x3)) := fun w' hb => ⟨(K0.over hb).cell 3, HS.out w' (BW0.trans (hb.mono BW0.size))⟩
  have HBW := hide BW0
  obtain ⟨r1, r2, r3, r4⟩ := HS2.out W0 (Below.refl _ _)
  clear K0 BW0 HS m1 m2 m3
  go_region_held3 (fun w' => w'.cell? ⟨w.heap.size, 3, none⟩ = some (.slice (some ⟨g1, o1, none⟩) 16 c4) ∧ w'.cell? ⟨g1, o1 + j * 3, none⟩ = some (.bool x1) ∧ w'.cell? ⟨g1, o1 + j * 3 + 1, none⟩ = some (.slice pa x2.length pc) ∧ w'.cell? ⟨g1, o1 + j * 3 + 2, none⟩ = some (.string x3)) (first | exact HS2.out _ (Below.refl _ _).drew | exact HS2.out _ (of_drew B7)) (first | (go_at_call 84; refine (P0.out _).mono ?_; rintro e w6 ⟨rfl, rfl⟩) | (go_at_call 83; refine (C1.out _ HP.out.drew).mono ?_; rintro e w7 ⟨rfl, B7⟩))
  have HB2 := hide (HBW.out.trans ((of_drew B7).mono HBW.out.size))
  clear B7
  go_wp2
  go_ret
  exact ⟨rfl, HB2.out⟩
/-- The text of a unit, and whether there is one. -/
def unitT (xs ys : List Bool) (is : List Ino) (bs : List Blk) (u : Int) : ByteArray := if diskOk xs ys is bs && (decide (0 ≤ u) && decide (u < 21)) then unitB xs ys is bs u.toNat else ⟨#[]⟩
theorem unitB_z {xs ys : List Bool} {is : List Ino} {bs : List Blk} (h : okB xs.length ys.length = true) : unitB xs ys is bs 0 = textA xs ys := by simp [unitB, textA, h]
theorem unitB_i {xs ys : List Bool} {is : List Ino} {bs : List Blk} {k : Nat} (h : 1 ≤ k) (h4 : k ≤ 4) : unitB xs ys is bs k = inoB (is.getD (2 * k - 2) zI) ++ inoB (is.getD (2 * k - 1) zI) := by
  unfold unitB
  rw [if_neg (by omega), if_pos h4]
theorem unitB_b {xs ys : List Bool} {is : List Ino} {bs : List Blk} {k : Nat} (h : 5 ≤ k) : unitB xs ys is bs k = blkB (bs.getD (k - 5) zB) := by
  unfold unitB
  rw [if_neg (by omega), if_neg (by omega)]
theorem specUnit_any (u v iv bv : Value) (xs ys : List Bool) (is : List Ino) (bs : List Blk) (k base : Nat) (w : World) (h : DR w u v iv bv xs ys is bs) (hT : Two w base u v xs ys) (hok : diskOk xs ys is bs = true) (hk : k ≤ 20) (hB : ∀ (j : Nat) (h : j < bs.length), bigB 1048576 bs[j]) :
    Calls Try.prog 46 #[.agg #[u, v, iv, bv], .int .i64 k] w fun e w' => e = .returned (.string (unitB xs ys is bs k)) ∧ Below w.heap.size w w' := by
  obtain ⟨p1, p2, p3, -, -⟩ := diskOk_parts hok
  by_cases h0 : k = 0
  · subst h0
    rw [unitB_z p1]
    exact specUnit_z u v iv bv xs ys is bs base w h hT
  · by_cases h4 : k ≤ 4
    · rw [unitB_i (by omega) h4]
      exact specUnit_i u v iv bv xs ys is bs k w h p2 (by omega) h4
    · rw [unitB_b (by omega)]
      exact specUnit_b u v iv bv xs ys is bs k w h p3 (by omega) hk hB
theorem implUnit_any (u v iv bv : Value) (xs ys : List Bool) (is : List Ino) (bs : List Blk) (k : Nat) (w : World) (h : DR w u v iv bv xs ys is bs) (hok : diskOk xs ys is bs = true) (hk : k ≤ 20) :
    Calls Try.prog 48 #[.agg #[u, v, iv, bv], .int .i64 k] w fun e w' => e = .returned (.string (unitB xs ys is bs k)) ∧ Below w.heap.size w w' := by
  obtain ⟨p1, p2, p3, -, -⟩ := diskOk_parts hok
  by_cases h0 : k = 0
  · subst h0
    rw [unitB_z p1]
    exact implUnit_z u v iv bv xs ys is bs w h
  · by_cases h4 : k ≤ 4
    · rw [unitB_i (by omega) h4]
      exact implUnit_i u v iv bv xs ys is bs k w h p2 (by omega) h4
    · rw [unitB_b (by omega)]
      exact implUnit_b u v iv bv xs ys is bs k w h p3 (by omega) hk
theorem isUnit_any (u : Int) (w : World) : Calls Try.prog 47 #[.int .i64 u] w fun e w' => e = .returned (.bool (decide (0 ≤ u) && decide (u < 21))) ∧ w = w' := by
  by_cases h : 0 ≤ u
  · have b0 : decide (0 ≤ u) = true := by simpa using h
    rw [b0, Bool.true_and]
    go_enter Try.func47, Try.ntmps47
    go_wp2
    go_ret
    exact ⟨rfl, rfl⟩
  · have b0 : decide (0 ≤ u) = false := by simpa using h
    rw [b0, Bool.false_and]
    go_enter Try.func47, Try.ntmps47
    go_wp2
    go_ret
    exact ⟨rfl, rfl⟩
end Go.Proofs.Ytajollmmpdkhbaa
