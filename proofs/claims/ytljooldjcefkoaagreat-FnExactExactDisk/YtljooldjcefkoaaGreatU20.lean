/- Texts of the proof, bundled: Sp, Ep. -/
import Derived.Test.YtljooldjcefkoaaGreatU15
import Derived.Test.YtljooldjcefkoaaGreatU16
import Derived.Test.YtljooldjcefkoaaGreatU17
import Derived.Test.YtljooldjcefkoaaGreatU18
import Derived.Test.YtljooldjcefkoaaGreatU19
/- Of the specification: SafeDisk by its contract. -/
namespace Go.Proofs.YtljooldjcefkoaaGreat
open Go.RowKit Kit
set_option maxRecDepth 100000 in
set_option maxHeartbeats 3200000 in
theorem specSafe_any (dx dy iv bv : Value) (xs ys : List Bool) (is : List Ino) (bs : List Blk) (w : World) (h : DR w dx dy iv bv xs ys is bs) (hG : Big 1048576 xs ys is bs) :
    Calls Tryz.prog 6 #[.agg #[dx, dy, iv, bv]] w fun e w' => e = .returned (.bool (safeB xs ys is bs)) ∧ Below w.heap.size w w' := by
  obtain ⟨a1, c1, a2, c2, a3, c3, a4, c4, rfl, rfl, rfl, rfl⟩ := h.form
  have HB0 : Hid (Below w.heap.size w (w.alloc (.cells #[.slice a1 xs.length c1, .slice a2 ys.length c2, .slice a3 is.length c3, .slice a4 bs.length c4] 35))) := (Below.refl _ w).alloc (Nat.le_refl _) _
  have HA0 := hide (AtC.new w 35 #[.slice a1 xs.length c1, .slice a2 ys.length c2, .slice a3 is.length c3, .slice a4 bs.length c4])
  have CO := hide (specOk_disk (.slice a1 xs.length c1) (.slice a2 ys.length c2) (.slice a3 is.length c3) (.slice a4 bs.length c4) xs ys is bs (w.alloc (.cells #[.slice a1 xs.length c1, .slice a2 ys.length c2, .slice a3 is.length c3, .slice a4 bs.length c4] 35)) (h.alloc _) (fun j hj k hk => (hG.s j hj).2.1 k hk))
  have HH := hide h
  cases hok : diskOk xs ys is bs with
  | false =>
    rw [hok] at CO
    have HS : Hid (safeB xs ys is bs = false) := by show _ = _; unfold safeB; rw [hok]; rfl
    clear h hG hok
    go_enter Tryz.func6, Tryz.ntmps6
    go_wp2_with fail
    refine CO.out.mono ?_
    rintro e w1 ⟨rfl, B1⟩
    have HB1 := hide (HB0.out.trans (B1.mono HB0.out.size))
    clear B1
    go_wp2
    go_ret
    exact ⟨by rw [HS.out]; rfl, HB1.out⟩
  | true =>
  rw [hok] at CO
  have hX := RX.of_ok hok
  have HX := hide hX
  have HS : Hid (safeB xs ys is bs = decide (kindAt is 1 = 2 ∧ dangN is bs = 0 ∧ sharedN is = 0 ∧ unmP xs is bs + unmI ys is bs = 0 ∧ shortN is bs = 0 ∧ wrongN is bs = 0)) := by show _ = _; unfold safeB; rw [hok]; rfl
  have C1 := hide (fun (W : World) (hb : Below w.heap.size w W) => specDang_any (.slice a1 xs.length c1) (.slice a2 ys.length c2) (.slice a3 is.length c3) (.slice a4 bs.length c4) xs ys is bs W (h.below hb (Nat.le_refl _)) hX)
  have C2 := hide (fun (W : World) (hb : Below w.heap.size w W) => specShr_any (.slice a1 xs.length c1) (.slice a2 ys.length c2) (.slice a3 is.length c3) (.slice a4 bs.length c4) xs ys is bs W (h.below hb (Nat.le_refl _)) hX)
  have C3 := hide (fun (W : World) (hb : Below w.heap.size w W) => specUnm_any (.slice a1 xs.length c1) (.slice a2 ys.length c2) (.slice a3 is.length c3) (.slice a4 bs.length c4) xs ys is bs W (h.below hb (Nat.le_refl _)) hX)
  have C4 := hide (fun (W : World) (hb : Below w.heap.size w W) => specShort_any (.slice a1 xs.length c1) (.slice a2 ys.length c2) (.slice a3 is.length c3) (.slice a4 bs.length c4) xs ys is bs W (h.below hb (Nat.le_refl _)) hX)
  have C5 := hide (fun (W : World) (hb : Below w.heap.size w W) => specWrong_any (.slice a1 xs.length c1) (.slice a2 ys.length c2) (.slice a3 is.length c3) (.slice a4 bs.length c4) xs ys is bs W (h.below hb (Nat.le_refl _)) hX)
  obtain ⟨g2, o2, sa, sc, rfl, hg2, y0, -, -, -⟩ := DR.ino h 0 (by rw [hX.r.hi]; decide)
  have hi8 : (0 : Int) < (is.length : Int) := by rw [hX.r.hi]; decide
  simp only [Nat.zero_mul, Nat.add_zero] at y0
  have hk1 : kindAt is (((0 : Nat) : Int) + 1) = kindAt is 1 := rfl
  rw [hk1] at y0
  have hun : ((unmP xs is bs : Int) + (unmI ys is bs : Int)) = ((unmP xs is bs + unmI ys is bs : Nat) : Int) := by omega
  simp only [hun] at C3
  obtain ⟨kd, hkd⟩ : ∃ n, kindAt is 1 = n := ⟨_, rfl⟩
  obtain ⟨n1, hn1⟩ : ∃ n, dangN is bs = n := ⟨_, rfl⟩
  obtain ⟨n2, hn2⟩ : ∃ n, sharedN is = n := ⟨_, rfl⟩
  obtain ⟨n3, hn3⟩ : ∃ n, unmP xs is bs + unmI ys is bs = n := ⟨_, rfl⟩
  obtain ⟨n4, hn4⟩ : ∃ n, shortN is bs = n := ⟨_, rfl⟩
  obtain ⟨n5, hn5⟩ : ∃ n, wrongN is bs = n := ⟨_, rfl⟩
  simp only [hkd, hn1, hn2, hn3, hn4, hn5] at HS
  simp only [hn1] at C1
  simp only [hn2] at C2
  simp only [hn3] at C3
  simp only [hn4] at C4
  simp only [hn5] at C5
  rw [hkd] at y0
  have HW : Hid (∀ W, Below (w.alloc (.cells #[.slice a1 xs.length c1, .slice a2 ys.length c2, .slice (some ⟨g2, o2, none⟩) is.length c3, .slice a4 bs.length c4] 35)).heap.size (w.alloc (.cells #[.slice a1 xs.length c1, .slice a2 ys.length c2, .slice (some ⟨g2, o2, none⟩) is.length c3, .slice a4 bs.length c4] 35)) W → AtC W w.heap.size 35 #[.slice a1 xs.length c1, .slice a2 ys.length c2, .slice (some ⟨g2, o2, none⟩) is.length c3, .slice a4 bs.length c4] ∧ W.cell? ⟨g2, o2, none⟩ = some (.int .i64 kd) ∧ Below w.heap.size w W) := fun W b => by
    have b2 := HB0.out.trans (b.mono HB0.out.size)
    exact ⟨HA0.out.over b, (b2.cell (p := ⟨g2, o2, none⟩) hg2).trans y0, b2⟩
  clear h hG hok hX hk1 hun hkd hn1 hn2 hn3 hn4 hn5 HA0 y0
  go_enter Tryz.func6, Tryz.ntmps6
  go_wp2_with fail
  refine CO.out.mono ?_
  rintro e w1 ⟨rfl, B1⟩
  have HB1 := hide B1
  have k0 := (HW.out w1 B1).2.1
  have z0 : w1.cell? ⟨w.heap.size, 0, none⟩ = some (.slice a1 xs.length c1) := (HW.out w1 B1).1.cell 0
  have z1 : w1.cell? ⟨w.heap.size, 1, none⟩ = some (.slice a2 ys.length c2) := (HW.out w1 B1).1.cell 1
  have z2 : w1.cell? ⟨w.heap.size, 2, none⟩ = some (.slice (some ⟨g2, o2, none⟩) is.length c3) := (HW.out w1 B1).1.cell 2
  have z3 : w1.cell? ⟨w.heap.size, 3, none⟩ = some (.slice a4 bs.length c4) := (HW.out w1 B1).1.cell 3
  have D1 := hide (C1.out w1 (HW.out w1 B1).2.2)
  clear B1 CO C1
  by_cases hk : kd = 2
  rotate_left
  · have hkb : (kd == 2) = false := by simp [hk]
    have HF : Hid (safeB xs ys is bs = false) := hide (by rw [HS.out]; simp [hk])
    clear hk
    go_wp2
    go_ret
    exact ⟨by rw [HF.out]; rfl, (HW.out _ HB1.out).2.2⟩
  subst hk
  go_wp2_with fail
  refine D1.out.mono ?_
  rintro e w2 ⟨rfl, B2⟩
  have HB2 : Hid (Below (w.alloc (.cells #[.slice a1 xs.length c1, .slice a2 ys.length c2, .slice (some ⟨g2, o2, none⟩) is.length c3, .slice a4 bs.length c4] 35)).heap.size (w.alloc (.cells #[.slice a1 xs.length c1, .slice a2 ys.length c2, .slice (some ⟨g2, o2, none⟩) is.length c3, .slice a4 bs.length c4] 35)) w2) := hide (HB1.out.trans (B2.mono HB1.out.size))
  clear B2 D1 z0 z1 z2 z3
  have z0 : w2.cell? ⟨w.heap.size, 0, none⟩ = some (.slice a1 xs.length c1) := (HW.out w2 HB2.out).1.cell 0
  have z1 : w2.cell? ⟨w.heap.size, 1, none⟩ = some (.slice a2 ys.length c2) := (HW.out w2 HB2.out).1.cell 1
  have z2 : w2.cell? ⟨w.heap.size, 2, none⟩ = some (.slice (some ⟨g2, o2, none⟩) is.length c3) := (HW.out w2 HB2.out).1.cell 2
  have z3 : w2.cell? ⟨w.heap.size, 3, none⟩ = some (.slice a4 bs.length c4) := (HW.out w2 HB2.out).1.cell 3
  have D2 := hide (C2.out w2 (HW.out w2 HB2.out).2.2)
  by_cases hz1 : n1 = 0
  rotate_left
  · have hzb : ((n1 : Int) == 0) = false := by simp; omega
    have HF : Hid (safeB xs ys is bs = false) := hide (by rw [HS.out]; simp [hz1])
    clear hz1
    go_wp2
    go_ret
    exact ⟨by rw [HF.out]; rfl, (HW.out _ HB2.out).2.2⟩
  subst hz1
  go_wp2_with fail
  refine D2.out.mono ?_
  rintro e w3 ⟨rfl, B3⟩
  have HB3 : Hid (Below (w.alloc (.cells #[.slice a1 xs.length c1, .slice a2 ys.length c2, .slice (some ⟨g2, o2, none⟩) is.length c3, .slice a4 bs.length c4] 35)).heap.size (w.alloc (.cells #[.slice a1 xs.length c1, .slice a2 ys.length c2, .slice (some ⟨g2, o2, none⟩) is.length c3, .slice a4 bs.length c4] 35)) w3) := hide (HB2.out.trans (B3.mono HB2.out.size))
  clear B3 D2 z0 z1 z2 z3
  have z0 : w3.cell? ⟨w.heap.size, 0, none⟩ = some (.slice a1 xs.length c1) := (HW.out w3 HB3.out).1.cell 0
  have z1 : w3.cell? ⟨w.heap.size, 1, none⟩ = some (.slice a2 ys.length c2) := (HW.out w3 HB3.out).1.cell 1
  have z2 : w3.cell? ⟨w.heap.size, 2, none⟩ = some (.slice (some ⟨g2, o2, none⟩) is.length c3) := (HW.out w3 HB3.out).1.cell 2
  have z3 : w3.cell? ⟨w.heap.size, 3, none⟩ = some (.slice a4 bs.length c4) := (HW.out w3 HB3.out).1.cell 3
  have D3 := hide (C3.out w3 (HW.out w3 HB3.out).2.2)
  by_cases hz2 : n2 = 0
  rotate_left
  · have hzb : ((n2 : Int) == 0) = false := by simp; omega
    have HF : Hid (safeB xs ys is bs = false) := hide (by rw [HS.out]; simp [hz2])
    clear hz2
    go_wp2
    go_ret
    exact ⟨by rw [HF.out]; rfl, (HW.out _ HB3.out).2.2⟩
  subst hz2
  go_wp2_with fail
  refine D3.out.mono ?_
  rintro e w4 ⟨rfl, B4⟩
  have HB4 : Hid (Below (w.alloc (.cells #[.slice a1 xs.length c1, .slice a2 ys.length c2, .slice (some ⟨g2, o2, none⟩) is.length c3, .slice a4 bs.length c4] 35)).heap.size (w.alloc (.cells #[.slice a1 xs.length c1, .slice a2 ys.length c2, .slice (some ⟨g2, o2, none⟩) is.length c3, .slice a4 bs.length c4] 35)) w4) := hide (HB3.out.trans (B4.mono HB3.out.size))
  clear B4 D3 z0 z1 z2 z3
  have z0 : w4.cell? ⟨w.heap.size, 0, none⟩ = some (.slice a1 xs.length c1) := (HW.out w4 HB4.out).1.cell 0
  have z1 : w4.cell? ⟨w.heap.size, 1, none⟩ = some (.slice a2 ys.length c2) := (HW.out w4 HB4.out).1.cell 1
  have z2 : w4.cell? ⟨w.heap.size, 2, none⟩ = some (.slice (some ⟨g2, o2, none⟩) is.length c3) := (HW.out w4 HB4.out).1.cell 2
  have z3 : w4.cell? ⟨w.heap.size, 3, none⟩ = some (.slice a4 bs.length c4) := (HW.out w4 HB4.out).1.cell 3
  have D4 := hide (C4.out w4 (HW.out w4 HB4.out).2.2)
  by_cases hz3 : n3 = 0
  rotate_left
  · have hzb : ((n3 : Int) == 0) = false := by simp; omega
    have HF : Hid (safeB xs ys is bs = false) := hide (by rw [HS.out]; simp [hz3])
    clear hz3
    go_wp2
    go_ret
    exact ⟨by rw [HF.out]; rfl, (HW.out _ HB4.out).2.2⟩
  subst hz3
  go_wp2_with fail
  refine D4.out.mono ?_
  rintro e w5 ⟨rfl, B5⟩
  have HB5 : Hid (Below (w.alloc (.cells #[.slice a1 xs.length c1, .slice a2 ys.length c2, .slice (some ⟨g2, o2, none⟩) is.length c3, .slice a4 bs.length c4] 35)).heap.size (w.alloc (.cells #[.slice a1 xs.length c1, .slice a2 ys.length c2, .slice (some ⟨g2, o2, none⟩) is.length c3, .slice a4 bs.length c4] 35)) w5) := hide (HB4.out.trans (B5.mono HB4.out.size))
  clear B5 D4 z0 z1 z2 z3
  have z0 : w5.cell? ⟨w.heap.size, 0, none⟩ = some (.slice a1 xs.length c1) := (HW.out w5 HB5.out).1.cell 0
  have z1 : w5.cell? ⟨w.heap.size, 1, none⟩ = some (.slice a2 ys.length c2) := (HW.out w5 HB5.out).1.cell 1
  have z2 : w5.cell? ⟨w.heap.size, 2, none⟩ = some (.slice (some ⟨g2, o2, none⟩) is.length c3) := (HW.out w5 HB5.out).1.cell 2
  have z3 : w5.cell? ⟨w.heap.size, 3, none⟩ = some (.slice a4 bs.length c4) := (HW.out w5 HB5.out).1.cell 3
  have D5 := hide (C5.out w5 (HW.out w5 HB5.out).2.2)
  by_cases hz4 : n4 = 0
  rotate_left
  · have hzb : ((n4 : Int) == 0) = false := by simp; omega
    have HF : Hid (safeB xs ys is bs = false) := hide (by rw [HS.out]; simp [hz4])
    clear hz4
    go_wp2
    go_ret
    exact ⟨by rw [HF.out]; rfl, (HW.out _ HB5.out).2.2⟩
  subst hz4
  go_wp2_with fail
  refine D5.out.mono ?_
  rintro e w6 ⟨rfl, B6⟩
  have HB6 : Hid (Below (w.alloc (.cells #[.slice a1 xs.length c1, .slice a2 ys.length c2, .slice (some ⟨g2, o2, none⟩) is.length c3, .slice a4 bs.length c4] 35)).heap.size (w.alloc (.cells #[.slice a1 xs.length c1, .slice a2 ys.length c2, .slice (some ⟨g2, o2, none⟩) is.length c3, .slice a4 bs.length c4] 35)) w6) := hide (HB5.out.trans (B6.mono HB5.out.size))
  clear B6 D5 z0 z1 z2 z3
  by_cases hz5 : n5 = 0
  rotate_left
  · have hzb : ((n5 : Int) == 0) = false := by simp; omega
    have HF : Hid (safeB xs ys is bs = false) := hide (by rw [HS.out]; simp [hz5])
    clear hz5
    go_wp2
    go_ret
    exact ⟨by rw [HF.out]; rfl, (HW.out _ HB6.out).2.2⟩
  subst hz5
  have HF : Hid (safeB xs ys is bs = true) := hide (by rw [HS.out]; simp)
  go_wp2
  go_ret
  exact ⟨by rw [HF.out]; rfl, (HW.out _ HB6.out).2.2⟩
end Go.Proofs.YtljooldjcefkoaaGreat
/- Of the specification: ExactDisk by its contract. -/
namespace Go.Proofs.YtljooldjcefkoaaGreat
open Go.RowKit Kit
set_option maxRecDepth 100000 in
set_option maxHeartbeats 12800000 in
theorem specExact_any (dx dy iv bv : Value) (xs ys : List Bool) (is : List Ino) (bs : List Blk) (w : World) (h : DR w dx dy iv bv xs ys is bs) (hG : Big 1048576 xs ys is bs) :
    Calls Tryz.prog 10 #[.agg #[dx, dy, iv, bv]] w fun e w' => e = .returned (.bool (exactB xs ys is bs)) ∧ Below w.heap.size w w' := by
  obtain ⟨a1, c1, a2, c2, a3, c3, a4, c4, rfl, rfl, rfl, rfl⟩ := h.form
  have HB0 : Hid (Below w.heap.size w (w.alloc (.cells #[.slice a1 xs.length c1, .slice a2 ys.length c2, .slice a3 is.length c3, .slice a4 bs.length c4] 35))) := (Below.refl _ w).alloc (Nat.le_refl _) _
  have HA0 := hide (AtC.new w 35 #[.slice a1 xs.length c1, .slice a2 ys.length c2, .slice a3 is.length c3, .slice a4 bs.length c4])
  have CS := hide (specSafe_any (.slice a1 xs.length c1) (.slice a2 ys.length c2) (.slice a3 is.length c3) (.slice a4 bs.length c4) xs ys is bs (w.alloc (.cells #[.slice a1 xs.length c1, .slice a2 ys.length c2, .slice a3 is.length c3, .slice a4 bs.length c4] 35)) (h.alloc _) hG)
  cases hsf : safeB xs ys is bs with
  | false =>
    rw [hsf] at CS
    have HFX : Hid (exactB xs ys is bs = false) := hide (by unfold exactB; rw [hsf]; rfl)
    clear h hG hsf
    go_enter Tryz.func10, Tryz.ntmps10
    go_wp2_with fail
    refine CS.out.mono ?_
    rintro e w1 ⟨rfl, B1⟩
    have HB1 := hide (HB0.out.trans (B1.mono HB0.out.size))
    clear B1
    go_wp2
    go_ret
    exact ⟨by rw [HFX.out]; rfl, HB1.out⟩
  | true =>
  rw [hsf] at CS
  have hok : diskOk xs ys is bs = true := by
    unfold safeB at hsf
    rw [Bool.and_eq_true] at hsf
    exact hsf.1
  have hX := RX.of_ok hok
  have HEX : Hid (exactB xs ys is bs = exactS xs ys is bs) := hide (by unfold exactB; rw [hsf, Bool.true_and])
  obtain ⟨gx, ox, rfl, hgx, hbx⟩ := bits_base h.a (by rw [hX.bx]; decide)
  obtain ⟨gy, oy, rfl, hgy, hby⟩ := bits_base h.b (by rw [hX.y8]; decide)
  obtain ⟨g2, o2, -, -, rfl, hg2, -, -, -, -⟩ := DR.ino h 0 (by rw [hX.r.hi]; decide)
  have HBX : Hid (∀ (W : World) (j : Nat), Below w.heap.size w W → j < 16 → W.cell? ⟨gx, ox + j, none⟩ = some (.bool (xs.getD j false))) := fun W j b hj => (b.cell (p := ⟨gx, ox + j, none⟩) hgx).trans (hbx j (by rw [hX.bx]; exact hj))
  have HBY : Hid (∀ (W : World) (j : Nat), Below w.heap.size w W → j < 8 → W.cell? ⟨gy, oy + j, none⟩ = some (.bool (ys.getD j false))) := fun W j b hj => (b.cell (p := ⟨gy, oy + j, none⟩) hgy).trans (hby j (by rw [hX.y8]; exact hj))
  have HL : Hid (xs.length = 16 ∧ ys.length = 8 ∧ is.length = 8) := ⟨hX.bx, hX.y8, hX.r.hi⟩
  have HKD : Hid (∀ i, kindAt is i = 0 ∨ kindAt is i = 1 ∨ kindAt is i = 2) := hX.r.kind
  have HII : Hid (∀ (W : World) (j : Nat), Below w.heap.size w W → j < 8 → ∃ (sa : Option Addr) (n c : Nat), W.cell? ⟨g2, o2 + j * 3, none⟩ = some (.int .i64 (kindAt is ((j : Int) + 1))) ∧ W.cell? ⟨g2, o2 + j * 3 + 1, none⟩ = some (.int .i64 (lnkAt is j)) ∧ W.cell? ⟨g2, o2 + j * 3 + 2, none⟩ = some (.slice sa n c)) := fun W j b hj => by
    have hj' : j < is.length := by rw [hX.r.hi]; exact hj
    obtain ⟨g', o', sa, sc, e, -, y0, y1, y2, -⟩ := DR.ino h j hj'
    simp only [Option.some.injEq, Addr.mk.injEq, and_true] at e
    obtain ⟨rfl, rfl⟩ := e
    have el : lnkAt is j = is[j].2.1 := by unfold lnkAt; simp [hj']
    exact ⟨sa, _, sc, (b.cell (p := ⟨g2, o2 + j * 3, none⟩) hg2).trans y0, by rw [el]; exact (b.cell (p := ⟨g2, o2 + j * 3 + 1, none⟩) hg2).trans y1, (b.cell (p := ⟨g2, o2 + j * 3 + 2, none⟩) hg2).trans y2⟩
  have CR := hide (fun (W : World) (hb : Below w.heap.size w W) => specReach_any (.slice (some ⟨gx, ox, none⟩) xs.length c1) (.slice (some ⟨gy, oy, none⟩) ys.length c2) (.slice (some ⟨g2, o2, none⟩) is.length c3) (.slice a4 bs.length c4) xs ys is bs W (h.below hb (Nat.le_refl _)) hX.r)
  have CL := hide (fun (x : Int) (W : World) (hb : Below w.heap.size w W) => specLinks_any x (.slice (some ⟨gx, ox, none⟩) xs.length c1) (.slice (some ⟨gy, oy, none⟩) ys.length c2) (.slice (some ⟨g2, o2, none⟩) is.length c3) (.slice a4 bs.length c4) xs ys is bs W (h.below hb (Nat.le_refl _)) hX)
  have CH := hide (fun (W : World) (hb : Below w.heap.size w W) => had_any (.slice (some ⟨gx, ox, none⟩) xs.length c1) (.slice (some ⟨gy, oy, none⟩) ys.length c2) (.slice (some ⟨g2, o2, none⟩) is.length c3) (.slice a4 bs.length c4) xs ys is bs W (h.below hb (Nat.le_refl _)) hX)
  have HLN : Hid (∀ i, linksN is bs i ≤ 64) := linksN_le hX.r
  have HR8 := hide (reachL_len is bs)
  have HH16 : Hid ((hadL is bs).length ≤ 16) := by show _ ≤ _; unfold hadL; rw [List.length_map]; have h1 := ptrL_len hX.r (reachL is bs); have h2 := reachL_len is bs; omega
  have HINS : Hid (∀ j : Nat, inoS ys is bs j = decide (((reachL is bs).contains ((j : Int) + 1) = true ∨ kindAt is ((j : Int) + 1) = 0) ∧ ys.getD j false = (reachL is bs).contains ((j : Int) + 1) ∧ (j = 0 → lnkAt is j = 1 ∧ linksN is bs ((j : Int) + 1) = 0) ∧ (¬ j = 0 → ((reachL is bs).contains ((j : Int) + 1) = true → lnkAt is j = (linksN is bs ((j : Int) + 1) : Int)) ∧ (kindAt is ((j : Int) + 1) = 2 → linksN is bs ((j : Int) + 1) = 1)))) := fun _ => rfl
  clear h hG hsf hok hX hbx hby
  go_enter Tryz.func10, Tryz.ntmps10
  go_wp2_with fail
  refine CS.out.mono ?_
  rintro e w0 ⟨rfl, B0⟩
  have HW0 : Hid (Below w.heap.size w w0 ∧ AtC w0 w.heap.size 35 #[.slice (some ⟨gx, ox, none⟩) xs.length c1, .slice (some ⟨gy, oy, none⟩) ys.length c2, .slice (some ⟨g2, o2, none⟩) is.length c3, .slice a4 bs.length c4]) := ⟨HB0.out.trans (B0.mono HB0.out.size), HA0.out.over B0⟩
  have z0 : w0.cell? ⟨w.heap.size, 0, none⟩ = some (.slice (some ⟨gx, ox, none⟩) xs.length c1) := HW0.out.2.cell 0
  have z1 : w0.cell? ⟨w.heap.size, 1, none⟩ = some (.slice (some ⟨gy, oy, none⟩) ys.length c2) := HW0.out.2.cell 1
  have z2 : w0.cell? ⟨w.heap.size, 2, none⟩ = some (.slice (some ⟨g2, o2, none⟩) is.length c3) := HW0.out.2.cell 2
  have z3 : w0.cell? ⟨w.heap.size, 3, none⟩ = some (.slice a4 bs.length c4) := HW0.out.2.cell 3
  have CR1 := hide (CR.out w0 HW0.out.1)
  clear B0 CS HB0 HA0
  go_wp2_with fail
  refine CR1.out.mono ?_
  rintro e w1 ⟨rv, rfl, R1, B1⟩
  have HW1 : Hid (Below w.heap.size w w1 ∧ AtC w1 w.heap.size 35 #[.slice (some ⟨gx, ox, none⟩) xs.length c1, .slice (some ⟨gy, oy, none⟩) ys.length c2, .slice (some ⟨g2, o2, none⟩) is.length c3, .slice a4 bs.length c4]) := ⟨HW0.out.1.trans (B1.mono HW0.out.1.size), HW0.out.2.over B1⟩
  obtain ⟨ra, rc, rfl, -⟩ := R1.form
  rw [ic_length] at R1 ⊢
  have HRI := hide R1.rints
  clear R1 B1 CR CR1 z0 z1 z2 z3 HW0
  obtain ⟨RN, hRN⟩ : ∃ n, (reachL is bs).length = n := ⟨_, rfl⟩
  rw [hRN] at HRI ⊢
  go_wp2_with fail
  go_loopw [4] (fun kv wr => ∃ (j : Nat), j ≤ 8 ∧ kv = .int .i64 ((j : Int) + 1) ∧ Hid ((∀ k, k < j → inoS ys is bs k = true) ∧ Below w1.heap.size w1 wr)) (fun kv _ => 9 - (intOf kv).toNat)
  case atStart => exact ⟨0, Nat.zero_le _, rfl, (fun k hk => by omega), Below.refl _ _⟩
  case round =>
    obtain ⟨j, hj, rfl, HJ⟩ := hrel
    have HBW0 : Hid (Below w.heap.size w wr ∧ AtC wr w.heap.size 35 #[.slice (some ⟨gx, ox, none⟩) xs.length c1, .slice (some ⟨gy, oy, none⟩) ys.length c2, .slice (some ⟨g2, o2, none⟩) is.length c3, .slice a4 bs.length c4]) := ⟨HW1.out.1.trans (HJ.out.2.mono HW1.out.1.size), HW1.out.2.over HJ.out.2⟩
    have z0 : wr.cell? ⟨w.heap.size, 0, none⟩ = some (.slice (some ⟨gx, ox, none⟩) xs.length c1) := HBW0.out.2.cell 0
    have z1 : wr.cell? ⟨w.heap.size, 1, none⟩ = some (.slice (some ⟨gy, oy, none⟩) ys.length c2) := HBW0.out.2.cell 1
    have z2 : wr.cell? ⟨w.heap.size, 2, none⟩ = some (.slice (some ⟨g2, o2, none⟩) is.length c3) := HBW0.out.2.cell 2
    have z3 : wr.cell? ⟨w.heap.size, 3, none⟩ = some (.slice a4 bs.length c4) := HBW0.out.2.cell 3
    by_cases hj8 : j < 8
    rotate_left
    · obtain rfl : j = 8 := by omega
      have j1 : ¬ (((8 : Nat) : Int) + 1 ≤ (is.length : Int)) := by have := HL.out; omega
      have CH1 := hide (CH.out wr HBW0.out.1)
      go_wp2_with fail
      refine CH1.out.mono ?_
      rintro e w2 ⟨hv, rfl, R2, B2⟩
      have HW2 : Hid (Below w.heap.size w w2 ∧ AtC w2 w.heap.size 35 #[.slice (some ⟨gx, ox, none⟩) xs.length c1, .slice (some ⟨gy, oy, none⟩) ys.length c2, .slice (some ⟨g2, o2, none⟩) is.length c3, .slice a4 bs.length c4]) := ⟨HBW0.out.1.trans (B2.mono HBW0.out.1.size), HBW0.out.2.over B2⟩
      obtain ⟨ha, hc, rfl, -⟩ := R2.form
      rw [ic_length] at R2 ⊢
      have HHI := hide R2.rints
      clear R2 B2 CH CH1 z0 z1 z2 z3
      go_wp2_with fail
      go_loopw [9] (fun kv wr => ∃ (p : Nat), p ≤ 16 ∧ kv = .int .i64 ((p : Int) + 1) ∧ Hid ((∀ k, k < p → bitS xs is bs k = true) ∧ Below w2.heap.size w2 wr)) (fun kv _ => 17 - (intOf kv).toNat)
      case atStart => exact ⟨0, Nat.zero_le _, rfl, (fun k hk => by omega), Below.refl _ _⟩
      case round =>
        obtain ⟨p, hp, rfl, HP⟩ := hrel
        have HBP : Hid (Below w.heap.size w wr ∧ AtC wr w.heap.size 35 #[.slice (some ⟨gx, ox, none⟩) xs.length c1, .slice (some ⟨gy, oy, none⟩) ys.length c2, .slice (some ⟨g2, o2, none⟩) is.length c3, .slice a4 bs.length c4]) := ⟨HW2.out.1.trans (HP.out.2.mono HW2.out.1.size), HW2.out.2.over HP.out.2⟩
        have x0 : wr.cell? ⟨w.heap.size, 0, none⟩ = some (.slice (some ⟨gx, ox, none⟩) xs.length c1) := HBP.out.2.cell 0
        by_cases hp16 : p < 16
        rotate_left
        · obtain rfl : p = 16 := by omega
          have p1 : ¬ (((16 : Nat) : Int) + 1 ≤ (xs.length : Int)) := by have := HL.out; omega
          have HFX : Hid (exactB xs ys is bs = true) := hide (by rw [HEX.out]; exact exactS_yes HJ.out.1 HP.out.1)
          go_wp2
          go_ret
          exact ⟨by rw [HFX.out]; rfl, HBP.out.1⟩
        have p0 : (0 : Int) ≤ (p : Int) := by omega
        have p1 : (p : Int) + 1 ≤ (xs.length : Int) := by have := HL.out; omega
        have p2 : (p : Int) < (xs.length : Int) := by have := HL.out; omega
        have hwp : IntKind.i64.wrap (p : Int) = (p : Int) := wrap_small _ (by omega) (by omega)
        have kx := HBX.out wr p HBP.out.1 hp16
        have CC := hide (fun (n : Nat) => has10_any (.slice ha (hadL is bs).length hc) (hadL is bs) ((p : Int) + 1) (wr.drewN n) ((HHI.out.below HP.out.2 (Nat.le_refl _)).below (below_drewN (Below.refl _ _) n) (Nat.le_refl _)) (by have := HH16.out; omega))
        have HBS : Hid (bitS xs is bs p = decide (xs.getD p false = (hadL is bs).contains ((p : Int) + 1))) := rfl
        obtain ⟨bx, hbx⟩ : ∃ b, xs.getD p false = b := ⟨_, rfl⟩
        obtain ⟨hb, hhb⟩ : ∃ b, (hadL is bs).contains ((p : Int) + 1) = b := ⟨_, rfl⟩
        rw [hbx] at kx HBS
        rw [hhb] at HBS
        simp only [hhb] at CC
        clear hbx hhb
        go_upto_region 18 with fail
        go_quiet ((go_at_call 35; exact Calls.quiet_of_same (CC.out _)))
        by_cases hbb : bx = hb
        · subst hbb
          have HNX : Hid (bitS xs is bs p = true) := hide (by rw [HBS.out]; simp)
          cases bx
          all_goals
            go_wp2
            go_roundw
            case rel => exact ⟨p + 1, by omega, by go_num, (fun k hk => by by_cases e : k = p; rw [e]; exact HNX.out; exact HP.out.1 k (by omega)), below_drewN HP.out.2 _⟩
            case measure => simp [intOf]; omega
        · have HNX : Hid (bitS xs is bs p = false) := hide (by rw [HBS.out]; simp [hbb])
          have HFX : Hid (exactB xs ys is bs = false) := hide (by rw [HEX.out]; exact exactS_bit hp16 HNX.out)
          cases bx <;> cases hb
          case false.false => exact absurd rfl hbb
          case true.true => exact absurd rfl hbb
          all_goals
            clear hbb
            go_wp2
            go_ret
            exact ⟨by rw [HFX.out]; rfl, below_drewN HBP.out.1 _⟩
    have j0 : (0 : Int) ≤ (j : Int) := by omega
    have j1 : (j : Int) + 1 ≤ (is.length : Int) := by have := HL.out; omega
    have j2 : (j : Int) < (is.length : Int) := by have := HL.out; omega
    have j3 : (j : Int) < (ys.length : Int) := by have := HL.out; omega
    have hwj : IntKind.i64.wrap (j : Int) = (j : Int) := wrap_small _ (by omega) (by omega)
    obtain ⟨sa, sn, sc, y0, y1, y2⟩ := HII.out wr j HBW0.out.1 hj8
    have HIN := hide (HINS.out j)
    have hkd3 := HKD.out ((j : Int) + 1)
    have hln := HLN.out ((j : Int) + 1)
    have CC : Hid (∀ (W : World), Below w1.heap.size w1 W → Calls Tryz.prog 35 #[.slice ra RN rc, .int .i64 ((j : Int) + 1)] W fun e w' => e = .returned (.bool ((reachL is bs).contains ((j : Int) + 1))) ∧ w' = W) := fun W b => has10_any (.slice ra RN rc) (reachL is bs) ((j : Int) + 1) W (HRI.out.below b (Nat.le_refl _)) (by have := HR8.out; omega)
    have CL1 := hide (CL.out ((j : Int) + 1))
    obtain ⟨kd, hkd⟩ : ∃ n, kindAt is ((j : Int) + 1) = n := ⟨_, rfl⟩
    obtain ⟨lk, hlk⟩ : ∃ n, lnkAt is j = n := ⟨_, rfl⟩
    obtain ⟨ln, hln'⟩ : ∃ n, linksN is bs ((j : Int) + 1) = n := ⟨_, rfl⟩
    obtain ⟨r, hr⟩ : ∃ b, (reachL is bs).contains ((j : Int) + 1) = b := ⟨_, rfl⟩
    obtain ⟨yb, hyb⟩ : ∃ b, ys.getD j false = b := ⟨_, rfl⟩
    simp only [hkd, hlk, hln', hr, hyb] at HIN
    rw [hkd] at y0 hkd3
    rw [hlk] at y1
    rw [hln'] at hln
    simp only [hr] at CC
    simp only [hln'] at CL1
    have ky := HBY.out
    have HKY : Hid (∀ (W : World), Below w.heap.size w W → W.cell? ⟨gy, oy + j, none⟩ = some (.bool yb)) := fun W b => (HBY.out W j b hj8).trans (by rw [hyb])
    clear ky hkd hlk hln' hr hyb
    obtain ⟨W1, hW1⟩ : ∃ W, wr.alloc (.cells #[.int .i64 kd, .int .i64 lk, .slice sa sn sc] 44) = W := ⟨_, rfl⟩
    have HX1 : Hid (Below w1.heap.size w1 W1 ∧ AtC W1 wr.heap.size 44 #[.int .i64 kd, .int .i64 lk, .slice sa sn sc] ∧ Below w.heap.size w W1 ∧ AtC W1 w.heap.size 35 #[.slice (some ⟨gx, ox, none⟩) xs.length c1, .slice (some ⟨gy, oy, none⟩) ys.length c2, .slice (some ⟨g2, o2, none⟩) is.length c3, .slice a4 bs.length c4]) := by
      rw [← hW1]
      exact ⟨HJ.out.2.alloc HJ.out.2.size _, AtC.new _ _ _, HBW0.out.1.alloc HBW0.out.1.size _, HBW0.out.2.alloc _⟩
    have CC1 := hide (CC.out W1 HX1.out.1)
    have CL2 := hide (CL1.out W1 HX1.out.2.2.1)
    go_upto_region 8 with fail
    clear hW1 y0 y1 y2 z0 z1 z2 z3
    have z0 : W1.cell? ⟨w.heap.size, 0, none⟩ = some (.slice (some ⟨gx, ox, none⟩) xs.length c1) := HX1.out.2.2.2.cell 0
    have z1 : W1.cell? ⟨w.heap.size, 1, none⟩ = some (.slice (some ⟨gy, oy, none⟩) ys.length c2) := HX1.out.2.2.2.cell 1
    have z2 : W1.cell? ⟨w.heap.size, 2, none⟩ = some (.slice (some ⟨g2, o2, none⟩) is.length c3) := HX1.out.2.2.2.cell 2
    have z3 : W1.cell? ⟨w.heap.size, 3, none⟩ = some (.slice a4 bs.length c4) := HX1.out.2.2.2.cell 3
    go_wp2_with fail
    refine CC1.out.mono ?_
    rintro e w3 ⟨rfl, rfl⟩
    go_wp2_with fail
    refine CL2.out.mono ?_
    rintro e w4 ⟨rfl, B4⟩
    have HB3 := hide (HX1.out.1.trans (B4.mono HX1.out.1.size))
    have HBW := hide (HX1.out.2.2.1.trans (B4.mono HX1.out.2.2.1.size))
    have x1 : w4.cell? ⟨w.heap.size, 1, none⟩ = some (.slice (some ⟨gy, oy, none⟩) ys.length c2) := (HX1.out.2.2.2.over B4).cell 1
    have k0 : w4.cell? ⟨wr.heap.size, 0, none⟩ = some (.int .i64 kd) := (HX1.out.2.1.over B4).cell 0
    have k1 : w4.cell? ⟨wr.heap.size, 1, none⟩ = some (.int .i64 lk) := (HX1.out.2.1.over B4).cell 1
    have ky := HKY.out w4 HBW.out
    clear B4 CC CC1 CL CL1 CL2 z0 z1 z2 z3 HX1 HBW0
    cases r with
    | false =>
      by_cases hk0 : kd = 0
      rotate_left
      · have hkb : (kd != 0) = true := by simp [hk0]
        have HF : Hid (exactS xs ys is bs = false) := hide (exactS_ino hj8 (by rw [HIN.out]; simp [hk0]))
        have HFX : Hid (exactB xs ys is bs = false) := hide (by unfold exactB; rw [HF.out, Bool.and_false])
        go_wp2
        go_ret
        exact ⟨by rw [HFX.out]; rfl, HBW.out⟩

      subst hk0
      cases yb with
      | true =>
        have HF : Hid (exactS xs ys is bs = false) := hide (exactS_ino hj8 (by rw [HIN.out]; simp))
        have HFX : Hid (exactB xs ys is bs = false) := hide (by unfold exactB; rw [HF.out, Bool.and_false])
        go_wp2
        go_ret
        exact ⟨by rw [HFX.out]; rfl, HBW.out⟩

      | false =>
      by_cases hj0 : j = 0
      · have jb : ((j : Int) + 1 == 1) = true := by simp [hj0]
        have jg2 : ¬ ((1 : Int) < (j : Int) + 1) := by omega
        have HJ0 := hide hj0
        clear hj0
        by_cases hl1 : lk = 1
        rotate_left
        · have hlb : (lk != 1) = true := by simp [hl1]
          have HF : Hid (exactS xs ys is bs = false) := hide (exactS_ino hj8 (by rw [HIN.out]; simp [HJ0.out, hl1]))
          have HFX : Hid (exactB xs ys is bs = false) := hide (by unfold exactB; rw [HF.out, Bool.and_false])
          go_wp2
          go_ret
          exact ⟨by rw [HFX.out]; rfl, HBW.out⟩

        subst hl1
        by_cases hn0 : ln = 0
        rotate_left
        · have hnb : ((ln : Int) != 0) = true := by simp; omega
          have HF : Hid (exactS xs ys is bs = false) := hide (exactS_ino hj8 (by rw [HIN.out]; simp [HJ0.out, hn0]))
          have HFX : Hid (exactB xs ys is bs = false) := hide (by unfold exactB; rw [HF.out, Bool.and_false])
          go_wp2
          go_ret
          exact ⟨by rw [HFX.out]; rfl, HBW.out⟩

        subst hn0
        have HNX : Hid (inoS ys is bs j = true) := hide (by rw [HIN.out]; simp [HJ0.out])
        go_wp2
        go_roundw
        case rel => exact ⟨j + 1, by omega, by go_num, (fun k hk => by by_cases e : k = j; rw [e]; exact HNX.out; exact HJ.out.1 k (by omega)), HB3.out⟩
        case measure => simp [intOf]; omega

      · have ji : ¬ ((j : Int) + 1 = 1) := by omega
        have jb : ((j : Int) + 1 == 1) = false := by simp; omega
        have jg : decide ((j : Int) + 1 > 1) = true := by simp; omega
        have jg2 : (1 : Int) < (j : Int) + 1 := by omega
        have HNX : Hid (inoS ys is bs j = true) := hide (by rw [HIN.out]; simp [hj0])
        go_wp2
        go_roundw
        case rel => exact ⟨j + 1, by omega, by go_num, (fun k hk => by by_cases e : k = j; rw [e]; exact HNX.out; exact HJ.out.1 k (by omega)), HB3.out⟩
        case measure => simp [intOf]; omega

    | true =>
      cases yb with
      | false =>
        have HF : Hid (exactS xs ys is bs = false) := hide (exactS_ino hj8 (by rw [HIN.out]; simp))
        have HFX : Hid (exactB xs ys is bs = false) := hide (by unfold exactB; rw [HF.out, Bool.and_false])
        go_wp2
        go_ret
        exact ⟨by rw [HFX.out]; rfl, HBW.out⟩

      | true =>
      by_cases hj0 : j = 0
      · have jb : ((j : Int) + 1 == 1) = true := by simp [hj0]
        have jg2 : ¬ ((1 : Int) < (j : Int) + 1) := by omega
        have HJ0 := hide hj0
        clear hj0
        by_cases hl1 : lk = 1
        rotate_left
        · have hlb : (lk != 1) = true := by simp [hl1]
          have HF : Hid (exactS xs ys is bs = false) := hide (exactS_ino hj8 (by rw [HIN.out]; simp [HJ0.out, hl1]))
          have HFX : Hid (exactB xs ys is bs = false) := hide (by unfold exactB; rw [HF.out, Bool.and_false])
          go_wp2
          go_ret
          exact ⟨by rw [HFX.out]; rfl, HBW.out⟩

        subst hl1
        by_cases hn0 : ln = 0
        rotate_left
        · have hnb : ((ln : Int) != 0) = true := by simp; omega
          have HF : Hid (exactS xs ys is bs = false) := hide (exactS_ino hj8 (by rw [HIN.out]; simp [HJ0.out, hn0]))
          have HFX : Hid (exactB xs ys is bs = false) := hide (by unfold exactB; rw [HF.out, Bool.and_false])
          go_wp2
          go_ret
          exact ⟨by rw [HFX.out]; rfl, HBW.out⟩

        subst hn0
        have HNX : Hid (inoS ys is bs j = true) := hide (by rw [HIN.out]; simp [HJ0.out])
        go_wp2
        go_roundw
        case rel => exact ⟨j + 1, by omega, by go_num, (fun k hk => by by_cases e : k = j; rw [e]; exact HNX.out; exact HJ.out.1 k (by omega)), HB3.out⟩
        case measure => simp [intOf]; omega

      · have ji : ¬ ((j : Int) + 1 = 1) := by omega
        have jb : ((j : Int) + 1 == 1) = false := by simp; omega
        have jg2 : (1 : Int) < (j : Int) + 1 := by omega
        by_cases hll : lk = (ln : Int)
        rotate_left
        · have hlb : (lk != (ln : Int)) = true := by simp [hll]
          have HF : Hid (exactS xs ys is bs = false) := hide (exactS_ino hj8 (by rw [HIN.out]; simp [hj0, hll]))
          have HFX : Hid (exactB xs ys is bs = false) := hide (by unfold exactB; rw [HF.out, Bool.and_false])
          go_wp2
          go_ret
          exact ⟨by rw [HFX.out]; rfl, HBW.out⟩

        subst hll
        by_cases hk2 : kd = 2
        · subst hk2
          by_cases hn1 : ln = 1
          · subst hn1
            have HNX : Hid (inoS ys is bs j = true) := hide (by rw [HIN.out]; simp [hj0])
            go_wp2
            go_roundw
            case rel => exact ⟨j + 1, by omega, by go_num, (fun k hk => by by_cases e : k = j; rw [e]; exact HNX.out; exact HJ.out.1 k (by omega)), HB3.out⟩
            case measure => simp [intOf]; omega

          · have hnb : ((ln : Int) != 1) = true := by simp; omega
            have HF : Hid (exactS xs ys is bs = false) := hide (exactS_ino hj8 (by rw [HIN.out]; simp [hj0, hn1]))
            have HFX : Hid (exactB xs ys is bs = false) := hide (by unfold exactB; rw [HF.out, Bool.and_false])
            go_wp2
            go_ret
            exact ⟨by rw [HFX.out]; rfl, HBW.out⟩

        · have hkb : (kd == 2) = false := by simp [hk2]
          have HNX : Hid (inoS ys is bs j = true) := hide (by rw [HIN.out]; simp [hj0, hk2])
          go_wp2
          go_roundw
          case rel => exact ⟨j + 1, by omega, by go_num, (fun k hk => by by_cases e : k = j; rw [e]; exact HNX.out; exact HJ.out.1 k (by omega)), HB3.out⟩
          case measure => simp [intOf]; omega

end Go.Proofs.YtljooldjcefkoaaGreat
