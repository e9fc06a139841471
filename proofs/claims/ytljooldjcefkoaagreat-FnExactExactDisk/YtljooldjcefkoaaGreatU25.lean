/- Texts of the proof, bundled: Qs, LawExactDisk. -/
import Derived.Deep.RegionHeld3
import Derived.Test.YtljooldjcefkoaaGreatU04
import Derived.Test.YtljooldjcefkoaaGreatU20
import Derived.Test.YtljooldjcefkoaaGreatU24
/- laws.eqInodeS, laws.eqBlockS and laws.eqDisk of the same parts, by their contracts. -/
namespace Go.Proofs.YtljooldjcefkoaaGreat
open Go.RowKit Kit
set_option maxRecDepth 100000 in
set_option maxHeartbeats 1600000 in
theorem eqInoS_same (va vb : Value) (l : List Ino) (w : World) (ha : R3 KI w va l) (hb : R3 KI w vb l) (hl : l.length ≤ 1048576) (hp : ∀ (j : Nat) (h : j < l.length), l[j].2.2.length ≤ 1048576) :
    Calls Tryz.prog 32 #[va, vb] w fun e w' => e = .returned (.bool true) ∧ Below w.heap.size w w' := by
  obtain ⟨a1, c1, rfl, -, ha'⟩ := ha.ino
  obtain ⟨a2, c2, rfl, -, hb'⟩ := hb.ino
  have HA := hide ha'
  have HB := hide hb'
  have HP := hide hp
  clear ha hb hp ha' hb'
  go_enter Tryz.func32, Tryz.ntmps32
  go_wp2
  go_loopw [5] (fun i wr => ∃ j : Nat, j ≤ l.length ∧ i = .int .i64 j ∧ Below w.heap.size w wr) (fun i _ => l.length - (intOf i).toNat)
  case atStart => exact ⟨0, Nat.zero_le _, rfl, Below.refl _ _⟩
  case round =>
    obtain ⟨j, hj, rfl, hb⟩ := hrel
    by_cases hlt : j < l.length
    · obtain ⟨g1, o1, p1, rfl, hg1, m1, m2, m3, hr1⟩ := HA.out j hlt
      obtain ⟨g2, o2, p2, rfl, hg2, n1, n2, n3, hr2⟩ := HB.out j hlt
      have hpl := HP.out j hlt
      obtain ⟨x, hx⟩ : ∃ x, l[j] = x := ⟨_, rfl⟩
      obtain ⟨y, s, z⟩ := x
      rw [hx] at m1 m2 n1 n2 hr1 hr2 hpl
      obtain ⟨pa, pc, rfl⟩ := hr1.form
      obtain ⟨pb, pd, rfl⟩ := hr2.form
      simp only at m1 m2 m3 n1 n2 n3 hr1 hr2 hpl
      have HS : Hid (∀ w', Below w.heap.size w w' → w'.cell? ⟨g1, o1 + j * 3, none⟩ = some (.int .i64 y) ∧ w'.cell? ⟨g1, o1 + j * 3 + 1, none⟩ = some (.int .i64 s) ∧ w'.cell? ⟨g1, o1 + j * 3 + 2, none⟩ = some (.slice pa z.length pc) ∧ w'.cell? ⟨g2, o2 + j * 3, none⟩ = some (.int .i64 y) ∧ w'.cell? ⟨g2, o2 + j * 3 + 1, none⟩ = some (.int .i64 s) ∧ w'.cell? ⟨g2, o2 + j * 3 + 2, none⟩ = some (.slice pb z.length pd)) := fun w' hb =>
        ⟨(hb.cell (p := ⟨g1, o1 + j * 3, none⟩) hg1).trans m1, (hb.cell (p := ⟨g1, o1 + j * 3 + 1, none⟩) hg1).trans m2, (hb.cell (p := ⟨g1, o1 + j * 3 + 2, none⟩) hg1).trans m3, (hb.cell (p := ⟨g2, o2 + j * 3, none⟩) hg2).trans n1, (hb.cell (p := ⟨g2, o2 + j * 3 + 1, none⟩) hg2).trans n2, (hb.cell (p := ⟨g2, o2 + j * 3 + 2, none⟩) hg2).trans n3⟩
      have HR : Hid (∀ w', Below w.heap.size w w' → RInts w' (.slice pa z.length pc) z ∧ RInts w' (.slice pb z.length pd) z) := fun w' hb => ⟨hr1.below hb (Nat.le_refl _), hr2.below hb (Nat.le_refl _)⟩
      have HPL : Hid (z.length ≤ 1000000000) := Nat.le_trans hpl (by decide)
      clear hx m1 m2 m3 n1 n2 n3 hr1 hr2 hpl
      obtain ⟨r1, r2, r3, r4, r5, r6⟩ := HS.out _ hb
      have j0 : (0 : Int) ≤ (j : Int) := by omega
      have j1 : (j : Int) < (l.length : Int) := by omega
      have hsz := hb.size
      have HBB := hide hb
      clear hb
      go_wp2_with fail
      go_region_held3 (fun w' => w'.cell? ⟨g1, o1 + j * 3, none⟩ = some (.int .i64 y) ∧ w'.cell? ⟨g1, o1 + j * 3 + 1, none⟩ = some (.int .i64 s) ∧ w'.cell? ⟨g1, o1 + j * 3 + 2, none⟩ = some (.slice pa z.length pc) ∧ w'.cell? ⟨g2, o2 + j * 3, none⟩ = some (.int .i64 y) ∧ w'.cell? ⟨g2, o2 + j * 3 + 1, none⟩ = some (.int .i64 s) ∧ w'.cell? ⟨g2, o2 + j * 3 + 2, none⟩ = some (.slice pb z.length pd)) (first | exact HS.out _ HBB.out.drew | exact HS.out _ (HBB.out.trans ((of_drew B6).mono hsz))) ((go_at_call 76; refine (eqN_sameI _ _ _ _ z _ (HR.out _ HBB.out.drew).1 (HR.out _ HBB.out.drew).2 HPL.out).mono ?_; rintro e w6 ⟨rfl, B6⟩))
      have HB2 := hide (HBB.out.trans ((of_drew B6).mono hsz))
      clear B6
      go_wp2
      go_roundw
      case rel => exact ⟨j + 1, by omega, by go_num, HB2.out⟩
      case measure => simp [intOf]; omega
    · have HBB := hide hb
      clear hb
      go_wp2
      go_ret
      exact ⟨rfl, HBB.out⟩
set_option maxRecDepth 100000 in
set_option maxHeartbeats 1600000 in
theorem eqBlkS_same (va vb : Value) (l : List Blk) (w : World) (ha : R3 KB w va l) (hb : R3 KB w vb l) (hl : l.length ≤ 1048576) (hp : ∀ (j : Nat) (h : j < l.length), l[j].2.1.length ≤ 1048576) :
    Calls Tryz.prog 33 #[va, vb] w fun e w' => e = .returned (.bool true) ∧ Below w.heap.size w w' := by
  obtain ⟨a1, c1, rfl, -, ha'⟩ := ha.blk
  obtain ⟨a2, c2, rfl, -, hb'⟩ := hb.blk
  have HA := hide ha'
  have HB := hide hb'
  have HP := hide hp
  clear ha hb hp ha' hb'
  go_enter Tryz.func33, Tryz.ntmps33
  go_wp2
  go_loopw [5] (fun i wr => ∃ j : Nat, j ≤ l.length ∧ i = .int .i64 j ∧ Below w.heap.size w wr) (fun i _ => l.length - (intOf i).toNat)
  case atStart => exact ⟨0, Nat.zero_le _, rfl, Below.refl _ _⟩
  case round =>
    obtain ⟨j, hj, rfl, hb⟩ := hrel
    by_cases hlt : j < l.length
    · obtain ⟨g1, o1, p1, rfl, hg1, m1, m2, m3, hr1⟩ := HA.out j hlt
      obtain ⟨g2, o2, p2, rfl, hg2, n1, n2, n3, hr2⟩ := HB.out j hlt
      have hpl := HP.out j hlt
      obtain ⟨x, hx⟩ : ∃ x, l[j] = x := ⟨_, rfl⟩
      obtain ⟨y, s, z⟩ := x
      rw [hx] at m1 m3 n1 n3 hr1 hr2 hpl
      obtain ⟨pa, pc, rfl⟩ := hr1.form
      obtain ⟨pb, pd, rfl⟩ := hr2.form
      simp only at m1 m2 m3 n1 n2 n3 hr1 hr2 hpl
      have HS : Hid (∀ w', Below w.heap.size w w' → w'.cell? ⟨g1, o1 + j * 3, none⟩ = some (.bool y) ∧ w'.cell? ⟨g1, o1 + j * 3 + 1, none⟩ = some (.slice pa s.length pc) ∧ w'.cell? ⟨g1, o1 + j * 3 + 2, none⟩ = some (.string z) ∧ w'.cell? ⟨g2, o2 + j * 3, none⟩ = some (.bool y) ∧ w'.cell? ⟨g2, o2 + j * 3 + 1, none⟩ = some (.slice pb s.length pd) ∧ w'.cell? ⟨g2, o2 + j * 3 + 2, none⟩ = some (.string z)) := fun w' hb =>
        ⟨(hb.cell (p := ⟨g1, o1 + j * 3, none⟩) hg1).trans m1, (hb.cell (p := ⟨g1, o1 + j * 3 + 1, none⟩) hg1).trans m2, (hb.cell (p := ⟨g1, o1 + j * 3 + 2, none⟩) hg1).trans m3, (hb.cell (p := ⟨g2, o2 + j * 3, none⟩) hg2).trans n1, (hb.cell (p := ⟨g2, o2 + j * 3 + 1, none⟩) hg2).trans n2, (hb.cell (p := ⟨g2, o2 + j * 3 + 2, none⟩) hg2).trans n3⟩
      have HR : Hid (∀ w', Below w.heap.size w w' → RSl w' (.slice pa s.length pc) s ∧ RSl w' (.slice pb s.length pd) s) := fun w' hb => ⟨hr1.below hb (Nat.le_refl _), hr2.below hb (Nat.le_refl _)⟩
      have HPL := hide hpl
      clear hx m1 m2 m3 n1 n2 n3 hr1 hr2 hpl
      obtain ⟨r1, r2, r3, r4, r5, r6⟩ := HS.out _ hb
      have j0 : (0 : Int) ≤ (j : Int) := by omega
      have j1 : (j : Int) < (l.length : Int) := by omega
      have hsz := hb.size
      have HBB := hide hb
      clear hb
      go_wp2_with fail
      go_region_held3 (fun w' => w'.cell? ⟨g1, o1 + j * 3, none⟩ = some (.bool y) ∧ w'.cell? ⟨g1, o1 + j * 3 + 1, none⟩ = some (.slice pa s.length pc) ∧ w'.cell? ⟨g1, o1 + j * 3 + 2, none⟩ = some (.string z) ∧ w'.cell? ⟨g2, o2 + j * 3, none⟩ = some (.bool y) ∧ w'.cell? ⟨g2, o2 + j * 3 + 1, none⟩ = some (.slice pb s.length pd) ∧ w'.cell? ⟨g2, o2 + j * 3 + 2, none⟩ = some (.string z)) (first | exact HS.out _ HBB.out.drew | exact HS.out _ (HBB.out.trans ((of_drew B6).mono hsz))) ((go_at_call 77; refine (eqB_sameK _ _ _ _ s _ (HR.out _ HBB.out.drew).1 (HR.out _ HBB.out.drew).2 HPL.out).mono ?_; rintro e w6 ⟨rfl, B6⟩))
      have HB2 := hide (HBB.out.trans ((of_drew B6).mono hsz))
      clear B6
      go_wp2
      go_roundw
      case rel => exact ⟨j + 1, by omega, by go_num, HB2.out⟩
      case measure => simp [intOf]; omega
    · have HBB := hide hb
      clear hb
      go_wp2
      go_ret
      exact ⟨rfl, HBB.out⟩
set_option maxRecDepth 100000 in
set_option maxHeartbeats 1600000 in
theorem eqDisk_same (u v iv bv u' v' i' b' : Value) (xs ys : List Bool) (is : List Ino) (bs : List Blk) (w : World) (h : DR w u v iv bv xs ys is bs) (h' : DR w u' v' i' b' xs ys is bs) (hB : Big 1048576 xs ys is bs) :
    Calls Tryz.prog 9 #[.agg #[u, v, iv, bv], .agg #[u', v', i', b']] w fun e w' => e = .returned (.bool true) ∧ Below w.heap.size w w' := by
  have H := hide h
  have H' := hide h'
  have HG := hide hB
  obtain ⟨a1, c1, a2, c2, a3, c3, a4, c4, rfl, rfl, rfl, rfl⟩ := h.form
  obtain ⟨d1, k1, d2, k2, d3, k3, d4, k4, rfl, rfl, rfl, rfl⟩ := h'.form
  clear h hB h'
  go_enter Tryz.func9, Tryz.ntmps9
  go_wp2_with fail
  refine (eqN_sameB _ _ _ _ xs ys _ ((H.out.a.alloc _).alloc _) ((H.out.b.alloc _).alloc _) ((H'.out.a.alloc _).alloc _) ((H'.out.b.alloc _).alloc _) (Nat.le_trans HG.out.x (by decide)) (Nat.le_trans HG.out.y (by decide))).mono ?_
  rintro e w1 ⟨rfl, B1⟩
  have BW : Below w.heap.size w w1 := (((Below.refl _ w).alloc (Nat.le_refl _) _).alloc (by simp) _).trans (B1.mono (by simp; omega))
  have K0 : AtC w1 w.heap.size 35 #[.slice a1 xs.length c1, .slice a2 ys.length c2, .slice a3 is.length c3, .slice a4 bs.length c4] := ((AtC.new w 35 _).alloc _).over B1
  have K1 : AtC w1 (w.heap.size + 1) 35 #[.slice d1 xs.length k1, .slice d2 ys.length k2, .slice d3 is.length k3, .slice d4 bs.length k4] := by
    have := (AtC.new (w.alloc (Obj.cells #[.slice a1 xs.length c1, .slice a2 ys.length c2, .slice a3 is.length c3, .slice a4 bs.length c4] 35)) 35 #[.slice d1 xs.length k1, .slice d2 ys.length k2, .slice d3 is.length k3, .slice d4 bs.length k4]).over B1
    simpa using this
  have p2 : w1.cell? ⟨w.heap.size, 2, none⟩ = some (.slice a3 is.length c3) := K0.cell 2
  have q2 : w1.cell? ⟨w.heap.size + 1, 2, none⟩ = some (.slice d3 is.length k3) := K1.cell 2
  have HBW := hide BW
  have HK0 := hide K0
  have HK1 := hide K1
  clear B1 BW K0 K1
  go_wp2_with fail
  refine (eqInoS_same _ _ is _ (H.out.i.below HBW.out (Nat.le_refl _)) (H'.out.i.below HBW.out (Nat.le_refl _)) HG.out.i HG.out.p).mono ?_
  rintro e w2 ⟨rfl, B2⟩
  have BW2 := HBW.out.trans (B2.mono HBW.out.size)
  have K0 := HK0.out.over B2
  have K1 := HK1.out.over B2
  have p3 : w2.cell? ⟨w.heap.size, 3, none⟩ = some (.slice a4 bs.length c4) := K0.cell 3
  have q3 : w2.cell? ⟨w.heap.size + 1, 3, none⟩ = some (.slice d4 bs.length k4) := K1.cell 3
  have HBW2 := hide BW2
  clear B2 BW2 K0 K1 HBW
  go_wp2_with fail
  refine (eqBlkS_same _ _ bs _ (H.out.k.below HBW2.out (Nat.le_refl _)) (H'.out.k.below HBW2.out (Nat.le_refl _)) HG.out.b (fun j hj => (HG.out.s j hj).1)).mono ?_
  rintro e w3 ⟨rfl, B3⟩
  have HBW3 := hide (HBW2.out.trans (B3.mono HBW2.out.size))
  clear B3
  go_wp2
  go_ret
  exact ⟨rfl, HBW3.out⟩
end Go.Proofs.YtljooldjcefkoaaGreat
/- The walk of laws.FnExactExactDisk: it returns true at every disk. -/
namespace Go.Proofs.YtljooldjcefkoaaGreat.fnExactExactDisk
open Go.RowKit Kit
set_option maxRecDepth 100000 in
set_option maxHeartbeats 3200000 in
theorem walk (u v iv bv : Value) (xs ys : List Bool) (is : List Ino) (bs : List Blk) (w : World) (h : DR w u v iv bv xs ys is bs) (hB : Big maxLen xs ys is bs) :
    Calls Tryz.prog 4 #[.agg #[u, v, iv, bv]] w fun e w' => e = .returned (.bool true) ∧ Below w.heap.size w w' := by
  have HV := hide h
  obtain ⟨a1, c1, a2, c2, a3, c3, a4, c4, rfl, rfl, rfl, rfl⟩ := h.form
  obtain ⟨r, hr⟩ : ∃ r, exactB xs ys is bs = r := ⟨_, rfl⟩
  have HR := hide hr
  have HG := hide hB
  clear hr hB h
  go_enter Tryz.func4, Tryz.ntmps4
  go_wp2_with fail
  refine (szDisk_L _ _ _ _ xs ys is bs _ _ (HV.out.alloc _).a (HV.out.alloc _).b (HV.out.alloc _).i (HV.out.alloc _).k (by omega) (by omega) HG.out).mono ?_
  rintro e w1 ⟨left, rfl, hL, B1⟩
  have X1 : AtC w1 w.heap.size 28 #[.slice a1 xs.length c1, .slice a2 ys.length c2, .slice a3 is.length c3, .slice a4 bs.length c4] := (AtC.new w 28 _).over B1
  have V1 := (HV.out.alloc (.cells #[.slice a1 xs.length c1, .slice a2 ys.length c2, .slice a3 is.length c3, .slice a4 bs.length c4] 28)).below B1 (Nat.le_refl _)
  have b1 : Below w.heap.size w w1 := ((Below.refl _ w).alloc (Nat.le_refl _) _).trans (B1.mono (by simp))
  have c0 : w1.cell? ⟨w.heap.size, 0, none⟩ = some (.slice a1 xs.length c1) := X1.cell 0
  have c1' : w1.cell? ⟨w.heap.size, 1, none⟩ = some (.slice a2 ys.length c2) := X1.cell 1
  have c2' : w1.cell? ⟨w.heap.size, 2, none⟩ = some (.slice a3 is.length c3) := X1.cell 2
  have c3' : w1.cell? ⟨w.heap.size, 3, none⟩ = some (.slice a4 bs.length c4) := X1.cell 3
  have H1 := hide (And.intro X1 (And.intro V1 b1))
  have HL := hide hL
  have hL1 : -1 ≤ left := by rcases hL with h | h <;> omega
  clear B1 X1 V1 b1 hL HV HG
  by_cases hneg : left < 0
  · go_wp2
    go_ret
    exact ⟨rfl, H1.out.2.2⟩
  · have HBG := hide (HL.out.resolve_left (by omega)).2.2
    have n1 : decide (left < 0) = false := by simp; omega
    clear HL hneg
    go_wp2_with fail
    refine (toDisk_any _ _ _ _ xs ys is bs w1 H1.out.2.1 HBG.out).mono ?_
    rintro e w2 ⟨u2, v2, i2, k2, rfl, O2, B2⟩
    obtain ⟨s1, t1, s2, t2, s3, t3, s4, t4, rfl, rfl, rfl, rfl⟩ := O2.dr.form
    have X2 := H1.out.1.over B2
    have V2 := H1.out.2.1.below B2 (Nat.le_refl _)
    have b2 := H1.out.2.2.trans (B2.mono H1.out.2.2.size)
    have H2 := hide (And.intro X2 (And.intro V2 b2))
    have R2 := hide O2.dr
    clear B2 X2 V2 b2 O2 H1 c0 c1' c2' c3' n1
    go_wp2_with fail
    refine (specExact_any _ _ _ _ xs ys is bs w2 R2.out HBG.out).mono ?_
    rw [HR.out]
    rintro e w3 ⟨rfl, B3⟩
    have X3 := H2.out.1.over B3
    have V3 := H2.out.2.1.below B3 (Nat.le_refl _)
    have b3 := H2.out.2.2.trans (B3.mono H2.out.2.2.size)
    have c0 : w3.cell? ⟨w.heap.size, 0, none⟩ = some (.slice a1 xs.length c1) := X3.cell 0
    have c1' : w3.cell? ⟨w.heap.size, 1, none⟩ = some (.slice a2 ys.length c2) := X3.cell 1
    have c2' : w3.cell? ⟨w.heap.size, 2, none⟩ = some (.slice a3 is.length c3) := X3.cell 2
    have c3' : w3.cell? ⟨w.heap.size, 3, none⟩ = some (.slice a4 bs.length c4) := X3.cell 3
    have H3 := hide (And.intro X3 (And.intro V3 b3))
    clear B3 X3 V3 b3 H2 R2
    go_wp2_with fail
    refine (toDisk_any _ _ _ _ xs ys is bs w3 H3.out.2.1 HBG.out).mono ?_
    rintro e w4 ⟨u4, v4, i4, k4, rfl, O4, B4⟩
    obtain ⟨d1, f1, d2, f2, d3, f3, d4, f4, rfl, rfl, rfl, rfl⟩ := O4.dr.form
    have X4 := H3.out.1.over B4
    have V4 := H3.out.2.1.below B4 (Nat.le_refl _)
    have b4 := H3.out.2.2.trans (B4.mono H3.out.2.2.size)
    have H4 := hide (And.intro X4 (And.intro V4 b4))
    have R4 := hide O4.dr
    clear B4 X4 V4 b4 O4 H3 c0 c1' c2' c3'
    go_wp2_with fail
    refine (implExact_any _ _ _ _ xs ys is bs _ (R4.out.alloc _) HBG.out).mono ?_
    rw [HR.out]
    rintro e w5 ⟨rfl, B5⟩
    have X5 := (H4.out.1.alloc (.cells #[.slice d1 xs.length f1, .slice d2 ys.length f2, .slice d3 is.length f3, .slice d4 bs.length f4] 35)).over B5
    have Y5 : AtC w5 w4.heap.size 35 #[.slice d1 xs.length f1, .slice d2 ys.length f2, .slice d3 is.length f3, .slice d4 bs.length f4] := (AtC.new w4 35 _).over B5
    have V5 := (H4.out.2.1.alloc (.cells #[.slice d1 xs.length f1, .slice d2 ys.length f2, .slice d3 is.length f3, .slice d4 bs.length f4] 35)).below B5 (Nat.le_refl _)
    have U5 := (R4.out.alloc (.cells #[.slice d1 xs.length f1, .slice d2 ys.length f2, .slice d3 is.length f3, .slice d4 bs.length f4] 35)).below B5 (Nat.le_refl _)
    have b5 := (H4.out.2.2.alloc H4.out.2.2.size (.cells #[.slice d1 xs.length f1, .slice d2 ys.length f2, .slice d3 is.length f3, .slice d4 bs.length f4] 35)).trans (B5.mono (by have := H4.out.2.2.size; simp; omega))
    have HS : Hid (∀ w', Below w5.heap.size w5 w' → w'.cell? ⟨w.heap.size, 0, none⟩ = some (.slice a1 xs.length c1) ∧ w'.cell? ⟨w.heap.size, 1, none⟩ = some (.slice a2 ys.length c2) ∧ w'.cell? ⟨w.heap.size, 2, none⟩ = some (.slice a3 is.length c3) ∧ w'.cell? ⟨w.heap.size, 3, none⟩ = some (.slice a4 bs.length c4) ∧ w'.cell? ⟨w4.heap.size, 0, none⟩ = some (.slice d1 xs.length f1) ∧ w'.cell? ⟨w4.heap.size, 1, none⟩ = some (.slice d2 ys.length f2) ∧ w'.cell? ⟨w4.heap.size, 2, none⟩ = some (.slice d3 is.length f3) ∧ w'.cell? ⟨w4.heap.size, 3, none⟩ = some (.slice d4 bs.length f4)) := fun w' hb =>
      ⟨(X5.over hb).cell 0, (X5.over hb).cell 1, (X5.over hb).cell 2, (X5.over hb).cell 3, (Y5.over hb).cell 0, (Y5.over hb).cell 1, (Y5.over hb).cell 2, (Y5.over hb).cell 3⟩
    obtain ⟨c0, c1', c2', c3', y0, y1, y2, y3⟩ := HS.out _ (Below.refl _ _)
    have H5 := hide (And.intro V5 (And.intro b5 U5))
    clear B5 X5 Y5 V5 U5 b5 H4 R4
    go_wp2
    go_region_held3 (fun w' => w'.cell? ⟨w.heap.size, 0, none⟩ = some (.slice a1 xs.length c1) ∧ w'.cell? ⟨w.heap.size, 1, none⟩ = some (.slice a2 ys.length c2) ∧ w'.cell? ⟨w.heap.size, 2, none⟩ = some (.slice a3 is.length c3) ∧ w'.cell? ⟨w.heap.size, 3, none⟩ = some (.slice a4 bs.length c4) ∧ w'.cell? ⟨w4.heap.size, 0, none⟩ = some (.slice d1 xs.length f1) ∧ w'.cell? ⟨w4.heap.size, 1, none⟩ = some (.slice d2 ys.length f2) ∧ w'.cell? ⟨w4.heap.size, 2, none⟩ = some (.slice d3 is.length f3) ∧ w'.cell? ⟨w4.heap.size, 3, none⟩ = some (.slice d4 bs.length f4)) (first | exact HS.out _ (Below.refl _ _).drew | exact HS.out _ (of_drew B6) | exact HS.out _ ((of_drew B6).trans (B7.mono (of_drew B6).size))) (first | (go_at_call 7; refine (toDisk_any _ _ _ _ xs ys is bs _ H5.out.1.drew HBG.out).mono ?_; rintro e w6 ⟨u6, v6, i6, k6, rfl, O6, B6⟩; obtain ⟨s1, t1, s2, t2, s3, t3, s4, t4, rfl, rfl, rfl, rfl⟩ := O6.dr.form) | (go_at_call 9; refine (eqDisk_same _ _ _ _ _ _ _ _ xs ys is bs _ (H5.out.2.2.below (of_drew B6) (Nat.le_refl _)) O6.dr HBG.out).mono ?_; rintro e w7 ⟨rfl, B7⟩))
    have HB := hide (H5.out.2.1.trans (((of_drew B6).trans (B7.mono (of_drew B6).size)).mono H5.out.2.1.size))
    clear B6 B7 O6
    go_wp2
    go_ret
    exact ⟨rfl, HB.out⟩
end Go.Proofs.YtljooldjcefkoaaGreat.fnExactExactDisk
