/- Texts of the proof, bundled: Qs. -/
import Derived.Deep.RegionHeld3
import Derived.Test.YtljooldjcefkoaaGreatU04
/- laws.eqInodeS, laws.eqBlockS and laws.eqDisk of the same parts, by their contracts. -/
namespace Go.Proofs.YtljooldjcefkoaaGreat
open Go.RowKit Kit
set_option maxRecDepth 100000 in
set_option maxHeartbeats 1600000 in
theorem eqInoS_same (va vb : Value) (l : List Ino) (w : World) (ha : R3 KI w va l) (hb : R3 KI w vb l) (hl : l.length ≤ 1048576) (hp : ∀ (j : Nat) (h : j < l.length), l[j].2.2.length ≤ 1048576) :
    Calls Tryz.prog 32 #[va, vb] w fun e w' => e = .returned (.bool true) ∧ Below w.heap.size w w' := by
  obtain ⟨a1, c1, rfl, -, ha'⟩ := ha.ino
  obtain ⟨a2, c2, rfl, -, hb'⟩ := hb.ino
  have HA := hide ha'
  have HB := hide hb'
  have HP := hide hp
  clear ha hb hp ha' hb'
  go_enter Tryz.func32, Tryz.ntmps32
  go_wp2
  go_loopw [5] (fun i wr => ∃ j : Nat, j ≤ l.length ∧ i = .int .i64 j ∧ Below w.heap.size w wr) (fun i _ => l.length - (intOf i).toNat)
  case atStart => exact ⟨0, Nat.zero_le _, rfl, Below.refl _ _⟩
  case round =>
    obtain ⟨j, hj, rfl, hb⟩ := hrel
    by_cases hlt : j < l.length
    · obtain ⟨g1, o1, p1, rfl, hg1, m1, m2, m3, hr1⟩ := HA.out j hlt
      obtain ⟨g2, o2, p2, rfl, hg2, n1, n2, n3, hr2⟩ := HB.out j hlt
      have hpl := HP.out j hlt
      obtain ⟨x, hx⟩ : ∃ x, l[j] = x := ⟨_, rfl⟩
      obtain ⟨y, s, z⟩ := x
      rw [hx] at m1 m2 n1 n2 hr1 hr2 hpl
      obtain ⟨pa, pc, rfl⟩ := hr1.form
      obtain ⟨pb, pd, rfl⟩ := hr2.form
      simp only at m1 m2 m3 n1 n2 n3 hr1 hr2 hpl
      have HS : Hid (∀ w', Below w.heap.size w w' → w'.cell? ⟨g1, o1 + j * 3, none⟩ = some (.int .i64 y) ∧ w'.cell? ⟨g1, o1 + j * 3 + 1, none⟩ = some (.int .i64 s) ∧ w'.cell? ⟨g1, o1 + j * 3 + 2, none⟩ = some (.slice pa z.length pc) ∧ w'.cell? ⟨g2, o2 + j * 3, none⟩ = some (.int .i64 y) ∧ w'.cell? ⟨g2, o2 + j * 3 + 1, none⟩ = some (.int .i64 s) ∧ w'.cell? ⟨g2, o2 + j * 3 + 2, none⟩ = some (.slice pb z.length pd)) := fun w' hb =>
        ⟨(hb.cell (p := ⟨g1, o1 + j * 3, none⟩) hg1).trans m1, (hb.cell (p := ⟨g1, o1 + j * 3 + 1, none⟩) hg1).trans m2, (hb.cell (p := ⟨g1, o1 + j * 3 + 2, none⟩) hg1).trans m3, (hb.cell (p := ⟨g2, o2 + j * 3, none⟩) hg2).trans n1, (hb.cell (p := ⟨g2, o2 + j * 3 + 1, none⟩) hg2).trans n2, (hb.cell (p := ⟨g2, o2 + j * 3 + 2, none⟩) hg2).trans n3⟩
      have HR : Hid (∀ w', Below w.heap.size w w' → RInts w' (.slice pa z.length pc) z ∧ RInts w' (.slice pb z.length pd) z) := fun w' hb => ⟨hr1.below hb (Nat.le_refl _), hr2.below hb (Nat.le_refl _)⟩
      have HPL : Hid (z.length ≤ 1000000000) := Nat.le_trans hpl (by decide)
      clear hx m1 m2 m3 n1 n2 n3 hr1 hr2 hpl
      obtain ⟨r1, r2, r3, r4, r5, r6⟩ := HS.out _ hb
      have j0 : (0 : Int) ≤ (j : Int) := by omega
      have j1 : (j : Int) < (l.length : Int) := by omega
      have hsz := hb.size
      have HBB := hide hb
      clear hb
      go_wp2_with fail
      go_region_held3 (fun w' => w'.cell? ⟨g1, o1 + j * 3, none⟩ = some (.int .i64 y) ∧ w'.cell? ⟨g1, o1 + j * 3 + 1, none⟩ = some (.int .i64 s) ∧ w'.cell? ⟨g1, o1 + j * 3 + 2, none⟩ = some (.slice pa z.length pc) ∧ w'.cell? ⟨g2, o2 + j * 3, none⟩ = some (.int .i64 y) ∧ w'.cell? ⟨g2, o2 + j * 3 + 1, none⟩ = some (.int .i64 s) ∧ w'.cell? ⟨g2, o2 + j * 3 + 2, none⟩ = some (.slice pb z.length pd)) (first | exact HS.out _ HBB.out.drew | exact HS.out _ (HBB.out.trans ((of_drew B6).mono hsz))) ((go_at_call 76; refine (eqN_sameI _ _ _ _ z _ (HR.out _ HBB.out.drew).1 (HR.out _ HBB.out.drew).2 HPL.out).mono ?_; rintro e w6 ⟨rfl, B6⟩))
      have HB2 := hide (HBB.out.trans ((of_drew B6).mono hsz))
      clear B6
      go_wp2
      go_roundw
      case rel => exact ⟨j + 1, by omega, by go_num, HB2.out⟩
      case measure => simp [intOf]; omega
    · have HBB := hide hb
      clear hb
      go_wp2
      go_ret
      exact ⟨rfl, HBB.out⟩
set_option maxRecDepth 100000 in
set_option maxHeartbeats 1600000 in
theorem eqBlkS_same (va vb : Value) (l : List Blk) (w : World) (ha : R3 KB w va l) (hb : R3 KB w vb l) (hl : l.length ≤ 1048576) (hp : ∀ (j : Nat) (h : j < l.length), l[j].2.1.length ≤ 1048576) :
    Calls Tryz.prog 33 #[va, vb] w fun e w' => e = .returned (.bool true) ∧ Below w.heap.size w w' := by
  obtain ⟨a1, c1, rfl, -, ha'⟩ := ha.blk
  obtain ⟨a2, c2, rfl, -, hb'⟩ := hb.blk
  have HA := hide ha'
  have HB := hide hb'
  have HP := hide hp
  clear ha hb hp ha' hb'
  go_enter Tryz.func33, Tryz.ntmps33
  go_wp2
  go_loopw [5] (fun i wr => ∃ j : Nat, j ≤ l.length ∧ i = .int .i64 j ∧ Below w.heap.size w wr) (fun i _ => l.length - (intOf i).toNat)
  case atStart => exact ⟨0, Nat.zero_le _, rfl, Below.refl _ _⟩
  case round =>
    obtain ⟨j, hj, rfl, hb⟩ := hrel
    by_cases hlt : j < l.length
    · obtain ⟨g1, o1, p1, rfl, hg1, m1, m2, m3, hr1⟩ := HA.out j hlt
      obtain ⟨g2, o2, p2, rfl, hg2, n1, n2, n3, hr2⟩ := HB.out j hlt
      have hpl := HP.out j hlt
      obtain ⟨x, hx⟩ : ∃ x, l[j] = x := ⟨_, rfl⟩
      obtain ⟨y, s, z⟩ := x
      rw [hx] at m1 m3 n1 n3 hr1 hr2 hpl
      obtain ⟨pa, pc, rfl⟩ := hr1.form
      obtain ⟨pb, pd, rfl⟩ := hr2.form
      simp only at m1 m2 m3 n1 n2 n3 hr1 hr2 hpl
      have HS : Hid (∀ w', Below w.heap.size w w' → w'.cell? ⟨g1, o1 + j * 3, none⟩ = some (.bool y) ∧ w'.cell? ⟨g1, o1 + j * 3 + 1, none⟩ = some (.slice pa s.length pc) ∧ w'.cell? ⟨g1, o1 + j * 3 + 2, none⟩ = some (.string z) ∧ w'.cell? ⟨g2, o2 + j * 3, none⟩ = some (.bool y) ∧ w'.cell? ⟨g2, o2 + j * 3 + 1, none⟩ = some (.slice pb s.length pd) ∧ w'.cell? ⟨g2, o2 + j * 3 + 2, none⟩ = some (.string z)) := fun w' hb =>
        ⟨(hb.cell (p := ⟨g1, o1 + j * 3, none⟩) hg1).trans m1, (hb.cell (p := ⟨g1, o1 + j * 3 + 1, none⟩) hg1).trans m2, (hb.cell (p := ⟨g1, o1 + j * 3 + 2, none⟩) hg1).trans m3, (hb.cell (p := ⟨g2, o2 + j * 3, none⟩) hg2).trans n1, (hb.cell (p := ⟨g2, o2 + j * 3 + 1, none⟩) hg2).trans n2, (hb.cell (p := ⟨g2, o2 + j * 3 + 2, none⟩) hg2).trans n3⟩
      have HR : Hid (∀ w', Below w.heap.size w w' → RSl w' (.slice pa s.length pc) s ∧ RSl w' (.slice pb s.length pd) s) := fun w' hb => ⟨hr1.below hb (Nat.le_refl _), hr2.below hb (Nat.le_refl _)⟩
      have HPL := hide hpl
      clear hx m1 m2 m3 n1 n2 n3 hr1 hr2 hpl
      obtain ⟨r1, r2, r3, r4, r5, r6⟩ := HS.out _ hb
      have j0 : (0 : Int) ≤ (j : Int) := by omega
      have j1 : (j : Int) < (l.length : Int) := by omega
      have hsz := hb.size
      have HBB := hide hb
      clear hb
      go_wp2_with fail
      go_region_held3 (fun w' => w'.cell? ⟨g1, o1 + j * 3, none⟩ = some (.bool y) ∧ w'.cell? ⟨g1, o1 + j * 3 + 1, none⟩ = some (.slice pa s.length pc) ∧ w'.cell? ⟨g1, o1 + j * 3 + 2, none⟩ = some (.string z) ∧ w'.cell? ⟨g2, o2 + j * 3, none⟩ = some (.bool y) ∧ w'.cell? ⟨g2, o2 + j * 3 + 1, none⟩ = some (.slice pb s.length pd) ∧ w'.cell? ⟨g2, o2 + j * 3 + 2, none⟩ = some (.string z)) (first | exact HS.out _ HBB.out.drew | exact HS.out _ (HBB.out.trans ((of_drew B6).mono hsz))) ((go_at_call 77; refine (eqB_sameK _ _ _ _ s _ (HR.out _ HBB.out.drew).1 (HR.out _ HBB.out.drew).2 HPL.out).mono ?_; rintro e w6 ⟨rfl, B6⟩))
      have HB2 := hide (HBB.out.trans ((of_drew B6).mono hsz))
      clear B6
      go_wp2
      go_roundw
      case rel => exact ⟨j + 1, by omega, by go_num, HB2.out⟩
      case measure => simp [intOf]; omega
    · have HBB := hide hb
      clear hb
      go_wp2
      go_ret
      exact ⟨rfl, HBB.out⟩
set_option maxRecDepth 100000 in
set_option maxHeartbeats 1600000 in
theorem eqDisk_same (u v iv bv u' v' i' b' : Value) (xs ys : List Bool) (is : List Ino) (bs : List Blk) (w : World) (h : DR w u v iv bv xs ys is bs) (h' : DR w u' v' i' b' xs ys is bs) (hB : Big 1048576 xs ys is bs) :
    Calls Tryz.prog 9 #[.agg #[u, v, iv, bv], .agg #[u', v', i', b']] w fun e w' => e = .returned (.bool true) ∧ Below w.heap.size w w' := by
  have H := hide h
  have H' := hide h'
  have HG := hide hB
  obtain ⟨a1, c1, a2, c2, a3, c3, a4, c4, rfl, rfl, rfl, rfl⟩ := h.form
  obtain ⟨d1, k1, d2, k2, d3, k3, d4, k4, rfl, rfl, rfl, rfl⟩ := h'.form
  clear h hB h'
  go_enter Tryz.func9, Tryz.ntmps9
  go_wp2_with fail
  refine (eqN_sameB _ _ _ _ xs ys _ ((H.out.a.alloc _).alloc _) ((H.out.b.alloc _).alloc _) ((H'.out.a.alloc _).alloc _) ((H'.out.b.alloc _).alloc _) (Nat.le_trans HG.out.x (by decide)) (Nat.le_trans HG.out.y (by decide))).mono ?_
  rintro e w1 ⟨rfl, B1⟩
  have BW : Below w.heap.size w w1 := (((Below.refl _ w).alloc (Nat.le_refl _) _).alloc (by simp) _).trans (B1.mono (by simp; omega))
  have K0 : AtC w1 w.heap.size 35 #[.slice a1 xs.length c1, .slice a2 ys.length c2, .slice a3 is.length c3, .slice a4 bs.length c4] := ((AtC.new w 35 _).alloc _).over B1
  have K1 : AtC w1 (w.heap.size + 1) 35 #[.slice d1 xs.length k1, .slice d2 ys.length k2, .slice d3 is.length k3, .slice d4 bs.length k4] := by
    have := (AtC.new (w.alloc (Obj.cells #[.slice a1 xs.length c1, .slice a2 ys.length c2, .slice a3 is.length c3, .slice a4 bs.length c4] 35)) 35 #[.slice d1 xs.length k1, .slice d2 ys.length k2, .slice d3 is.length k3, .slice d4 bs.length k4]).over B1
    simpa using this
  have p2 : w1.cell? ⟨w.heap.size, 2, none⟩ = some (.slice a3 is.length c3) := K0.cell 2
  have q2 : w1.cell? ⟨w.heap.size + 1, 2, none⟩ = some (.slice d3 is.length k3) := K1.cell 2
  have HBW := hide BW
  have HK0 := hide K0
  have HK1 := hide K1
  clear B1 BW K0 K1
  go_wp2_with fail
  refine (eqInoS_same _ _ is _ (H.out.i.below HBW.out (Nat.le_refl _)) (H'.out.i.below HBW.out (Nat.le_refl _)) HG.out.i HG.out.p).mono ?_
  rintro e w2 ⟨rfl, B2⟩
  have BW2 := HBW.out.trans (B2.mono HBW.out.size)
  have K0 := HK0.out.over B2
  have K1 := HK1.out.over B2
  have p3 : w2.cell? ⟨w.heap.size, 3, none⟩ = some (.slice a4 bs.length c4) := K0.cell 3
  have q3 : w2.cell? ⟨w.heap.size + 1, 3, none⟩ = some (.slice d4 bs.length k4) := K1.cell 3
  have HBW2 := hide BW2
  clear B2 BW2 K0 K1 HBW
  go_wp2_with fail
  refine (eqBlkS_same _ _ bs _ (H.out.k.below HBW2.out (Nat.le_refl _)) (H'.out.k.below HBW2.out (Nat.le_refl _)) HG.out.b (fun j hj => (HG.out.s j hj).1)).mono ?_
  rintro e w3 ⟨rfl, B3⟩
  have HBW3 := hide (HBW2.out.trans (B3.mono HBW2.out.size))
  clear B3
  go_wp2
  go_ret
  exact ⟨rfl, HBW3.out⟩
end Go.Proofs.YtljooldjcefkoaaGreat
