
/- Disks that are marked, and held against their marks: laws.markDisk, laws.heldDisk by their contracts. -/
import Derived.Test.YtggjillpfclajaaGreatMl
namespace Go.Proofs.YtggjillpfclajaaGreat
open Go.RowKit Kit
/-- The number behind a marked disk. -/
def cntD (k : Nat) (xs ys : List Bool) (is : List Ino) (bs : List Blk) : Nat := cnt szB (cnt szI (k + xs.length + ys.length) is) bs
/-- A disk of memory of its own, all of whose parts are marked from k on. -/
def DM (w : World) (S : Nat → Prop) (u v iv bv : Value) (k : Nat) (xs ys : List Bool) (is : List Ino) (bs : List Blk) : Prop :=
  DO w S u v iv bv (marksB k xs.length) (marksB (k + xs.length) ys.length) (mkL szI mkI (k + xs.length + ys.length) is) (mkL szB mkB (cnt szI (k + xs.length + ys.length) is) bs)
set_option maxRecDepth 100000 in
set_option maxHeartbeats 1600000 in
theorem markDisk_any (u v iv bv : Value) (xs ys : List Bool) (is : List Ino) (bs : List Blk) (S : Nat → Prop) (k : Nat) (w : World) (h : DO w S u v iv bv xs ys is bs) (hk0 : 1 ≤ k) (hk : cntD k xs ys is bs ≤ 100000000000000) :
    Calls Tryz.prog 38 #[.agg #[u, v, iv, bv], .int .i64 k] w fun e w' => e = .returned (.int .i64 (cntD k xs ys is bs : Nat)) ∧ DM w' S u v iv bv k xs ys is bs ∧ Chg S w w' := by
  have HF := hide h.dr.form
  obtain ⟨S1, S2, S3, ti, tb, hT, hs1, hi, hb, d1, d2, hU⟩ := h
  have hc1 : cnt szI (k + xs.length + ys.length) is ≤ 100000000000000 := Nat.le_trans (cnt_ge _ _) hk
  have hc0 : k + xs.length + ys.length ≤ 100000000000000 := Nat.le_trans (cnt_ge _ _) hc1
  obtain ⟨K1, hK1⟩ : ∃ K, k + xs.length + ys.length = K := ⟨_, rfl⟩
  obtain ⟨K2, hK2⟩ : ∃ K, cnt szI K1 is = K := ⟨_, rfl⟩
  have hg1 : K1 ≤ K2 := by rw [← hK2]; exact cnt_ge _ _
  have hkb : cnt szB K2 bs ≤ 100000000000000 := by rw [← hK2, ← hK1]; exact hk
  have hCD : cntD k xs ys is bs = cnt szB K2 bs := by rw [cntD, hK1, hK2]
  have HDM : Hid (∀ w', DO w' S u v iv bv (marksB k xs.length) (marksB (k + xs.length) ys.length) (mkL szI mkI K1 is) (mkL szB mkB K2 bs) → DM w' S u v iv bv k xs ys is bs) := fun w' hd => by rw [DM, hK1, hK2]; exact hd
  rw [hK1] at hc1 hc0
  rw [hCD]
  have C1 := hide (fun W h => markN_any u v xs ys 0 k W h (by omega) (by omega) (by omega))
  rw [hK1] at C1
  have C2 := hide (fun W h => markInoS_any iv ti is (fun m => S2 m ∧ m < w.heap.size) K1 W h hc1)
  rw [hK2] at C2
  have C3 := hide (fun W h => markBlkS_any bv tb bs (fun m => S3 m ∧ m < w.heap.size) K2 W h (by omega) hkb)
  generalize cnt szB K2 bs = K3 at *
  have HT := hide hT
  have HI := hide hi.bound
  have HB := hide hb.bound
  have HS := hide (And.intro hs1 (And.intro d1 (And.intro d2 hU)))
  have h12 : ∀ m, (u.ownBlock = some m ∨ v.ownBlock = some m) → m < w.heap.size := fun m hm => hm.elim (fun e => (hT.a.lt m e).2) (fun e => (hT.b.lt m e).2)
  have HL := hide h12
  clear hT hi hb hs1 d1 d2 hU h12 hk hkb hCD hK1 hK2
  obtain ⟨a1, c1, a2, c2, a3, c3, a4, c4, rfl, rfl, rfl, rfl⟩ := HF.out
  go_enter Tryz.func38, Tryz.ntmps38
  go_wp2_with fail
  refine (C1.out _ (HT.out.alloc _)).mono ?_
  rintro e w1 ⟨rfl, T1, G1⟩
  have bx1 : AtC w1 w.heap.size 37 #[.slice a1 xs.length c1, .slice a2 ys.length c2, .slice a3 is.length c3, .slice a4 bs.length c4] := (G1.block w.heap.size (by simp) (fun e => Nat.lt_irrefl _ (HL.out _ (.inl e))) (fun e => Nat.lt_irrefl _ (HL.out _ (.inr e)))).trans (AtC.new w 37 _)
  have z1 : w.heap.size + 1 ≤ w1.heap.size := by have := G1.size; simpa using this
  have I1 := (HI.out.alloc (.cells #[.slice a1 xs.length c1, .slice a2 ys.length c2, .slice a3 is.length c3, .slice a4 bs.length c4] 37)).of_heap (w' := w1) fun m hm hlt => G1.block m hlt (fun e => (HS.out.2.1 m (HS.out.1 m (.inl e))).1 hm.1) (fun e => (HS.out.2.1 m (HS.out.1 m (.inr e))).1 hm.1)
  have J1 := (HB.out.alloc (.cells #[.slice a1 xs.length c1, .slice a2 ys.length c2, .slice a3 is.length c3, .slice a4 bs.length c4] 37)).of_heap (w' := w1) fun m hm hlt => G1.block m hlt (fun e => (HS.out.2.1 m (HS.out.1 m (.inl e))).2 hm.1) (fun e => (HS.out.2.1 m (HS.out.1 m (.inr e))).2 hm.1)
  have ch1 : Chg S w w1 := (Chg.of_below ((Below.refl _ w).alloc (Nat.le_refl _) _)).trans (Chg.of_g2 G1 (fun m e => HS.out.2.2.2 m (.inl (HS.out.1 m (.inl e)))) (fun m e => HS.out.2.2.2 m (.inl (HS.out.1 m (.inr e)))))
  have q2 : w1.cell? ⟨w.heap.size, 2, none⟩ = some (.slice a3 is.length c3) := bx1.cell 2
  have H1 := hide (And.intro bx1 (And.intro I1 (And.intro J1 (And.intro ch1 (And.intro z1 T1)))))
  clear bx1 I1 J1 ch1 z1 G1 T1 C1
  go_wp2_with fail
  refine (C2.out _ H1.out.2.1).mono ?_
  rintro e w2 ⟨ti2, rfl, I2, ch2⟩
  have bx2 : AtC w2 w.heap.size 37 #[.slice a1 xs.length c1, .slice a2 ys.length c2, .slice a3 is.length c3, .slice a4 bs.length c4] := (ch2.block w.heap.size (by have := H1.out.2.2.2.2.1; omega) (fun e => Nat.lt_irrefl _ e.2)).trans H1.out.1
  have J2 := H1.out.2.2.1.of_heap (w' := w2) fun m hm hlt => ch2.block m hlt (fun e => HS.out.2.2.1 m e.1 hm.1)
  have T2 : Two w2 0 (.slice a1 xs.length c1) (.slice a2 ys.length c2) (marksB k xs.length) (marksB (k + xs.length) ys.length) :=
    ⟨H1.out.2.2.2.2.2.a.of_heap fun m hm => ch2.block m (H1.out.2.2.2.2.2.a.lt m hm).2 (fun e => (HS.out.2.1 m (HS.out.1 m (.inl hm))).1 e.1), H1.out.2.2.2.2.2.b.of_heap fun m hm => ch2.block m (H1.out.2.2.2.2.2.b.lt m hm).2 (fun e => (HS.out.2.1 m (HS.out.1 m (.inr hm))).1 e.1), H1.out.2.2.2.2.2.ne⟩
  have chg2 : Chg S w w2 := H1.out.2.2.2.1.trans (ch2.mono fun m e => HS.out.2.2.2 m (.inr (.inl e.1)))
  have z2 : w.heap.size + 1 ≤ w2.heap.size := Nat.le_trans H1.out.2.2.2.2.1 ch2.size
  have q3 : w2.cell? ⟨w.heap.size, 3, none⟩ = some (.slice a4 bs.length c4) := bx2.cell 3
  have H2 := hide (And.intro I2 (And.intro J2 (And.intro chg2 (And.intro z2 T2))))
  clear bx2 I2 J2 chg2 z2 T2 ch2 C2 H1
  go_wp2_with fail
  refine (C3.out _ H2.out.2.1).mono ?_
  rintro e w3 ⟨tb2, rfl, J3, ch3⟩
  have I3 := H2.out.1.of_heap (w' := w3) fun m hm hlt => ch3.block m hlt (fun e => HS.out.2.2.1 m hm.1 e.1)
  have T3 : Two w3 0 (.slice a1 xs.length c1) (.slice a2 ys.length c2) (marksB k xs.length) (marksB (k + xs.length) ys.length) :=
    ⟨H2.out.2.2.2.2.a.of_heap fun m hm => ch3.block m (H2.out.2.2.2.2.a.lt m hm).2 (fun e => (HS.out.2.1 m (HS.out.1 m (.inl hm))).2 e.1), H2.out.2.2.2.2.b.of_heap fun m hm => ch3.block m (H2.out.2.2.2.2.b.lt m hm).2 (fun e => (HS.out.2.1 m (HS.out.1 m (.inr hm))).2 e.1), H2.out.2.2.2.2.ne⟩
  have H3 := hide (And.intro (HDM.out w3 ⟨S1, _, _, ti2, tb2, T3, HS.out.1, I3, J3, fun m hm => ⟨fun e => (HS.out.2.1 m hm).1 e.1, fun e => (HS.out.2.1 m hm).2 e.1⟩, fun m hm e => HS.out.2.2.1 m hm.1 e.1, fun m hm => HS.out.2.2.2 m (hm.imp id (Or.imp And.left And.left))⟩) (H2.out.2.2.1.trans (ch3.mono fun m e => HS.out.2.2.2 m (.inr (.inr e.1)))))
  clear I3 T3 J3 ch3 C3 H2
  go_wp2
  go_ret
  exact ⟨rfl, H3.out⟩
set_option maxRecDepth 100000 in
set_option maxHeartbeats 1600000 in
theorem heldDisk_any (u v iv bv : Value) (xs ys : List Bool) (is : List Ino) (bs : List Blk) (S : Nat → Prop) (k : Nat) (w : World) (h : DM w S u v iv bv k xs ys is bs) (hk0 : 1 ≤ k) (hk : cntD k xs ys is bs ≤ 100000000000000) :
    Calls Tryz.prog 41 #[.agg #[u, v, iv, bv], .int .i64 k] w fun e w' => e = .returned (.int .i64 (cntD k xs ys is bs : Nat)) ∧ Below w.heap.size w w' := by
  have HF := hide h.dr.form
  obtain ⟨S1, S2, S3, ti, tb, hT, hs1, hi, hb, d1, d2, hU⟩ := h
  have hc1 : cnt szI (k + xs.length + ys.length) is ≤ 100000000000000 := Nat.le_trans (cnt_ge _ _) hk
  have hc0 : k + xs.length + ys.length ≤ 100000000000000 := Nat.le_trans (cnt_ge _ _) hc1
  obtain ⟨K1, hK1⟩ : ∃ K, k + xs.length + ys.length = K := ⟨_, rfl⟩
  obtain ⟨K2, hK2⟩ : ∃ K, cnt szI K1 is = K := ⟨_, rfl⟩
  have hg1 : K1 ≤ K2 := by rw [← hK2]; exact cnt_ge _ _
  have hkb : cnt szB K2 bs ≤ 100000000000000 := by rw [← hK2, ← hK1]; exact hk
  have hCD : cntD k xs ys is bs = cnt szB K2 bs := by rw [cntD, hK1, hK2]
  rw [hK1] at hc1 hc0 hi hb
  rw [hK2] at hb
  rw [hCD]
  have C1 := hide (fun W h => heldN_any u v xs.length ys.length 0 k W h (by omega) (by omega) (by omega))
  rw [hK1] at C1
  have C2 := hide (fun W h => heldInoS_any iv ti is S2 K1 W h hc1)
  rw [hK2] at C2
  have C3 := hide (fun W h => heldBlkS_any bv tb bs S3 K2 W h (by omega) hkb)
  have hg2 : K2 ≤ cnt szB K2 bs := cnt_ge _ _
  generalize cnt szB K2 bs = K3 at *
  have HT := hide hT
  have HI := hide hi
  have HB := hide hb
  clear hT hi hb hs1 d1 d2 hU hk hkb hCD hK1 hK2
  obtain ⟨a1, c1, a2, c2, a3, c3, a4, c4, rfl, rfl, rfl, rfl⟩ := HF.out
  generalize (marksB k xs.length).length = l1 at *
  generalize (marksB (k + xs.length) ys.length).length = l2 at *
  generalize (mkL szI mkI (k + xs.length + ys.length) is).length = l3 at *
  generalize (mkL szB mkB (cnt szI (k + xs.length + ys.length) is) bs).length = l4 at *
  have n1 : ¬ ((K1 : Int) < 0) := by omega
  have n2 : ¬ ((K2 : Int) < 0) := by omega
  have n3 : ¬ ((K3 : Int) < 0) := by omega
  go_enter Tryz.func41, Tryz.ntmps41
  go_wp2_with fail
  refine (C1.out _ (HT.out.alloc _)).mono ?_
  rintro e w1 ⟨rfl, B1⟩
  have bx1 : AtC w1 w.heap.size 37 #[.slice a1 l1 c1, .slice a2 l2 c2, .slice a3 l3 c3, .slice a4 l4 c4] := (AtC.new w 37 _).over B1
  have b1 : Below w.heap.size w w1 := ((Below.refl _ w).alloc (Nat.le_refl _) _).trans (B1.mono (by simp))
  have q2 : w1.cell? ⟨w.heap.size, 2, none⟩ = some (.slice a3 l3 c3) := bx1.cell 2
  have H1 := hide (And.intro bx1 b1)
  clear bx1 b1 B1 C1
  go_wp2_with fail
  refine (C2.out _ (HI.out.below H1.out.2 (Nat.le_refl _))).mono ?_
  rintro e w2 ⟨rfl, B2⟩
  have bx2 := H1.out.1.over B2
  have b2 := H1.out.2.trans (B2.mono H1.out.2.size)
  have q3 : w2.cell? ⟨w.heap.size, 3, none⟩ = some (.slice a4 l4 c4) := bx2.cell 3
  have H2 := hide b2
  clear bx2 b2 B2 C2 H1
  go_wp2_with fail
  refine (C3.out _ (HB.out.below H2.out (Nat.le_refl _))).mono ?_
  rintro e w3 ⟨rfl, B3⟩
  have H3 := hide (H2.out.trans (B3.mono H2.out.size))
  clear B3 C3 H2
  go_wp2
  go_ret
  exact ⟨rfl, H3.out⟩
end Go.Proofs.YtggjillpfclajaaGreat
