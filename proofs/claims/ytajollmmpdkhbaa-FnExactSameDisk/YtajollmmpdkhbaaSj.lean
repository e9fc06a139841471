/- Disks that are compared by the specification: spec.SameDisk by its contract. -/
import Derived.Test.YtajollmmpdkhbaaSi
import Derived.Deep.RegionHeld3
namespace Go.Proofs.Ytajollmmpdkhbaa
open Go.RowKit Kit
theorem sameD_x {xs ys xs' ys' : List Bool} {is is' : List Ino} {bs bs' : List Blk} (h : decide (xs = xs') = false) : false = sameD xs ys is bs xs' ys' is' bs' := by simp [sameD, h]
theorem sameD_y {xs ys xs' ys' : List Bool} {is is' : List Ino} {bs bs' : List Blk} (h : decide (ys = ys') = false) : false = sameD xs ys is bs xs' ys' is' bs' := by simp [sameD, h]
theorem sameD_i {xs ys xs' ys' : List Bool} {is is' : List Ino} {bs bs' : List Blk} (h : false = decide (is = is')) : false = sameD xs ys is bs xs' ys' is' bs' := by simp [sameD, ← h]
theorem sameD_b {xs ys xs' ys' : List Bool} {is is' : List Ino} {bs bs' : List Blk} (h : false = decide (bs = bs')) : false = sameD xs ys is bs xs' ys' is' bs' := by simp [sameD, ← h]
theorem sameD_yes {xs ys xs' ys' : List Bool} {is is' : List Ino} {bs bs' : List Blk} (h1 : decide (xs = xs') = true) (h2 : decide (ys = ys') = true) (h3 : true = decide (is = is')) (h4 : true = decide (bs = bs')) : true = sameD xs ys is bs xs' ys' is' bs' := by simp [sameD, h1, h2, ← h3, ← h4]
set_option maxRecDepth 100000 in
set_option maxHeartbeats 3200000 in
theorem specSame_disk (u v iv bv u' v' i' b' : Value) (xs ys xs' ys' : List Bool) (is is' : List Ino) (bs bs' : List Blk) (w : World) (h : DR w u v iv bv xs ys is bs) (h' : DR w u' v' i' b' xs' ys' is' bs') (hB : Big 1048576 xs ys is bs) :
    Calls Try.prog 18 #[.agg #[u, v, iv, bv], .agg #[u', v', i', b']] w fun e w' => e = .returned (.bool (sameD xs ys is bs xs' ys' is' bs')) ∧ Below w.heap.size w w' := by
  have C1 := hide (fun W (h : DR W u v iv bv xs ys is bs) (h' : DR W u' v' i' b' xs' ys' is' bs') => specSameB_any u u' xs xs' W h.a h'.a hB.x)
  have C2 := hide (fun W (h : DR W u v iv bv xs ys is bs) (h' : DR W u' v' i' b' xs' ys' is' bs') => specSameB_any v v' ys ys' W h.b h'.b hB.y)
  have HD := hide (And.intro h h')
  have HI := hide h.i
  have HK := hide h.k
  have HI' := hide h'.i
  have HK' := hide h'.k
  have HBG := hide hB
  obtain ⟨a1, c1, a2, c2, a3, c3, a4, c4, rfl, rfl, rfl, rfl⟩ := h.form
  obtain ⟨d1, f1, d2, f2, d3, f3, d4, f4, rfl, rfl, rfl, rfl⟩ := h'.form
  obtain ⟨n, hn⟩ : ∃ n, is.length = n := ⟨_, rfl⟩
  obtain ⟨n', hn'⟩ : ∃ n, is'.length = n := ⟨_, rfl⟩
  obtain ⟨m, hm⟩ : ∃ n, bs.length = n := ⟨_, rfl⟩
  obtain ⟨m', hm'⟩ : ∃ n, bs'.length = n := ⟨_, rfl⟩
  have hn1 : n ≤ 1048576 := hn ▸ hB.i
  have hm1 : m ≤ 1048576 := hm ▸ hB.b
  have HN := hide (And.intro (And.intro hn hn') (And.intro hm hm'))
  rw [hn, hm, hn', hm']
  generalize he1 : decide (xs = xs') = r1 at *
  generalize he2 : decide (ys = ys') = r2 at *
  have HE := hide (And.intro he1 he2)
  clear h h' hB hn hn' hm hm' he1 he2
  go_enter Try.func18, Try.ntmps18
  go_wp2_with fail
  refine (C1.out _ ((HD.out.1.alloc _).alloc _) ((HD.out.2.alloc _).alloc _)).mono ?_
  rintro e w1 ⟨rfl, B1⟩
  have X1 := (((AtC.new w 28 #[.slice a1 xs.length c1, .slice a2 ys.length c2, .slice a3 n c3, .slice a4 m c4]).alloc (.cells #[.slice d1 xs'.length f1, .slice d2 ys'.length f2, .slice d3 n' f3, .slice d4 m' f4] 28)).over B1)
  have Y1 := ((AtC.new (w.alloc (.cells #[.slice a1 xs.length c1, .slice a2 ys.length c2, .slice a3 n c3, .slice a4 m c4] 28)) 28 #[.slice d1 xs'.length f1, .slice d2 ys'.length f2, .slice d3 n' f3, .slice d4 m' f4]).over B1)
  simp only [World.size_alloc] at Y1
  have B1' : Below w.heap.size w w1 := (((Below.refl _ w).alloc (Nat.le_refl _) _).alloc (by simp) _).trans (B1.mono (by simp; omega))
  have q1 : w1.cell? ⟨w.heap.size, 1, none⟩ = some (.slice a2 ys.length c2) := X1.cell 1
  have s1 : w1.cell? ⟨w.heap.size + 1, 1, none⟩ = some (.slice d2 ys'.length f2) := Y1.cell 1
  have H1 := hide (And.intro B1' (And.intro X1 Y1))
  clear B1 X1 Y1 B1'
  cases r1 with
  | false =>
    go_wp2
    go_ret
    exact ⟨ret_bool (sameD_x HE.out.1), H1.out.1⟩
  | true =>
    go_wp2_with fail
    refine (C2.out _ (HD.out.1.below H1.out.1 (Nat.le_refl _)) (HD.out.2.below H1.out.1 (Nat.le_refl _))).mono ?_
    rintro e w2 ⟨rfl, B2⟩
    have X2 := H1.out.2.1.over B2
    have Y2 := H1.out.2.2.over B2
    have B2' := H1.out.1.trans (B2.mono H1.out.1.size)
    have q2 : w2.cell? ⟨w.heap.size, 2, none⟩ = some (.slice a3 n c3) := X2.cell 2
    have s2 : w2.cell? ⟨w.heap.size + 1, 2, none⟩ = some (.slice d3 n' f3) := Y2.cell 2
    have q3 : w2.cell? ⟨w.heap.size, 3, none⟩ = some (.slice a4 m c4) := X2.cell 3
    have s3 : w2.cell? ⟨w.heap.size + 1, 3, none⟩ = some (.slice d4 m' f4) := Y2.cell 3
    have H2 := hide B2'
    have HX2 := hide (And.intro X2 Y2)
    clear B2 X2 Y2 B2' H1 q1 s1
    cases r2 with
    | false =>
      go_wp2
      go_ret
      exact ⟨ret_bool (sameD_y HE.out.2), H2.out⟩
    | true =>
      by_cases hnn : n = n'
      · by_cases hmm : m = m'
        · subst hnn hmm
          go_wp2
          go_loopw [5] (fun i wr => ∃ j : Nat, j ≤ n ∧ i = .int .i64 j ∧ Hid (∀ (k : Nat) (h1 : k < is.length) (h2 : k < is'.length), k < j → is[k] = is'[k]) ∧ Hid (Below w2.heap.size w2 wr)) (fun i _ => n - (intOf i).toNat)
          case atStart => exact ⟨0, Nat.zero_le _, rfl, fun _ _ _ h => absurd h (Nat.not_lt_zero _), Below.refl _ _⟩
          case round =>
            obtain ⟨j, hj, rfl, HS, HBR⟩ := hrel
            have K0 := HX2.out.1.over HBR.out
            have K1 := HX2.out.2.over HBR.out
            have q2 : wr.cell? ⟨w.heap.size, 2, none⟩ = some (.slice a3 n c3) := K0.cell 2
            have s2 : wr.cell? ⟨w.heap.size + 1, 2, none⟩ = some (.slice d3 n f3) := K1.cell 2
            have q3 : wr.cell? ⟨w.heap.size, 3, none⟩ = some (.slice a4 m c4) := K0.cell 3
            have s3 : wr.cell? ⟨w.heap.size + 1, 3, none⟩ = some (.slice d4 m f4) := K1.cell 3
            have HB0 := hide (H2.out.trans (HBR.out.mono H2.out.size))
            have HK0 := hide (And.intro K0 K1)
            clear K0 K1
            by_cases hlt : j < n
            · obtain ⟨t1, e1, hq1, -, hA⟩ := HI.out.ino
              obtain ⟨t2, e2, hq2, -, hA'⟩ := HI'.out.ino
              obtain ⟨g1, o1, p1, ht1, hg1, m1, m2, m3, hr1⟩ := hA j (by rw [HN.out.1.1]; exact hlt)
              obtain ⟨g2, o2, p2, ht2, hg2, n1, n2, n3, hr2⟩ := hA' j (by rw [HN.out.1.2]; exact hlt)
              obtain rfl : a3 = some ⟨g1, o1, none⟩ := by rw [ht1] at hq1; injection hq1
              obtain rfl : d3 = some ⟨g2, o2, none⟩ := by rw [ht2] at hq2; injection hq2
              have hpl := HBG.out.p j (by rw [HN.out.1.1]; exact hlt)
              obtain ⟨x, hx⟩ : ∃ x, is[j]'(by rw [HN.out.1.1]; exact hlt) = x := ⟨_, rfl⟩
              obtain ⟨x', hy⟩ : ∃ y, is'[j]'(by rw [HN.out.1.2]; exact hlt) = y := ⟨_, rfl⟩
              have HX := hide hx
              have HY := hide hy
              rw [hx] at m1 m2 hr1 hpl
              rw [hy] at n1 n2 hr2
              clear hx hy hA hA' hq1 hq2 ht1 ht2
              obtain ⟨y, s, z⟩ := x
              obtain ⟨y2, s2, z2⟩ := x'
              obtain ⟨pa, pc, rfl⟩ := hr1.form
              obtain ⟨pb, pd, rfl⟩ := hr2.form
              simp only at m1 m2 m3 n1 n2 n3 hr1 hr2 hpl
              have HC : Hid (∀ w', Below wr.heap.size wr w' → w'.cell? ⟨w.heap.size, 2, none⟩ = some (.slice (some ⟨g1, o1, none⟩) n c3) ∧ w'.cell? ⟨w.heap.size + 1, 2, none⟩ = some (.slice (some ⟨g2, o2, none⟩) n f3) ∧ w'.cell? ⟨g1, o1 + j * 3, none⟩ = some (.int .i64 y) ∧ w'.cell? ⟨g1, o1 + j * 3 + 1, none⟩ = some (.int .i64 s) ∧ w'.cell? ⟨g1, o1 + j * 3 + 2, none⟩ = some (.slice pa z.length pc) ∧ w'.cell? ⟨g2, o2 + j * 3, none⟩ = some (.int .i64 y2) ∧ w'.cell? ⟨g2, o2 + j * 3 + 1, none⟩ = some (.int .i64 s2) ∧ w'.cell? ⟨g2, o2 + j * 3 + 2, none⟩ = some (.slice pb z2.length pd)) := fun w' hb =>
                have hb0 : Below w.heap.size w w' := HB0.out.trans (hb.mono HB0.out.size)
                ⟨(HK0.out.1.over hb).cell 2, (HK0.out.2.over hb).cell 2, (hb0.cell (p := ⟨g1, o1 + j * 3, none⟩) hg1).trans m1, (hb0.cell (p := ⟨g1, o1 + j * 3 + 1, none⟩) hg1).trans m2, (hb0.cell (p := ⟨g1, o1 + j * 3 + 2, none⟩) hg1).trans m3, (hb0.cell (p := ⟨g2, o2 + j * 3, none⟩) hg2).trans n1, (hb0.cell (p := ⟨g2, o2 + j * 3 + 1, none⟩) hg2).trans n2, (hb0.cell (p := ⟨g2, o2 + j * 3 + 2, none⟩) hg2).trans n3⟩
              have HR := hide (And.intro (hr1.below HB0.out (Nat.le_refl _)) (hr2.below HB0.out (Nat.le_refl _)))
              have C := hide (fun W h h' => specSameI_any y s y2 s2 z z2 (.slice pa z.length pc) (.slice pb z2.length pd) W h h' hpl)
              clear m1 m2 m3 n1 n2 n3 hr1 hr2 hpl
              obtain ⟨k1, k2, k3, k4, k5, k6, k7, k8⟩ := HC.out _ (Below.refl _ _)
              have j0 : (0 : Int) ≤ (j : Int) := by omega
              have j1 : (j : Int) < (n : Int) := by omega
              by_cases hq : ((y, s, z) = ((y2, s2, z2) : Ino))
              · have hd : decide ((y, s, z) = ((y2, s2, z2) : Ino)) = true := decide_eq_true hq
                rw [hd] at C
                have HQ := hide hq
                clear hd hq
                go_wp2_with fail
                go_region_held3 (fun w' => w'.cell? ⟨w.heap.size, 2, none⟩ = some (.slice (some ⟨g1, o1, none⟩) n c3) ∧ w'.cell? ⟨w.heap.size + 1, 2, none⟩ = some (.slice (some ⟨g2, o2, none⟩) n f3) ∧ w'.cell? ⟨g1, o1 + j * 3, none⟩ = some (.int .i64 y) ∧ w'.cell? ⟨g1, o1 + j * 3 + 1, none⟩ = some (.int .i64 s) ∧ w'.cell? ⟨g1, o1 + j * 3 + 2, none⟩ = some (.slice pa z.length pc) ∧ w'.cell? ⟨g2, o2 + j * 3, none⟩ = some (.int .i64 y2) ∧ w'.cell? ⟨g2, o2 + j * 3 + 1, none⟩ = some (.int .i64 s2) ∧ w'.cell? ⟨g2, o2 + j * 3 + 2, none⟩ = some (.slice pb z2.length pd)) (first | exact HC.out _ (Below.refl _ _).drew | exact HC.out _ (of_drew B6)) ((go_at_call 50; refine (C.out _ (HR.out.1.drew) (HR.out.2.drew)).mono ?_; rintro e w6 ⟨rfl, B6⟩))
                have HB6 := hide (HBR.out.trans ((of_drew B6).mono HBR.out.size))
                clear B6
                go_wp2
                go_roundw
                case rel =>
                  refine ⟨j + 1, by omega, by go_num, fun k h1 h2 hkj => ?_, HB6.out⟩
                  by_cases hkk : k = j
                  · subst hkk; rw [HX.out, HY.out]; exact HQ.out
                  · exact HS.out k h1 h2 (by omega)
                case measure => simp [intOf]; omega
              · have hd : decide ((y, s, z) = ((y2, s2, z2) : Ino)) = false := decide_eq_false hq
                rw [hd] at C
                have hno : false = decide (is = is') := same_at (h1 := by rw [HN.out.1.1]; exact hlt) (h2 := by rw [HN.out.1.2]; exact hlt) (by rw [HX.out, HY.out]; exact hq)
                have HNO := hide hno
                clear hd hq hno
                go_wp2_with fail
                go_region_held3 (fun w' => w'.cell? ⟨w.heap.size, 2, none⟩ = some (.slice (some ⟨g1, o1, none⟩) n c3) ∧ w'.cell? ⟨w.heap.size + 1, 2, none⟩ = some (.slice (some ⟨g2, o2, none⟩) n f3) ∧ w'.cell? ⟨g1, o1 + j * 3, none⟩ = some (.int .i64 y) ∧ w'.cell? ⟨g1, o1 + j * 3 + 1, none⟩ = some (.int .i64 s) ∧ w'.cell? ⟨g1, o1 + j * 3 + 2, none⟩ = some (.slice pa z.length pc) ∧ w'.cell? ⟨g2, o2 + j * 3, none⟩ = some (.int .i64 y2) ∧ w'.cell? ⟨g2, o2 + j * 3 + 1, none⟩ = some (.int .i64 s2) ∧ w'.cell? ⟨g2, o2 + j * 3 + 2, none⟩ = some (.slice pb z2.length pd)) (first | exact HC.out _ (Below.refl _ _).drew | exact HC.out _ (of_drew B6)) ((go_at_call 50; refine (C.out _ (HR.out.1.drew) (HR.out.2.drew)).mono ?_; rintro e w6 ⟨rfl, B6⟩))
                have HB6 := hide (HB0.out.trans ((of_drew B6).mono HB0.out.size))
                clear B6
                go_wp2
                go_ret
                exact ⟨ret_bool (sameD_i HNO.out), HB6.out⟩
            · have hyes : true = decide (is = is') := same_all (by rw [HN.out.1.1, HN.out.1.2]) fun k h1 h2 => HS.out k h1 h2 (by rw [HN.out.1.1] at h1; omega)
              have HYS := hide hyes
              clear hyes
              go_wp2
              go_loopw [6] (fun i wq => ∃ j : Nat, j ≤ m ∧ i = .int .i64 j ∧ Hid (∀ (k : Nat) (h1 : k < bs.length) (h2 : k < bs'.length), k < j → bs[k] = bs'[k]) ∧ Hid (Below wr.heap.size wr wq)) (fun i _ => m - (intOf i).toNat)
              case atStart => exact ⟨0, Nat.zero_le _, rfl, fun _ _ _ h => absurd h (Nat.not_lt_zero _), Below.refl _ _⟩
              case round =>
                obtain ⟨j, hj, rfl, HS2, HBQ⟩ := hrel
                rename World => wq
                have K0 := HK0.out.1.over HBQ.out
                have K1 := HK0.out.2.over HBQ.out
                have q3 : wq.cell? ⟨w.heap.size, 3, none⟩ = some (.slice a4 m c4) := K0.cell 3
                have s3 : wq.cell? ⟨w.heap.size + 1, 3, none⟩ = some (.slice d4 m f4) := K1.cell 3
                have HB1 := hide (HB0.out.trans (HBQ.out.mono HB0.out.size))
                have HK1 := hide (And.intro K0 K1)
                clear K0 K1
                by_cases hlt : j < m
                · obtain ⟨t1, e1, hq1, -, hA⟩ := HK.out.blk
                  obtain ⟨t2, e2, hq2, -, hA'⟩ := HK'.out.blk
                  obtain ⟨g1, o1, p1, ht1, hg1, m1, m2, m3, hr1⟩ := hA j (by rw [HN.out.2.1]; exact hlt)
                  obtain ⟨g2, o2, p2, ht2, hg2, n1, n2, n3, hr2⟩ := hA' j (by rw [HN.out.2.2]; exact hlt)
                  obtain rfl : a4 = some ⟨g1, o1, none⟩ := by rw [ht1] at hq1; injection hq1
                  obtain rfl : d4 = some ⟨g2, o2, none⟩ := by rw [ht2] at hq2; injection hq2
                  have hpl := (HBG.out.s j (by rw [HN.out.2.1]; exact hlt)).1
                  obtain ⟨x, hx⟩ : ∃ x, bs[j]'(by rw [HN.out.2.1]; exact hlt) = x := ⟨_, rfl⟩
                  obtain ⟨x', hy⟩ : ∃ y, bs'[j]'(by rw [HN.out.2.2]; exact hlt) = y := ⟨_, rfl⟩
                  have HX := hide hx
                  have HY := hide hy
                  rw [hx] at m1 m3 hr1 hpl
                  rw [hy] at n1 n3 hr2
                  clear hx hy hA hA' hq1 hq2 ht1 ht2
                  obtain ⟨y, z, s⟩ := x
                  obtain ⟨y2, z2, s2⟩ := x'
                  obtain ⟨pa, pc, rfl⟩ := hr1.form
                  obtain ⟨pb, pd, rfl⟩ := hr2.form
                  simp only at m1 m2 m3 n1 n2 n3 hr1 hr2 hpl
                  have HC : Hid (∀ w', Below wq.heap.size wq w' → w'.cell? ⟨w.heap.size, 3, none⟩ = some (.slice (some ⟨g1, o1, none⟩) m c4) ∧ w'.cell? ⟨w.heap.size + 1, 3, none⟩ = some (.slice (some ⟨g2, o2, none⟩) m f4) ∧ w'.cell? ⟨g1, o1 + j * 3, none⟩ = some (.bool y) ∧ w'.cell? ⟨g1, o1 + j * 3 + 1, none⟩ = some (.slice pa z.length pc) ∧ w'.cell? ⟨g1, o1 + j * 3 + 2, none⟩ = some (.string s) ∧ w'.cell? ⟨g2, o2 + j * 3, none⟩ = some (.bool y2) ∧ w'.cell? ⟨g2, o2 + j * 3 + 1, none⟩ = some (.slice pb z2.length pd) ∧ w'.cell? ⟨g2, o2 + j * 3 + 2, none⟩ = some (.string s2)) := fun w' hb =>
                    have hb0 : Below w.heap.size w w' := HB1.out.trans (hb.mono HB1.out.size)
                    ⟨(HK1.out.1.over hb).cell 3, (HK1.out.2.over hb).cell 3, (hb0.cell (p := ⟨g1, o1 + j * 3, none⟩) hg1).trans m1, (hb0.cell (p := ⟨g1, o1 + j * 3 + 1, none⟩) hg1).trans m2, (hb0.cell (p := ⟨g1, o1 + j * 3 + 2, none⟩) hg1).trans m3, (hb0.cell (p := ⟨g2, o2 + j * 3, none⟩) hg2).trans n1, (hb0.cell (p := ⟨g2, o2 + j * 3 + 1, none⟩) hg2).trans n2, (hb0.cell (p := ⟨g2, o2 + j * 3 + 2, none⟩) hg2).trans n3⟩
                  have HR := hide (And.intro (hr1.below HB1.out (Nat.le_refl _)) (hr2.below HB1.out (Nat.le_refl _)))
                  have C := hide (fun W h h' => specSameK_any y y2 z z2 s s2 (.slice pa z.length pc) (.slice pb z2.length pd) W h h' hpl)
                  clear m1 m2 m3 n1 n2 n3 hr1 hr2 hpl
                  obtain ⟨k1, k2, k3, k4, k5, k6, k7, k8⟩ := HC.out _ (Below.refl _ _)
                  have j0 : (0 : Int) ≤ (j : Int) := by omega
                  have j1 : (j : Int) < (m : Int) := by omega
                  by_cases hq : ((y, z, s) = ((y2, z2, s2) : Blk))
                  · have hd : decide ((y, z, s) = ((y2, z2, s2) : Blk)) = true := decide_eq_true hq
                    rw [hd] at C
                    have HQ := hide hq
                    clear hd hq
                    go_wp2_with fail
                    go_region_held3 (fun w' => w'.cell? ⟨w.heap.size, 3, none⟩ = some (.slice (some ⟨g1, o1, none⟩) m c4) ∧ w'.cell? ⟨w.heap.size + 1, 3, none⟩ = some (.slice (some ⟨g2, o2, none⟩) m f4) ∧ w'.cell? ⟨g1, o1 + j * 3, none⟩ = some (.bool y) ∧ w'.cell? ⟨g1, o1 + j * 3 + 1, none⟩ = some (.slice pa z.length pc) ∧ w'.cell? ⟨g1, o1 + j * 3 + 2, none⟩ = some (.string s) ∧ w'.cell? ⟨g2, o2 + j * 3, none⟩ = some (.bool y2) ∧ w'.cell? ⟨g2, o2 + j * 3 + 1, none⟩ = some (.slice pb z2.length pd) ∧ w'.cell? ⟨g2, o2 + j * 3 + 2, none⟩ = some (.string s2)) (first | exact HC.out _ (Below.refl _ _).drew | exact HC.out _ (of_drew B6)) ((go_at_call 51; refine (C.out _ (HR.out.1.drew) (HR.out.2.drew)).mono ?_; rintro e w6 ⟨rfl, B6⟩))
                    have HB6 := hide (HBQ.out.trans ((of_drew B6).mono HBQ.out.size))
                    clear B6
                    go_wp2
                    go_roundw
                    case rel =>
                      refine ⟨j + 1, by omega, by go_num, fun k h1 h2 hkj => ?_, HB6.out⟩
                      by_cases hkk : k = j
                      · subst hkk; rw [HX.out, HY.out]; exact HQ.out
                      · exact HS2.out k h1 h2 (by omega)
                    case measure => simp [intOf]; omega
                  · have hd : decide ((y, z, s) = ((y2, z2, s2) : Blk)) = false := decide_eq_false hq
                    rw [hd] at C
                    have hno : false = decide (bs = bs') := same_at (h1 := by rw [HN.out.2.1]; exact hlt) (h2 := by rw [HN.out.2.2]; exact hlt) (by rw [HX.out, HY.out]; exact hq)
                    have HNO := hide hno
                    clear hd hq hno
                    go_wp2_with fail
                    go_region_held3 (fun w' => w'.cell? ⟨w.heap.size, 3, none⟩ = some (.slice (some ⟨g1, o1, none⟩) m c4) ∧ w'.cell? ⟨w.heap.size + 1, 3, none⟩ = some (.slice (some ⟨g2, o2, none⟩) m f4) ∧ w'.cell? ⟨g1, o1 + j * 3, none⟩ = some (.bool y) ∧ w'.cell? ⟨g1, o1 + j * 3 + 1, none⟩ = some (.slice pa z.length pc) ∧ w'.cell? ⟨g1, o1 + j * 3 + 2, none⟩ = some (.string s) ∧ w'.cell? ⟨g2, o2 + j * 3, none⟩ = some (.bool y2) ∧ w'.cell? ⟨g2, o2 + j * 3 + 1, none⟩ = some (.slice pb z2.length pd) ∧ w'.cell? ⟨g2, o2 + j * 3 + 2, none⟩ = some (.string s2)) (first | exact HC.out _ (Below.refl _ _).drew | exact HC.out _ (of_drew B6)) ((go_at_call 51; refine (C.out _ (HR.out.1.drew) (HR.out.2.drew)).mono ?_; rintro e w6 ⟨rfl, B6⟩))
                    have HB6 := hide (HB1.out.trans ((of_drew B6).mono HB1.out.size))
                    clear B6
                    go_wp2
                    go_ret
                    exact ⟨ret_bool (sameD_b HNO.out), HB6.out⟩
                · have hyes : true = decide (bs = bs') := same_all (by rw [HN.out.2.1, HN.out.2.2]) fun k h1 h2 => HS2.out k h1 h2 (by rw [HN.out.2.1] at h1; omega)
                  have HYS2 := hide hyes
                  clear hyes
                  go_wp2
                  go_ret
                  exact ⟨ret_bool (sameD_yes HE.out.1 HE.out.2 HYS.out HYS2.out), HB1.out⟩
        · have hne : bs.length ≠ bs'.length := by rw [HN.out.2.1, HN.out.2.2]; exact hmm
          have HNE := hide (sameD_b (xs := xs) (ys := ys) (xs' := xs') (ys' := ys') (is := is) (is' := is') (same_len hne))
          have hb16 : ((m : Int) == (m' : Int)) = false := by simp; omega
          clear hne
          subst hnn
          go_wp2
          go_ret
          exact ⟨ret_bool HNE.out, H2.out⟩
      · have hne : is.length ≠ is'.length := by rw [HN.out.1.1, HN.out.1.2]; exact hnn
        have HNE := hide (sameD_i (xs := xs) (ys := ys) (xs' := xs') (ys' := ys') (bs := bs) (bs' := bs') (same_len hne))
        have hb8 : ((n : Int) == (n' : Int)) = false := by simp; omega
        clear hne
        go_wp2
        go_ret
        exact ⟨ret_bool HNE.out, H2.out⟩
end Go.Proofs.Ytajollmmpdkhbaa
