/- impl.DiskOk and spec.DiskOk by their contracts. -/
import Derived.Test.YtajollmmpdkhbaaOkd
namespace Go.Proofs.Ytajollmmpdkhbaa
open Go.RowKit Kit
set_option maxRecDepth 100000 in
set_option maxHeartbeats 1600000 in
theorem implOk_disk (u v iv bv : Value) (xs ys : List Bool) (is : List Ino) (bs : List Blk) (w : World) (h : DR w u v iv bv xs ys is bs) (hi : is.length ≤ 1048576) (hk : bs.length ≤ 1048576) :
    Calls Try.prog 15 #[.agg #[u, v, iv, bv]] w fun e w' => e = .returned (.bool (diskOk xs ys is bs)) ∧ Below w.heap.size w w' := by
  have H := hide h
  obtain ⟨a1, c1, a2, c2, a3, c3, a4, c4, rfl, rfl, rfl, rfl⟩ := h.form
  obtain ⟨x, hx⟩ : ∃ x, okB xs.length ys.length = x := ⟨_, rfl⟩
  obtain ⟨y, hy⟩ : ∃ y, (inosOk is && decide (is.length = 8)) = y := ⟨_, rfl⟩
  obtain ⟨z, hz⟩ : ∃ z, (blksOk bs && decide (bs.length = 16)) = z := ⟨_, rfl⟩
  have hD : diskOk xs ys is bs = (x && y && z) := by unfold diskOk; rw [hx, hy, hz]
  rw [hD]
  have HX := hide hx
  have HY := hide hy
  have HZ := hide hz
  clear h hx hy hz hD
  go_enter Try.func15, Try.ntmps15
  go_wp2_with fail
  refine (implOk_anyB _ _ _ _ _ _ _).mono ?_
  rw [HX.out]
  rintro e w1 ⟨rfl, B1⟩
  have BW : Below w.heap.size w w1 := ((Below.refl _ w).alloc (Nat.le_refl _) _).trans (B1.mono (by simp))
  have K0 : AtC w1 w.heap.size 28 #[.slice a1 xs.length c1, .slice a2 ys.length c2, .slice a3 is.length c3, .slice a4 bs.length c4] := (AtC.new w 28 _).over B1
  have p2 : w1.cell? ⟨w.heap.size, 2, none⟩ = some (.slice a3 is.length c3) := K0.cell 2
  have HBW := hide BW
  have HK0 := hide K0
  clear B1 BW K0
  cases x with
  | false =>
    go_wp2
    go_ret
    exact ⟨rfl, HBW.out⟩
  | true =>
    go_wp2_with fail
    refine (inosRight_any _ is _ (H.out.i.below HBW.out (Nat.le_refl _)) hi).mono ?_
    rw [HY.out]
    rintro e w2 ⟨rfl, B2⟩
    have BW2 := HBW.out.trans (B2.mono HBW.out.size)
    have K0 := HK0.out.over B2
    have p3 : w2.cell? ⟨w.heap.size, 3, none⟩ = some (.slice a4 bs.length c4) := K0.cell 3
    have HBW2 := hide BW2
    clear B2 BW2 K0 HBW
    cases y with
    | false =>
      go_wp2
      go_ret
      exact ⟨rfl, HBW2.out⟩
    | true =>
      go_wp2_with fail
      refine (blksRight_any _ bs _ (H.out.k.below HBW2.out (Nat.le_refl _)) hk).mono ?_
      rw [HZ.out]
      rintro e w3 ⟨rfl, B3⟩
      have HBW3 := hide (HBW2.out.trans (B3.mono HBW2.out.size))
      clear B3
      go_wp2
      go_ret
      exact ⟨rfl, HBW3.out⟩
theorem diskOk_bits {xs ys : List Bool} {is : List Ino} {bs : List Blk} (h : okB xs.length ys.length = false) : false = diskOk xs ys is bs := by unfold diskOk; rw [h]; rfl
theorem diskOk_i {xs ys : List Bool} {is : List Ino} {bs : List Blk} (h : is.length ≠ 8) : false = diskOk xs ys is bs := by unfold diskOk; simp [h]
theorem diskOk_b {xs ys : List Bool} {is : List Ino} {bs : List Blk} (h : bs.length ≠ 16) : false = diskOk xs ys is bs := by unfold diskOk; simp [h]
theorem diskOk_in {xs ys : List Bool} {is : List Ino} {bs : List Blk} (h : inosOk is = false) : false = diskOk xs ys is bs := by unfold diskOk; simp [h]
theorem diskOk_bn {xs ys : List Bool} {is : List Ino} {bs : List Blk} (h : blksOk bs = false) : false = diskOk xs ys is bs := by unfold diskOk; simp [h]
theorem diskOk_yes {xs ys : List Bool} {is : List Ino} {bs : List Blk} (h : okB xs.length ys.length = true) (h1 : is.length = 8) (h2 : bs.length = 16) (h3 : inosOk is = true) (h4 : blksOk bs = true) : true = diskOk xs ys is bs := by unfold diskOk; simp [h, h1, h2, h3, h4]
set_option maxRecDepth 100000 in
set_option maxHeartbeats 3200000 in
theorem specOk_disk (u v iv bv : Value) (xs ys : List Bool) (is : List Ino) (bs : List Blk) (w : World) (h : DR w u v iv bv xs ys is bs) (hB : ∀ (j : Nat) (h : j < bs.length) (k : Nat) (h' : k < bs[j].2.1.length), bs[j].2.1[k].1.size ≤ 1048576) :
    Calls Try.prog 13 #[.agg #[u, v, iv, bv]] w fun e w' => e = .returned (.bool (diskOk xs ys is bs)) ∧ Below w.heap.size w w' := by
  have H := hide h
  have HG := hide hB
  obtain ⟨a3, c3, ri, -, hii⟩ := h.i.ino
  obtain ⟨a4, c4, rb, -, hkk⟩ := h.k.blk
  have HI := hide hii
  have HK := hide hkk
  obtain ⟨a1, c1, a2, c2, -, -, -, -, rfl, rfl, -, -⟩ := h.form
  subst ri rb
  obtain ⟨x, hx⟩ : ∃ x, okB xs.length ys.length = x := ⟨_, rfl⟩
  have HX := hide hx
  obtain ⟨n, hn⟩ : ∃ n, xs.length = n := ⟨_, rfl⟩
  obtain ⟨m, hm⟩ : ∃ m, ys.length = m := ⟨_, rfl⟩
  obtain ⟨ni, hni⟩ : ∃ ni, is.length = ni := ⟨_, rfl⟩
  obtain ⟨nb, hnb⟩ : ∃ nb, bs.length = nb := ⟨_, rfl⟩
  have HN := hide (And.intro hni hnb)
  rw [hn, hm] at hx
  rw [hn, hm, hni, hnb]
  have C := hide (specOk_anyB a1 a2 n m c1 c2)
  rw [hx] at C
  clear h hB hii hkk hx hn hm hni hnb
  go_enter Try.func13, Try.ntmps13
  go_wp2_with fail
  refine (C.out _).mono ?_
  rintro e w1 ⟨rfl, B1⟩
  have BW : Below w.heap.size w w1 := ((Below.refl _ w).alloc (Nat.le_refl _) _).trans (B1.mono (by simp))
  have K0 : AtC w1 w.heap.size 28 #[.slice a1 n c1, .slice a2 m c2, .slice a3 ni c3, .slice a4 nb c4] := (AtC.new w 28 _).over B1
  have p2 : w1.cell? ⟨w.heap.size, 2, none⟩ = some (.slice a3 ni c3) := K0.cell 2
  have p3 : w1.cell? ⟨w.heap.size, 3, none⟩ = some (.slice a4 nb c4) := K0.cell 3
  have HBW := hide BW
  have HK0 := hide K0
  clear B1 BW K0 C
  cases x with
  | false =>
    go_wp2
    go_ret
    exact ⟨ret_bool (diskOk_bits HX.out), HBW.out⟩
  | true =>
    by_cases h8 : ni = 8
    · by_cases h16 : nb = 16
      · subst h8 h16
        go_wp2
        go_loopw [3] (fun i wr => ∃ j : Nat, j ≤ 8 ∧ i = .int .i64 j ∧ Hid (∀ (k : Nat) (h : k < is.length), k < j → inoOk is[k] = true) ∧ Hid (Below w1.heap.size w1 wr)) (fun i _ => 8 - (intOf i).toNat)
        case atStart => exact ⟨0, Nat.zero_le _, rfl, fun _ _ h => absurd h (Nat.not_lt_zero _), Below.refl _ _⟩
        case round =>
          obtain ⟨j, hj, rfl, HS, HBR⟩ := hrel
          have K0 := HK0.out.over HBR.out
          have p4 : wr.cell? ⟨w.heap.size, 2, none⟩ = some (.slice a3 8 c3) := K0.cell 2
          have p5 : wr.cell? ⟨w.heap.size, 3, none⟩ = some (.slice a4 16 c4) := K0.cell 3
          have HB0 := hide (HBW.out.trans (HBR.out.mono HBW.out.size))
          clear K0
          by_cases hlt : j < 8
          · obtain ⟨g1, o1, pp, rfl, hg1, m1, m2, m3, hr1⟩ := HI.out j (by rw [HN.out.1]; exact hlt)
            have q1 := (HB0.out.cell (p := ⟨g1, o1 + j * 3, none⟩) hg1).trans m1
            have q2 := (HB0.out.cell (p := ⟨g1, o1 + j * 3 + 1, none⟩) hg1).trans m2
            have q3 := (HB0.out.cell (p := ⟨g1, o1 + j * 3 + 2, none⟩) hg1).trans m3
            obtain ⟨y, hy⟩ : ∃ x, is[j]'(by rw [HN.out.1]; exact hlt) = x := ⟨_, rfl⟩
            obtain ⟨y, s, z⟩ := y
            rw [hy] at q1 q2 hr1
            obtain ⟨pa, pc, rfl⟩ := hr1.form
            simp only at q1 q2 q3 hr1
            have HR := hide (hr1.below HB0.out (Nat.le_refl _))
            have j0 : (0 : Int) ≤ (j : Int) := by omega
            have j1 : (j : Int) < 8 := by omega
            have HY := hide hy
            clear m1 m2 m3 hr1 hy
            cases hq : okL y s z with
            | true =>
              have HQ := hide hq
              clear hq
              go_wp2_with (go_at_call 37; refine (specOk_anyI _ _ z _ _ HR.out).mono ?_; rw [HQ.out]; rintro e w2 ⟨rfl, B2⟩; have HB2 := hide (HBR.out.trans (B2.mono HBR.out.size)); clear B2)
              go_roundw
              case rel =>
                refine ⟨j + 1, by omega, by go_num, fun k hk hkj => ?_, HB2.out⟩
                by_cases hkk : k = j
                · subst hkk; rw [HY.out]; exact HQ.out
                · exact HS.out k hk (by omega)
              case measure => simp [intOf]; omega
            | false =>
              have hno : inosOk is = false := all_no (by rw [HN.out.1]; exact hlt) (by rw [HY.out]; exact hq)
              have HNO := hide hno
              have HQ := hide hq
              clear hq hno
              go_wp2_with (go_at_call 37; refine (specOk_anyI _ _ z _ _ HR.out).mono ?_; rw [HQ.out]; rintro e w2 ⟨rfl, B2⟩; have HB2 := hide (HB0.out.trans (B2.mono HB0.out.size)); clear B2)
              go_ret
              exact ⟨ret_bool (diskOk_in HNO.out), HB2.out⟩
          · have hyes : inosOk is = true := all_yes fun k hk => HS.out k hk (by rw [HN.out.1] at hk; omega)
            have HYS := hide hyes
            clear hyes
            go_wp2
            go_loopw [4] (fun i wq => ∃ j : Nat, j ≤ 16 ∧ i = .int .i64 j ∧ Hid (∀ (k : Nat) (h : k < bs.length), k < j → blkOk bs[k] = true) ∧ Hid (Below wr.heap.size wr wq)) (fun i _ => 16 - (intOf i).toNat)
            case atStart => exact ⟨0, Nat.zero_le _, rfl, fun _ _ h => absurd h (Nat.not_lt_zero _), Below.refl _ _⟩
            case round =>
              obtain ⟨j, hj, rfl, HS2, HBQ⟩ := hrel
              have HB1 := hide (HB0.out.trans (HBQ.out.mono HB0.out.size))
              have K1 := HK0.out.over (HBR.out.trans (HBQ.out.mono HBR.out.size))
              have p6 : wr.cell? ⟨w.heap.size, 3, none⟩ = some (.slice a4 16 c4) := K1.cell 3
              clear K1
              by_cases hlt2 : j < 16
              · obtain ⟨g1, o1, pp, rfl, hg1, m1, m2, m3, hr1⟩ := HK.out j (by rw [HN.out.2]; exact hlt2)
                have q1 := (HB1.out.cell (p := ⟨g1, o1 + j * 3, none⟩) hg1).trans m1
                have q2 := (HB1.out.cell (p := ⟨g1, o1 + j * 3 + 1, none⟩) hg1).trans m2
                have q3 := (HB1.out.cell (p := ⟨g1, o1 + j * 3 + 2, none⟩) hg1).trans m3
                have key : ∀ b : Blk, bs[j]'(by rw [HN.out.2]; exact hlt2) = b → ∀ (k : Nat) (h' : k < b.2.1.length), b.2.1[k].1.size ≤ 1048576 := by
                  rintro b rfl
                  exact HG.out j _
                obtain ⟨y, hy⟩ : ∃ x, bs[j]'(by rw [HN.out.2]; exact hlt2) = x := ⟨_, rfl⟩
                obtain ⟨y, s, z⟩ := y
                rw [hy] at q1 q3 hr1
                have hbg : ∀ (k : Nat) (h' : k < s.length), s[k].1.size ≤ 1048576 := key _ hy
                obtain ⟨pa, pc, rfl⟩ := hr1.form
                simp only at q1 q2 q3 hr1
                have HR := hide (hr1.below HB1.out (Nat.le_refl _))
                have HBG := hide hbg
                have j0 : (0 : Int) ≤ (j : Int) := by omega
                have j1 : (j : Int) < 16 := by omega
                have HY := hide hy
                clear m1 m2 m3 hr1 hy hbg key
                cases hq : blockOk y s z with
                | true =>
                  have HQ := hide hq
                  clear hq
                  go_wp2_with (go_at_call 38; refine (specOk_anyK _ _ _ s _ HR.out HBG.out).mono ?_; rw [HQ.out]; rintro e w2 ⟨rfl, B2⟩; have HB2 := hide (HBQ.out.trans (B2.mono HBQ.out.size)); clear B2)
                  go_roundw
                  case rel =>
                    refine ⟨j + 1, by omega, by go_num, fun k hk hkj => ?_, HB2.out⟩
                    by_cases hkk : k = j
                    · subst hkk; rw [HY.out]; exact HQ.out
                    · exact HS2.out k hk (by omega)
                  case measure => simp [intOf]; omega
                | false =>
                  have hno : blksOk bs = false := all_no (by rw [HN.out.2]; exact hlt2) (by rw [HY.out]; exact hq)
                  have HNO := hide hno
                  have HQ := hide hq
                  clear hq hno
                  go_wp2_with (go_at_call 38; refine (specOk_anyK _ _ _ s _ HR.out HBG.out).mono ?_; rw [HQ.out]; rintro e w2 ⟨rfl, B2⟩; have HB2 := hide (HB1.out.trans (B2.mono HB1.out.size)); clear B2)
                  go_ret
                  exact ⟨ret_bool (diskOk_bn HNO.out), HB2.out⟩
              · have hyes : blksOk bs = true := all_yes fun k hk => HS2.out k hk (by rw [HN.out.2] at hk; omega)
                have HYS2 := hide hyes
                clear hyes
                go_wp2
                go_ret
                exact ⟨ret_bool (diskOk_yes HX.out HN.out.1 HN.out.2 HYS.out HYS2.out), HB1.out⟩
      · have hne : bs.length ≠ 16 := by rw [HN.out.2]; exact h16
        have HNE := hide hne
        have hb16 : ((nb : Int) != 16) = true := by simp; omega
        clear hne
        subst h8
        go_wp2
        go_ret
        exact ⟨ret_bool (diskOk_b HNE.out), HBW.out⟩
    · have hne : is.length ≠ 8 := by rw [HN.out.1]; exact h8
      have HNE := hide hne
      have hb8 : ((ni : Int) != 8) = true := by simp; omega
      clear hne
      go_wp2
      go_ret
      exact ⟨ret_bool (diskOk_i HNE.out), HBW.out⟩
end Go.Proofs.Ytajollmmpdkhbaa
