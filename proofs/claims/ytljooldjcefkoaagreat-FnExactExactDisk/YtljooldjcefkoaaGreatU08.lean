/- Texts of the proof, bundled: Okk, Rd, Ib, Shelf, Bo. -/
import Derived.Shelf.Small.Bits
import Derived.Shelf.Small.Wraps
import Derived.Shelf.Strconv.Itoa0
import Derived.Shelf.Sort.Plain
import Derived.Shelf.Slices.Turned
import Derived.Ground.Names2Prog
import Derived.Shelf.Slices.SearchI
import Derived.Shelf.Slices.In.SortNone
import Derived.Ground.SlgnProg
import Derived.Shelf.SlicesE.Equal
import Derived.Test.YtljooldjcefkoaaGreatProg
import Derived.Handy
import Derived.Test.YtljooldjcefkoaaGreatU06
import Derived.Test.YtljooldjcefkoaaGreatU07
/- impl.DiskOk and spec.DiskOk by their contracts. -/
namespace Go.Proofs.YtljooldjcefkoaaGreat
open Go.RowKit Kit
set_option maxRecDepth 100000 in
set_option maxHeartbeats 1600000 in
theorem implOk_disk (u v iv bv : Value) (xs ys : List Bool) (is : List Ino) (bs : List Blk) (w : World) (h : DR w u v iv bv xs ys is bs) (hi : is.length ≤ 1048576) (hk : bs.length ≤ 1048576) :
    Calls Tryz.prog 24 #[.agg #[u, v, iv, bv]] w fun e w' => e = .returned (.bool (diskOk xs ys is bs)) ∧ Below w.heap.size w w' := by
  have H := hide h
  obtain ⟨a1, c1, a2, c2, a3, c3, a4, c4, rfl, rfl, rfl, rfl⟩ := h.form
  obtain ⟨x, hx⟩ : ∃ x, okB xs.length ys.length = x := ⟨_, rfl⟩
  obtain ⟨y, hy⟩ : ∃ y, (inosOk is && decide (is.length = 8)) = y := ⟨_, rfl⟩
  obtain ⟨z, hz⟩ : ∃ z, (blksOk bs && decide (bs.length = 16)) = z := ⟨_, rfl⟩
  have hD : diskOk xs ys is bs = (x && y && z) := by unfold diskOk; rw [hx, hy, hz]
  rw [hD]
  have HX := hide hx
  have HY := hide hy
  have HZ := hide hz
  clear h hx hy hz hD
  go_enter Tryz.func24, Tryz.ntmps24
  go_wp2_with fail
  refine (implOk_anyB _ _ _ _ _ _ _).mono ?_
  rw [HX.out]
  rintro e w1 ⟨rfl, B1⟩
  have BW : Below w.heap.size w w1 := ((Below.refl _ w).alloc (Nat.le_refl _) _).trans (B1.mono (by simp))
  have K0 : AtC w1 w.heap.size 35 #[.slice a1 xs.length c1, .slice a2 ys.length c2, .slice a3 is.length c3, .slice a4 bs.length c4] := (AtC.new w 35 _).over B1
  have p2 : w1.cell? ⟨w.heap.size, 2, none⟩ = some (.slice a3 is.length c3) := K0.cell 2
  have HBW := hide BW
  have HK0 := hide K0
  clear B1 BW K0
  cases x with
  | false =>
    go_wp2
    go_ret
    exact ⟨rfl, HBW.out⟩
  | true =>
    go_wp2_with fail
    refine (inosRight_any _ is _ (H.out.i.below HBW.out (Nat.le_refl _)) hi).mono ?_
    rw [HY.out]
    rintro e w2 ⟨rfl, B2⟩
    have BW2 := HBW.out.trans (B2.mono HBW.out.size)
    have K0 := HK0.out.over B2
    have p3 : w2.cell? ⟨w.heap.size, 3, none⟩ = some (.slice a4 bs.length c4) := K0.cell 3
    have HBW2 := hide BW2
    clear B2 BW2 K0 HBW
    cases y with
    | false =>
      go_wp2
      go_ret
      exact ⟨rfl, HBW2.out⟩
    | true =>
      go_wp2_with fail
      refine (blksRight_any _ bs _ (H.out.k.below HBW2.out (Nat.le_refl _)) hk).mono ?_
      rw [HZ.out]
      rintro e w3 ⟨rfl, B3⟩
      have HBW3 := hide (HBW2.out.trans (B3.mono HBW2.out.size))
      clear B3
      go_wp2
      go_ret
      exact ⟨rfl, HBW3.out⟩
theorem diskOk_bits {xs ys : List Bool} {is : List Ino} {bs : List Blk} (h : okB xs.length ys.length = false) : false = diskOk xs ys is bs := by unfold diskOk; rw [h]; rfl
theorem diskOk_i {xs ys : List Bool} {is : List Ino} {bs : List Blk} (h : is.length ≠ 8) : false = diskOk xs ys is bs := by unfold diskOk; simp [h]
theorem diskOk_b {xs ys : List Bool} {is : List Ino} {bs : List Blk} (h : bs.length ≠ 16) : false = diskOk xs ys is bs := by unfold diskOk; simp [h]
theorem diskOk_in {xs ys : List Bool} {is : List Ino} {bs : List Blk} (h : inosOk is = false) : false = diskOk xs ys is bs := by unfold diskOk; simp [h]
theorem diskOk_bn {xs ys : List Bool} {is : List Ino} {bs : List Blk} (h : blksOk bs = false) : false = diskOk xs ys is bs := by unfold diskOk; simp [h]
theorem diskOk_yes {xs ys : List Bool} {is : List Ino} {bs : List Blk} (h : okB xs.length ys.length = true) (h1 : is.length = 8) (h2 : bs.length = 16) (h3 : inosOk is = true) (h4 : blksOk bs = true) : true = diskOk xs ys is bs := by unfold diskOk; simp [h, h1, h2, h3, h4]
set_option maxRecDepth 100000 in
set_option maxHeartbeats 3200000 in
theorem specOk_disk (u v iv bv : Value) (xs ys : List Bool) (is : List Ino) (bs : List Blk) (w : World) (h : DR w u v iv bv xs ys is bs) (hB : ∀ (j : Nat) (h : j < bs.length) (k : Nat) (h' : k < bs[j].2.1.length), bs[j].2.1[k].1.size ≤ 1048576) :
    Calls Tryz.prog 15 #[.agg #[u, v, iv, bv]] w fun e w' => e = .returned (.bool (diskOk xs ys is bs)) ∧ Below w.heap.size w w' := by
  have H := hide h
  have HG := hide hB
  obtain ⟨a3, c3, ri, -, hii⟩ := h.i.ino
  obtain ⟨a4, c4, rb, -, hkk⟩ := h.k.blk
  have HI := hide hii
  have HK := hide hkk
  obtain ⟨a1, c1, a2, c2, -, -, -, -, rfl, rfl, -, -⟩ := h.form
  subst ri rb
  obtain ⟨x, hx⟩ : ∃ x, okB xs.length ys.length = x := ⟨_, rfl⟩
  have HX := hide hx
  obtain ⟨n, hn⟩ : ∃ n, xs.length = n := ⟨_, rfl⟩
  obtain ⟨m, hm⟩ : ∃ m, ys.length = m := ⟨_, rfl⟩
  obtain ⟨ni, hni⟩ : ∃ ni, is.length = ni := ⟨_, rfl⟩
  obtain ⟨nb, hnb⟩ : ∃ nb, bs.length = nb := ⟨_, rfl⟩
  have HN := hide (And.intro hni hnb)
  rw [hn, hm] at hx
  rw [hn, hm, hni, hnb]
  have C := hide (specOk_anyB a1 a2 n m c1 c2)
  rw [hx] at C
  clear h hB hii hkk hx hn hm hni hnb
  go_enter Tryz.func15, Tryz.ntmps15
  go_wp2_with fail
  refine (C.out _).mono ?_
  rintro e w1 ⟨rfl, B1⟩
  have BW : Below w.heap.size w w1 := ((Below.refl _ w).alloc (Nat.le_refl _) _).trans (B1.mono (by simp))
  have K0 : AtC w1 w.heap.size 35 #[.slice a1 n c1, .slice a2 m c2, .slice a3 ni c3, .slice a4 nb c4] := (AtC.new w 35 _).over B1
  have p2 : w1.cell? ⟨w.heap.size, 2, none⟩ = some (.slice a3 ni c3) := K0.cell 2
  have p3 : w1.cell? ⟨w.heap.size, 3, none⟩ = some (.slice a4 nb c4) := K0.cell 3
  have HBW := hide BW
  have HK0 := hide K0
  clear B1 BW K0 C
  cases x with
  | false =>
    go_wp2
    go_ret
    exact ⟨ret_bool (diskOk_bits HX.out), HBW.out⟩
  | true =>
    by_cases h8 : ni = 8
    · by_cases h16 : nb = 16
      · subst h8 h16
        go_wp2
        go_loopw [3] (fun i wr => ∃ j : Nat, j ≤ 8 ∧ i = .int .i64 j ∧ Hid (∀ (k : Nat) (h : k < is.length), k < j → inoOk is[k] = true) ∧ Hid (Below w1.heap.size w1 wr)) (fun i _ => 8 - (intOf i).toNat)
        case atStart => exact ⟨0, Nat.zero_le _, rfl, fun _ _ h => absurd h (Nat.not_lt_zero _), Below.refl _ _⟩
        case round =>
          obtain ⟨j, hj, rfl, HS, HBR⟩ := hrel
          have K0 := HK0.out.over HBR.out
          have p4 : wr.cell? ⟨w.heap.size, 2, none⟩ = some (.slice a3 8 c3) := K0.cell 2
          have p5 : wr.cell? ⟨w.heap.size, 3, none⟩ = some (.slice a4 16 c4) := K0.cell 3
          have HB0 := hide (HBW.out.trans (HBR.out.mono HBW.out.size))
          clear K0
          by_cases hlt : j < 8
          · obtain ⟨g1, o1, pp, rfl, hg1, m1, m2, m3, hr1⟩ := HI.out j (by rw [HN.out.1]; exact hlt)
            have q1 := (HB0.out.cell (p := ⟨g1, o1 + j * 3, none⟩) hg1).trans m1
            have q2 := (HB0.out.cell (p := ⟨g1, o1 + j * 3 + 1, none⟩) hg1).trans m2
            have q3 := (HB0.out.cell (p := ⟨g1, o1 + j * 3 + 2, none⟩) hg1).trans m3
            obtain ⟨y, hy⟩ : ∃ x, is[j]'(by rw [HN.out.1]; exact hlt) = x := ⟨_, rfl⟩
            obtain ⟨y, s, z⟩ := y
            rw [hy] at q1 q2 hr1
            obtain ⟨pa, pc, rfl⟩ := hr1.form
            simp only at q1 q2 q3 hr1
            have HR := hide (hr1.below HB0.out (Nat.le_refl _))
            have j0 : (0 : Int) ≤ (j : Int) := by omega
            have j1 : (j : Int) < 8 := by omega
            have HY := hide hy
            clear m1 m2 m3 hr1 hy
            cases hq : okL y s z with
            | true =>
              have HQ := hide hq
              clear hq
              go_wp2_with (go_at_call 48; refine (specOk_anyI _ _ z _ _ HR.out).mono ?_; rw [HQ.out]; rintro e w2 ⟨rfl, B2⟩; have HB2 := hide (HBR.out.trans (B2.mono HBR.out.size)); clear B2)
              go_roundw
              case rel =>
                refine ⟨j + 1, by omega, by go_num, fun k hk hkj => ?_, HB2.out⟩
                by_cases hkk : k = j
                · subst hkk; rw [HY.out]; exact HQ.out
                · exact HS.out k hk (by omega)
              case measure => simp [intOf]; omega
            | false =>
              have hno : inosOk is = false := all_no (by rw [HN.out.1]; exact hlt) (by rw [HY.out]; exact hq)
              have HNO := hide hno
              have HQ := hide hq
              clear hq hno
              go_wp2_with (go_at_call 48; refine (specOk_anyI _ _ z _ _ HR.out).mono ?_; rw [HQ.out]; rintro e w2 ⟨rfl, B2⟩; have HB2 := hide (HB0.out.trans (B2.mono HB0.out.size)); clear B2)
              go_ret
              exact ⟨ret_bool (diskOk_in HNO.out), HB2.out⟩
          · have hyes : inosOk is = true := all_yes fun k hk => HS.out k hk (by rw [HN.out.1] at hk; omega)
            have HYS := hide hyes
            clear hyes
            go_wp2
            go_loopw [4] (fun i wq => ∃ j : Nat, j ≤ 16 ∧ i = .int .i64 j ∧ Hid (∀ (k : Nat) (h : k < bs.length), k < j → blkOk bs[k] = true) ∧ Hid (Below wr.heap.size wr wq)) (fun i _ => 16 - (intOf i).toNat)
            case atStart => exact ⟨0, Nat.zero_le _, rfl, fun _ _ h => absurd h (Nat.not_lt_zero _), Below.refl _ _⟩
            case round =>
              obtain ⟨j, hj, rfl, HS2, HBQ⟩ := hrel
              have HB1 := hide (HB0.out.trans (HBQ.out.mono HB0.out.size))
              have K1 := HK0.out.over (HBR.out.trans (HBQ.out.mono HBR.out.size))
              have p6 : wr.cell? ⟨w.heap.size, 3, none⟩ = some (.slice a4 16 c4) := K1.cell 3
              clear K1
              by_cases hlt2 : j < 16
              · obtain ⟨g1, o1, pp, rfl, hg1, m1, m2, m3, hr1⟩ := HK.out j (by rw [HN.out.2]; exact hlt2)
                have q1 := (HB1.out.cell (p := ⟨g1, o1 + j * 3, none⟩) hg1).trans m1
                have q2 := (HB1.out.cell (p := ⟨g1, o1 + j * 3 + 1, none⟩) hg1).trans m2
                have q3 := (HB1.out.cell (p := ⟨g1, o1 + j * 3 + 2, none⟩) hg1).trans m3
                have key : ∀ b : Blk, bs[j]'(by rw [HN.out.2]; exact hlt2) = b → ∀ (k : Nat) (h' : k < b.2.1.length), b.2.1[k].1.size ≤ 1048576 := by
                  rintro b rfl
                  exact HG.out j _
                obtain ⟨y, hy⟩ : ∃ x, bs[j]'(by rw [HN.out.2]; exact hlt2) = x := ⟨_, rfl⟩
                obtain ⟨y, s, z⟩ := y
                rw [hy] at q1 q3 hr1
                have hbg : ∀ (k : Nat) (h' : k < s.length), s[k].1.size ≤ 1048576 := key _ hy
                obtain ⟨pa, pc, rfl⟩ := hr1.form
                simp only at q1 q2 q3 hr1
                have HR := hide (hr1.below HB1.out (Nat.le_refl _))
                have HBG := hide hbg
                have j0 : (0 : Int) ≤ (j : Int) := by omega
                have j1 : (j : Int) < 16 := by omega
                have HY := hide hy
                clear m1 m2 m3 hr1 hy hbg key
                cases hq : blockOk y s z with
                | true =>
                  have HQ := hide hq
                  clear hq
                  go_wp2_with (go_at_call 49; refine (specOk_anyK _ _ _ s _ HR.out HBG.out).mono ?_; rw [HQ.out]; rintro e w2 ⟨rfl, B2⟩; have HB2 := hide (HBQ.out.trans (B2.mono HBQ.out.size)); clear B2)
                  go_roundw
                  case rel =>
                    refine ⟨j + 1, by omega, by go_num, fun k hk hkj => ?_, HB2.out⟩
                    by_cases hkk : k = j
                    · subst hkk; rw [HY.out]; exact HQ.out
                    · exact HS2.out k hk (by omega)
                  case measure => simp [intOf]; omega
                | false =>
                  have hno : blksOk bs = false := all_no (by rw [HN.out.2]; exact hlt2) (by rw [HY.out]; exact hq)
                  have HNO := hide hno
                  have HQ := hide hq
                  clear hq hno
                  go_wp2_with (go_at_call 49; refine (specOk_anyK _ _ _ s _ HR.out HBG.out).mono ?_; rw [HQ.out]; rintro e w2 ⟨rfl, B2⟩; have HB2 := hide (HB1.out.trans (B2.mono HB1.out.size)); clear B2)
                  go_ret
                  exact ⟨ret_bool (diskOk_bn HNO.out), HB2.out⟩
              · have hyes : blksOk bs = true := all_yes fun k hk => HS2.out k hk (by rw [HN.out.2] at hk; omega)
                have HYS2 := hide hyes
                clear hyes
                go_wp2
                go_ret
                exact ⟨ret_bool (diskOk_yes HX.out HN.out.1 HN.out.2 HYS.out HYS2.out), HB1.out⟩
      · have hne : bs.length ≠ 16 := by rw [HN.out.2]; exact h16
        have HNE := hide hne
        have hb16 : ((nb : Int) != 16) = true := by simp; omega
        clear hne
        subst h8
        go_wp2
        go_ret
        exact ⟨ret_bool (diskOk_b HNE.out), HBW.out⟩
    · have hne : is.length ≠ 8 := by rw [HN.out.1]; exact h8
      have HNE := hide hne
      have hb8 : ((ni : Int) != 8) = true := by simp; omega
      clear hne
      go_wp2
      go_ret
      exact ⟨ret_bool (diskOk_i HNE.out), HBW.out⟩
end Go.Proofs.YtljooldjcefkoaaGreat
/- A right disk is one as trees want it. No Go function is spoken of. -/
namespace Go.Proofs.YtljooldjcefkoaaGreat
open Go.RowKit Kit
theorem okF_all : ∀ (l p : List Sl), okF p l = true → ∀ s ∈ l, slotOk s = true
  | [], _, _, _, h => by cases h
  | x :: r, p, h, s, hs => by
    rw [okF, Bool.and_eq_true, Bool.and_eq_true] at h
    rcases List.mem_cons.1 hs with rfl | hs
    · exact h.1.1
    · exact okF_all r _ h.2 s hs
theorem RD.of_ok {xs ys : List Bool} {is : List Ino} {bs : List Blk} (h : diskOk xs ys is bs = true) : RD is bs := by
  unfold diskOk at h
  simp only [Bool.and_eq_true, decide_eq_true_eq] at h
  obtain ⟨⟨-, h1, h2⟩, h3, h4⟩ := h
  have hi : ∀ q ∈ is, inoOk q = true := List.all_eq_true.1 h1
  have hb : ∀ q ∈ bs, blkOk q = true := List.all_eq_true.1 h3
  have hi2 : ∀ q ∈ is, ∃ a b, q.2.2 = [a, b] ∧ okR q.1 q.2.1 a b = true := fun q hq => by
    have := hi q hq
    unfold inoOk at this
    obtain ⟨k, l, ps⟩ := q
    match ps, this with
    | [a, b], h => exact ⟨a, b, rfl, h⟩
    | [], h => cases h
    | [_], h => cases h
    | _ :: _ :: _ :: _, h => cases h
  have hb2 : ∀ q ∈ bs, (q.1 = true → q.2.2.size = 0 ∧ slotsOk q.2.1 = true) ∧ (q.1 = false → q.2.1.length = 0 ∧ q.2.2.size ≤ 16) := fun q hq => by
    have := hb q hq
    unfold blkOk blockOk at this
    constructor
    · intro e; rw [e] at this; simpa using this
    · intro e; rw [e] at this; simpa using this
  refine ⟨h2, h4, fun q hq => ?_, fun q hq => ?_, fun q hq => ?_, fun q hq e => ?_, fun q hq s hs => ?_, fun q hq => ?_⟩
  · obtain ⟨a, b, -, h⟩ := hi2 q hq
    have := of_decide_eq_true h
    omega
  · obtain ⟨a, b, e, -⟩ := hi2 q hq
    rw [e]; rfl
  · cases e : q.1 with
    | true =>
      have := (hb2 q hq).1 e
      unfold slotsOk at this
      simp only [Bool.and_eq_true, decide_eq_true_eq] at this
      omega
    | false => have := (hb2 q hq).2 e; omega
  · exact List.length_eq_zero_iff.1 ((hb2 q hq).2 e).1
  · cases e : q.1 with
    | true =>
      have := ((hb2 q hq).1 e).2
      unfold slotsOk at this
      rw [Bool.and_eq_true] at this
      have := okF_all _ _ this.2 s hs
      rcases of_decide_eq_true this with h | h
      · exact .inl (size_zero h.1)
      · exact .inr h.1
    | false =>
      have := List.length_eq_zero_iff.1 ((hb2 q hq).2 e).1
      rw [this] at hs; cases hs
  · cases e : q.1 with
    | true => have := (hb2 q hq).1 e; omega
    | false => exact ((hb2 q hq).2 e).2
end Go.Proofs.YtljooldjcefkoaaGreat
/- impl.UnitOfIno, UnitOfBlock, hasIno, hasBlock, isNode by their contracts, at right disks. -/
namespace Go.Proofs.YtljooldjcefkoaaGreat
open Go.RowKit Kit
set_option maxHeartbeats 800000 in
theorem unitI_any (i : Int) (w : World) :
    Calls Tryz.prog 87 #[.int .i64 i] w fun e w' => ∃ r : Int, e = .returned (.int .i64 r) ∧ decide (0 ≤ r) = inB i 1 8 ∧ w' = w := by
  cases hb : inB i 1 8 with
  | false =>
    rcases inB_false hb with h | h
    · have h2 : decide (i < 1) = true := by simp; omega
      go_enter Tryz.func87, Tryz.ntmps87
      go_wp2
      go_ret
      exact ⟨-1, rfl, by decide, rfl⟩
    · have h1 : decide (i < 1) = false := by simp; omega
      have h2 : decide (8 < i) = true := by simp; omega
      go_enter Tryz.func87, Tryz.ntmps87
      go_wp2
      go_ret
      exact ⟨-1, rfl, by decide, rfl⟩
  | true =>
    obtain ⟨h0, h1⟩ := inB_true hb
    have h2 : decide (i < 1) = false := by simp; omega
    have h3 : decide (8 < i) = false := by simp; omega
    go_enter Tryz.func87, Tryz.ntmps87
    go_wp2
    go_ret
    refine ⟨_, rfl, ?_, rfl⟩
    simp
    omega
set_option maxHeartbeats 800000 in
theorem unitB_any (i : Int) (w : World) :
    Calls Tryz.prog 102 #[.int .i64 i] w fun e w' => ∃ r : Int, e = .returned (.int .i64 r) ∧ decide (0 ≤ r) = inB i 1 16 ∧ w' = w := by
  cases hb : inB i 1 16 with
  | false =>
    rcases inB_false hb with h | h
    · have h2 : decide (i < 1) = true := by simp; omega
      go_enter Tryz.func102, Tryz.ntmps102
      go_wp2
      go_ret
      exact ⟨-1, rfl, by decide, rfl⟩
    · have h1 : decide (i < 1) = false := by simp; omega
      have h2 : decide (16 < i) = true := by simp; omega
      go_enter Tryz.func102, Tryz.ntmps102
      go_wp2
      go_ret
      exact ⟨-1, rfl, by decide, rfl⟩
  | true =>
    obtain ⟨h0, h1⟩ := inB_true hb
    have h2 : decide (i < 1) = false := by simp; omega
    have h3 : decide (16 < i) = false := by simp; omega
    go_enter Tryz.func102, Tryz.ntmps102
    go_wp2
    go_ret
    refine ⟨_, rfl, ?_, rfl⟩
    simp
    omega
set_option maxHeartbeats 800000 in
theorem hasI_any (i : Int) (dx dy bv : Value) (a3 : Option Addr) (c3 : Nat) (w : World) :
    Calls Tryz.prog 59 #[.agg #[dx, dy, .slice a3 8 c3, bv], .int .i64 i] w fun e w' => e = .returned (.bool (inB i 1 8)) ∧ w' = w.alloc (.cells #[dx, dy, .slice a3 8 c3, bv] 35) := by
  have CU := hide (fun W => unitI_any i W)
  cases hb : inB i 1 8 with
  | false =>
    rw [hb] at CU
    go_enter Tryz.func59, Tryz.ntmps59
    go_wp2_with fail
    refine (CU.out _).mono ?_
    rintro e w1 ⟨r, rfl, hr, rfl⟩
    go_wp2
    go_ret
    exact ⟨rfl, rfl⟩
  | true =>
    rw [hb] at CU
    obtain ⟨h0, h1⟩ := inB_true hb
    have h2 : decide (i ≤ 8) = true := by simp; omega
    go_enter Tryz.func59, Tryz.ntmps59
    go_wp2_with fail
    refine (CU.out _).mono ?_
    rintro e w1 ⟨r, rfl, hr, rfl⟩
    go_wp2
    go_ret
    exact ⟨rfl, rfl⟩
set_option maxHeartbeats 800000 in
theorem hasB_any (i : Int) (dx dy iv : Value) (a3 : Option Addr) (c3 : Nat) (w : World) :
    Calls Tryz.prog 89 #[.agg #[dx, dy, iv, .slice a3 16 c3], .int .i64 i] w fun e w' => e = .returned (.bool (inB i 1 16)) ∧ w' = w.alloc (.cells #[dx, dy, iv, .slice a3 16 c3] 35) := by
  have CU := hide (fun W => unitB_any i W)
  cases hb : inB i 1 16 with
  | false =>
    rw [hb] at CU
    go_enter Tryz.func89, Tryz.ntmps89
    go_wp2_with fail
    refine (CU.out _).mono ?_
    rintro e w1 ⟨r, rfl, hr, rfl⟩
    go_wp2
    go_ret
    exact ⟨rfl, rfl⟩
  | true =>
    rw [hb] at CU
    obtain ⟨h0, h1⟩ := inB_true hb
    have h2 : decide (i ≤ 16) = true := by simp; omega
    go_enter Tryz.func89, Tryz.ntmps89
    go_wp2_with fail
    refine (CU.out _).mono ?_
    rintro e w1 ⟨r, rfl, hr, rfl⟩
    go_wp2
    go_ret
    exact ⟨rfl, rfl⟩
set_option maxRecDepth 100000 in
set_option maxHeartbeats 1600000 in
theorem kindI_any (i : Int) (dx dy iv bv : Value) (xs ys : List Bool) (is : List Ino) (bs : List Blk) (w : World) (h : DR w dx dy iv bv xs ys is bs) (hR : RD is bs) :
    Calls Tryz.prog 25 #[.agg #[dx, dy, iv, bv], .int .i64 i] w fun e w' => e = .returned (.int .i64 (kindAt is i)) ∧ Below w.heap.size w w' := by
  obtain ⟨a3, c3, rfl, -, hc⟩ := h.i
  have h8 := hR.hi
  have HB0 : Hid (∀ A B, Below w.heap.size w ((w.alloc (.cells A 35)).alloc (.cells B 35))) := fun A B => ((Below.refl _ w).alloc (Nat.le_refl _) _).alloc (by simp) _
  have CH := hide (fun W => hasI_any i dx dy bv a3 c3 W)
  cases hb : inB i 1 8 with
  | false =>
    rw [hb] at CH
    have e0 : kindAt is i = 0 := kindAt_out (by rw [h8]; exact hb)
    rw [e0, h8]
    clear hc h hR hb
    go_enter Tryz.func25, Tryz.ntmps25
    go_wp2_with fail
    refine (CH.out _).mono ?_
    rintro e w1 ⟨rfl, rfl⟩
    go_wp2
    go_ret
    exact ⟨rfl, HB0.out _ _⟩
  | true =>
    rw [hb] at CH
    obtain ⟨h1, h2⟩ := inB_true hb
    obtain ⟨j, rfl⟩ : ∃ j : Nat, i = (j : Int) + 1 := ⟨(i - 1).toNat, by omega⟩
    have hj : j < is.length := by omega
    obtain ⟨g2, o2, ⟨t0, t1, t2⟩, rfl, hg2, r0, r1, r2, e0, e1, rr⟩ := hc j hj
    rw [(kindAt_in hj).1]
    obtain ⟨⟨kd, ln, ps⟩, hX⟩ : ∃ X, is[j] = X := ⟨_, rfl⟩
    rw [hX] at e0 e1 rr ⊢
    simp only at e0 e1 rr r0 r1 r2 ⊢
    subst e0 e1
    have hwj : IntKind.i64.wrap (j : Int) = (j : Int) := wrap_small _ (by omega) (by omega)
    have j0 : (0 : Int) ≤ (j : Int) := by omega
    have j1 : (j : Int) < 8 := by omega
    have y0 : ((w.alloc (.cells #[dx, dy, .slice (some ⟨g2, o2, none⟩) 8 c3, bv] 35)).alloc (.cells #[dx, dy, .slice (some ⟨g2, o2, none⟩) 8 c3, bv] 35)).cell? ⟨g2, o2 + j * 3, none⟩ = some (.int .i64 kd) := ((HB0.out _ _).cell (p := ⟨g2, o2 + j * 3, none⟩) hg2).trans r0
    rw [h8]
    clear hc h hR hb h1 h2 hX rr r0 r1 r2 h8
    go_enter Tryz.func25, Tryz.ntmps25
    go_wp2_with fail
    refine (CH.out _).mono ?_
    rintro e w1 ⟨rfl, rfl⟩
    go_wp2
    go_ret
    exact ⟨rfl, HB0.out _ _⟩
set_option maxHeartbeats 1600000 in
theorem isNode_any (i : Int) (dx dy iv bv : Value) (xs ys : List Bool) (is : List Ino) (bs : List Blk) (w : World) (h : DR w dx dy iv bv xs ys is bs) (hR : RD is bs) :
    Calls Tryz.prog 91 #[.agg #[dx, dy, iv, bv], .int .i64 i] w fun e w' => e = .returned (.bool (decide (¬ kindAt is i = 0))) ∧ Below w.heap.size w w' := by
  have CK := hide (kindI_any i dx dy iv bv xs ys is bs (w.alloc (.cells #[dx, dy, iv, bv] 35)) (h.alloc _) hR)
  have HB : Hid (∀ w1, Below (w.alloc (.cells #[dx, dy, iv, bv] 35)).heap.size (w.alloc (.cells #[dx, dy, iv, bv] 35)) w1 → Below w.heap.size w w1) := fun w1 b => ((Below.refl _ w).alloc (Nat.le_refl _) _).trans (b.mono (by simp))
  obtain ⟨a1, c1, a2, c2, a3, c3, a4, c4, rfl, rfl, rfl, rfl⟩ := h.form
  have hk3 := hR.kind i
  obtain ⟨kd, hkd⟩ : ∃ k, kindAt is i = k := ⟨_, rfl⟩
  rw [hkd] at hk3 CK ⊢
  clear h hR hkd
  rcases hk3 with rfl | rfl | rfl
  all_goals
    go_enter Tryz.func91, Tryz.ntmps91
    go_wp2_with fail
    refine CK.out.mono ?_
    rintro e w1 ⟨rfl, B1⟩
    have HB1 := hide (HB.out _ B1)
    clear B1
    go_wp2
    go_ret
    exact ⟨rfl, HB1.out⟩
end Go.Proofs.YtljooldjcefkoaaGreat
/- Library contracts laid at this translation by the shelf (its own tool, plain mode). -/
namespace Go.Proofs.YtljooldjcefkoaaGreat
open Go.Shelf
def Tryz.lays128_ren : Go.Shelf.Ren := ⟨fun | 128 => 118 | n => n, fun | 51 => 139 | 3 => 3 | 4 => 4 | 46 => 126 | 5 => 5 | 9 => 9 | n => n, fun | n => n⟩
theorem Tryz.lays128 : Go.Proofs.Lays.n128 Tryz.prog Tryz.lays128_ren := {
  mixed := by kernel_rfl
  f128 := Tryz.func118.trans (congrArg some (by kernel_rfl))
  t3 := Tryz.underlying3
  a3 := Tryz.isAgg3
  z3 := Tryz.sizeOf3
  v3 := Tryz.zeroValue3
  t4 := Tryz.underlying4
  a4 := Tryz.isAgg4
  z4 := Tryz.sizeOf4
  v4 := Tryz.zeroValue4
  t5 := Tryz.underlying5
  a5 := Tryz.isAgg5
  z5 := Tryz.sizeOf5
  v5 := Tryz.zeroValue5
  t9 := Tryz.underlying9
  a9 := Tryz.isAgg9
  z9 := Tryz.sizeOf9
  v9 := Tryz.zeroValue9
  t46 := Tryz.underlying126
  a46 := Tryz.isAgg126
  z46 := Tryz.sizeOf126
  v46 := Tryz.zeroValue126
  t51 := Tryz.underlying139
  a51 := Tryz.isAgg139
  z51 := Tryz.sizeOf139
  v51 := Tryz.zeroValue139 }
theorem Tryz.bits_Len32 (x : Int) (w : World) (h0 : 0 ≤ x) (h1 : x ≤ 4294967295) :
    Calls Tryz.prog 118 #[.int .u32 x] w fun e w' => e = .returned (.int .i64 (Lib.bitLen x.toNat)) ∧ w' = w := Any.bits_Len32 Tryz.lays128 x w h0 h1
def Tryz.lays125_ren : Go.Shelf.Ren := ⟨fun | 125 => 104 | 128 => 118 | 129 => 119 | n => n, fun | 46 => 126 | 3 => 3 | 51 => 139 | 53 => 141 | 4 => 4 | 5 => 5 | 9 => 9 | n => n, fun | n => n⟩
theorem Tryz.lays125 : Go.Proofs.Lays.n125 Tryz.prog Tryz.lays125_ren := {
  mixed := by kernel_rfl
  f125 := Tryz.func104.trans (congrArg some (by kernel_rfl))
  f128 := Tryz.func118.trans (congrArg some (by kernel_rfl))
  f129 := Tryz.func119.trans (congrArg some (by kernel_rfl))
  t3 := Tryz.underlying3
  a3 := Tryz.isAgg3
  z3 := Tryz.sizeOf3
  v3 := Tryz.zeroValue3
  t4 := Tryz.underlying4
  a4 := Tryz.isAgg4
  z4 := Tryz.sizeOf4
  v4 := Tryz.zeroValue4
  t5 := Tryz.underlying5
  a5 := Tryz.isAgg5
  z5 := Tryz.sizeOf5
  v5 := Tryz.zeroValue5
  t9 := Tryz.underlying9
  a9 := Tryz.isAgg9
  z9 := Tryz.sizeOf9
  v9 := Tryz.zeroValue9
  t46 := Tryz.underlying126
  a46 := Tryz.isAgg126
  z46 := Tryz.sizeOf126
  v46 := Tryz.zeroValue126
  t51 := Tryz.underlying139
  a51 := Tryz.isAgg139
  z51 := Tryz.sizeOf139
  v51 := Tryz.zeroValue139
  t53 := Tryz.underlying141
  a53 := Tryz.isAgg141
  z53 := Tryz.sizeOf141
  v53 := Tryz.zeroValue141 }
theorem Tryz.bits_Len (x : Int) (w : World) (h0 : 0 ≤ x) (h1 : x ≤ 18446744073709551615) :
    Calls Tryz.prog 104 #[.int .u64 x] w fun e w' => e = .returned (.int .i64 (Lib.bitLen x.toNat)) ∧ w' = w := Any.bits_Len Tryz.lays125 x w h0 h1
def Tryz.lays215_ren : Go.Shelf.Ren := ⟨fun | 215 => 126 | n => n, fun | 3 => 3 | 4 => 4 | n => n, fun | n => n⟩
theorem Tryz.lays215 : Go.Proofs.Lays.n215 Tryz.prog Tryz.lays215_ren := {
  mixed := by kernel_rfl
  f215 := Tryz.func126.trans (congrArg some (by kernel_rfl))
  t3 := Tryz.underlying3
  a3 := Tryz.isAgg3
  z3 := Tryz.sizeOf3
  v3 := Tryz.zeroValue3
  t4 := Tryz.underlying4
  a4 := Tryz.isAgg4
  z4 := Tryz.sizeOf4
  v4 := Tryz.zeroValue4 }
open Go.RowKit in
theorem Tryz.cmp_isNaN_int (x : Int) (w : World) :
    Calls Tryz.prog 126 #[.int .i64 x] w fun e w' => e = .returned (.bool false) ∧ w' = w := Any.cmp_isNaN_int Tryz.lays215 x w
def Tryz.lays129_ren : Go.Shelf.Ren := ⟨fun | 129 => 119 | n => n, fun | 53 => 141 | 3 => 3 | 4 => 4 | 46 => 126 | 5 => 5 | 9 => 9 | n => n, fun | n => n⟩
theorem Tryz.lays129 : Go.Proofs.Lays.n129 Tryz.prog Tryz.lays129_ren := {
  mixed := by kernel_rfl
  f129 := Tryz.func119.trans (congrArg some (by kernel_rfl))
  t3 := Tryz.underlying3
  a3 := Tryz.isAgg3
  z3 := Tryz.sizeOf3
  v3 := Tryz.zeroValue3
  t4 := Tryz.underlying4
  a4 := Tryz.isAgg4
  z4 := Tryz.sizeOf4
  v4 := Tryz.zeroValue4
  t5 := Tryz.underlying5
  a5 := Tryz.isAgg5
  z5 := Tryz.sizeOf5
  v5 := Tryz.zeroValue5
  t9 := Tryz.underlying9
  a9 := Tryz.isAgg9
  z9 := Tryz.sizeOf9
  v9 := Tryz.zeroValue9
  t46 := Tryz.underlying126
  a46 := Tryz.isAgg126
  z46 := Tryz.sizeOf126
  v46 := Tryz.zeroValue126
  t53 := Tryz.underlying141
  a53 := Tryz.isAgg141
  z53 := Tryz.sizeOf141
  v53 := Tryz.zeroValue141 }
theorem Tryz.bits_Len64 (x : Int) (w : World) (h0 : 0 ≤ x) (h1 : x ≤ 18446744073709551615) :
    Calls Tryz.prog 119 #[.int .u64 x] w fun e w' => e = .returned (.int .i64 (Lib.bitLen x.toNat)) ∧ w' = w := Any.bits_Len64 Tryz.lays129 x w h0 h1
def Tryz.lays189_ren : Go.Shelf.Ren := ⟨fun | 189 => 92 | 125 => 104 | 257 => 103 | 128 => 118 | 129 => 119 | 294 => 109 | 295 => 110 | 296 => 111 | 297 => 112 | 298 => 113 | 299 => 114 | 216 => 115 | 300 => 116 | 301 => 117 | 328 => 121 | 329 => 122 | 330 => 123 | 331 => 124 | 332 => 125 | 215 => 126 | 343 => 127 | n => n, fun | 28 => 42 | 3 => 3 | 46 => 126 | 0 => 0 | 51 => 139 | 53 => 141 | 4 => 4 | 183 => 131 | 182 => 130 | 131 => 136 | 5 => 5 | 9 => 9 | 218 => 142 | 222 => 146 | 228 => 149 | 229 => 150 | n => n, fun | n => n⟩
theorem Tryz.lays189 : Go.Proofs.Lays.n189 Tryz.prog Tryz.lays189_ren := {
  mixed := by kernel_rfl
  f125 := Tryz.func104.trans (congrArg some (by kernel_rfl))
  f128 := Tryz.func118.trans (congrArg some (by kernel_rfl))
  f129 := Tryz.func119.trans (congrArg some (by kernel_rfl))
  f189 := Tryz.func92.trans (congrArg some (by kernel_rfl))
  f215 := Tryz.func126.trans (congrArg some (by kernel_rfl))
  f216 := Tryz.func115.trans (congrArg some (by kernel_rfl))
  f257 := Tryz.func103.trans (congrArg some (by kernel_rfl))
  f294 := Tryz.func109.trans (congrArg some (by kernel_rfl))
  f295 := Tryz.func110.trans (congrArg some (by kernel_rfl))
  f296 := Tryz.func111.trans (congrArg some (by kernel_rfl))
  f297 := Tryz.func112.trans (congrArg some (by kernel_rfl))
  f298 := Tryz.func113.trans (congrArg some (by kernel_rfl))
  f299 := Tryz.func114.trans (congrArg some (by kernel_rfl))
  f300 := Tryz.func116.trans (congrArg some (by kernel_rfl))
  f301 := Tryz.func117.trans (congrArg some (by kernel_rfl))
  f328 := Tryz.func121.trans (congrArg some (by kernel_rfl))
  f329 := Tryz.func122.trans (congrArg some (by kernel_rfl))
  f330 := Tryz.func123.trans (congrArg some (by kernel_rfl))
  f331 := Tryz.func124.trans (congrArg some (by kernel_rfl))
  f332 := Tryz.func125.trans (congrArg some (by kernel_rfl))
  f343 := Tryz.func127.trans (congrArg some (by kernel_rfl))
  t0 := Tryz.underlying0
  a0 := Tryz.isAgg0
  z0 := Tryz.sizeOf0
  v0 := Tryz.zeroValue0
  t3 := Tryz.underlying3
  a3 := Tryz.isAgg3
  z3 := Tryz.sizeOf3
  v3 := Tryz.zeroValue3
  t4 := Tryz.underlying4
  a4 := Tryz.isAgg4
  z4 := Tryz.sizeOf4
  v4 := Tryz.zeroValue4
  t5 := Tryz.underlying5
  a5 := Tryz.isAgg5
  z5 := Tryz.sizeOf5
  v5 := Tryz.zeroValue5
  t9 := Tryz.underlying9
  a9 := Tryz.isAgg9
  z9 := Tryz.sizeOf9
  v9 := Tryz.zeroValue9
  t28 := Tryz.underlying42
  a28 := Tryz.isAgg42
  z28 := Tryz.sizeOf42
  v28 := Tryz.zeroValue42
  t46 := Tryz.underlying126
  a46 := Tryz.isAgg126
  z46 := Tryz.sizeOf126
  v46 := Tryz.zeroValue126
  t51 := Tryz.underlying139
  a51 := Tryz.isAgg139
  z51 := Tryz.sizeOf139
  v51 := Tryz.zeroValue139
  t53 := Tryz.underlying141
  a53 := Tryz.isAgg141
  z53 := Tryz.sizeOf141
  v53 := Tryz.zeroValue141
  t131 := Tryz.underlying136
  a131 := Tryz.isAgg136
  z131 := Tryz.sizeOf136
  v131 := Tryz.zeroValue136
  t182 := Tryz.underlying130
  a182 := Tryz.isAgg130
  z182 := Tryz.sizeOf130
  v182 := Tryz.zeroValue130
  t183 := Tryz.underlying131
  a183 := Tryz.isAgg131
  z183 := Tryz.sizeOf131
  v183 := Tryz.zeroValue131
  t218 := Tryz.underlying142
  a218 := Tryz.isAgg142
  z218 := Tryz.sizeOf142
  v218 := Tryz.zeroValue142
  t222 := Tryz.underlying146
  a222 := Tryz.isAgg146
  z222 := Tryz.sizeOf146
  v222 := Tryz.zeroValue146
  t228 := Tryz.underlying149
  a228 := Tryz.isAgg149
  z228 := Tryz.sizeOf149
  v228 := Tryz.zeroValue149
  t229 := Tryz.underlying150
  a229 := Tryz.isAgg150
  z229 := Tryz.sizeOf150
  v229 := Tryz.zeroValue150 }
open Go.Sort Go.RowKit in
theorem Tryz.slices_Sort_int (blk off cap : Nat) (zs : List Int) (w : World) (hH : Holds (Value.int .i64) w blk off zs.toArray) (hblk : blk < w.heap.size) (hsz : zs.length < 4611686018427387904) :
    Calls Tryz.prog 92 #[.slice (some ⟨blk, off, none⟩) zs.length cap] w fun e w' =>
      e = .returned (.tuple #[]) ∧ ∃ n os, w' = grow (putRow (Value.int .i64) (Sort.ahead w n) blk off (zs.mergeSort fun x y => decide (x ≤ y)).toArray) os := Any.slices_Sort_int Tryz.lays189 blk off cap zs w hH hblk hsz
def Tryz.lays108_ren : Go.Shelf.Ren := ⟨fun | 108 => 95 | n => n, fun | 28 => 42 | 3 => 3 | 0 => 0 | 4 => 4 | n => n, fun | n => n⟩
theorem Tryz.lays108 : Go.Proofs.Lays.n108 Tryz.prog Tryz.lays108_ren := {
  mixed := by kernel_rfl
  f108 := Tryz.func95.trans (congrArg some (by kernel_rfl))
  t0 := Tryz.underlying0
  a0 := Tryz.isAgg0
  z0 := Tryz.sizeOf0
  v0 := Tryz.zeroValue0
  t3 := Tryz.underlying3
  a3 := Tryz.isAgg3
  z3 := Tryz.sizeOf3
  v3 := Tryz.zeroValue3
  t4 := Tryz.underlying4
  a4 := Tryz.isAgg4
  z4 := Tryz.sizeOf4
  v4 := Tryz.zeroValue4
  t28 := Tryz.underlying42
  a28 := Tryz.isAgg42
  z28 := Tryz.sizeOf42
  v28 := Tryz.zeroValue42 }
open Go.Lib in
theorem Tryz.slices_Index_int (b off n c : Nat) (zs : List Int) (x : Int) (w : World) (hz : n ≤ zs.length) (hbig : n ≤ 9223372036854775807) (hc : ∀ j, j < zs.length → w.cell? ⟨b, off + j, none⟩ = some (.int .i64 (zs.getD j 0))) :
    Calls Tryz.prog 95 #[.slice (some ⟨b, off, none⟩) n c, .int .i64 x] w fun e w' => e = .returned (.int .i64 (Lib.idxOf (zs.take n) x)) ∧ w' = w := Any.slices_Index_int Tryz.lays108 b off n c zs x w hz hbig hc
open Go.Lib in
theorem Tryz.slices_Index_int_empty (a : Option Addr) (c : Nat) (x : Int) (w : World) :
    Calls Tryz.prog 95 #[.slice a 0 c, .int .i64 x] w fun e w' => e = .returned (.int .i64 (Lib.idxOf [] x)) ∧ w' = w := Any.slices_Index_int_empty Tryz.lays108 a c x w
def Tryz.lays107_ren : Go.Shelf.Ren := ⟨fun | 107 => 79 | 108 => 95 | n => n, fun | 28 => 42 | 3 => 3 | 4 => 4 | 0 => 0 | n => n, fun | n => n⟩
theorem Tryz.lays107 : Go.Proofs.Lays.n107 Tryz.prog Tryz.lays107_ren := {
  mixed := by kernel_rfl
  f107 := Tryz.func79.trans (congrArg some (by kernel_rfl))
  f108 := Tryz.func95.trans (congrArg some (by kernel_rfl))
  t0 := Tryz.underlying0
  a0 := Tryz.isAgg0
  z0 := Tryz.sizeOf0
  v0 := Tryz.zeroValue0
  t3 := Tryz.underlying3
  a3 := Tryz.isAgg3
  z3 := Tryz.sizeOf3
  v3 := Tryz.zeroValue3
  t4 := Tryz.underlying4
  a4 := Tryz.isAgg4
  z4 := Tryz.sizeOf4
  v4 := Tryz.zeroValue4
  t28 := Tryz.underlying42
  a28 := Tryz.isAgg42
  z28 := Tryz.sizeOf42
  v28 := Tryz.zeroValue42 }
open Go.Lib in
theorem Tryz.slices_Contains_int (b off n c : Nat) (zs : List Int) (x : Int) (w : World) (hz : n ≤ zs.length) (hbig : n ≤ 9223372036854775807) (hc : ∀ j, j < zs.length → w.cell? ⟨b, off + j, none⟩ = some (.int .i64 (zs.getD j 0))) :
    Calls Tryz.prog 79 #[.slice (some ⟨b, off, none⟩) n c, .int .i64 x] w fun e w' => e = .returned (.bool ((zs.take n).contains x)) ∧ w' = w := Any.slices_Contains_int Tryz.lays107 b off n c zs x w hz hbig hc
open Go.Lib in
theorem Tryz.slices_Contains_int_empty (a : Option Addr) (c : Nat) (x : Int) (w : World) :
    Calls Tryz.prog 79 #[.slice a 0 c, .int .i64 x] w fun e w' => e = .returned (.bool false) ∧ w' = w := Any.slices_Contains_int_empty Tryz.lays107 a c x w
def Tryz.laysNm237_ren : Go.Shelf.Ren := ⟨fun | 37 => 126 | n => n, fun | 3 => 3 | 4 => 4 | n => n, fun | n => n⟩
theorem Tryz.laysNm237 : Go.Proofs.Lays2.n37 Tryz.prog Tryz.laysNm237_ren := {
  mixed := by kernel_rfl
  f37 := Tryz.func126.trans (congrArg some (by kernel_rfl))
  t3 := Tryz.underlying3
  a3 := Tryz.isAgg3
  z3 := Tryz.sizeOf3
  v3 := Tryz.zeroValue3
  t4 := Tryz.underlying4
  a4 := Tryz.isAgg4
  z4 := Tryz.sizeOf4
  v4 := Tryz.zeroValue4 }
open Go.RowKit Go.Lib in
theorem Tryz.cmp_isNaN_int2 (x : Int) (w : World) :
    Calls Tryz.prog 126 #[.int .i64 x] w fun e w' => e = .returned (.bool false) ∧ w' = w := Any.cmp_isNaN_int2 Tryz.laysNm237 x w
def Tryz.laysNm231_ren : Go.Shelf.Ren := ⟨fun | 31 => 115 | 37 => 126 | n => n, fun | 3 => 3 | 4 => 4 | n => n, fun | n => n⟩
theorem Tryz.laysNm231 : Go.Proofs.Lays2.n31 Tryz.prog Tryz.laysNm231_ren := {
  mixed := by kernel_rfl
  f31 := Tryz.func115.trans (congrArg some (by kernel_rfl))
  f37 := Tryz.func126.trans (congrArg some (by kernel_rfl))
  t3 := Tryz.underlying3
  a3 := Tryz.isAgg3
  z3 := Tryz.sizeOf3
  v3 := Tryz.zeroValue3
  t4 := Tryz.underlying4
  a4 := Tryz.isAgg4
  z4 := Tryz.sizeOf4
  v4 := Tryz.zeroValue4 }
open Go.RowKit Go.Lib in
theorem Tryz.cmp_Less_int2 (x y : Int) (w : World) :
    Calls Tryz.prog 115 #[.int .i64 x, .int .i64 y] w fun e w' => e = .returned (.bool (decide (x < y))) ∧ w' = w := Any.cmp_Less_int2 Tryz.laysNm231 x y w
open Go.RowKit Go.Sort in
theorem Tryz.slices_Sort_int_none (p : Option Addr) (cap : Nat) (w : World) :
    Calls Tryz.prog 92 #[.slice p 0 cap] w fun e w' => e = .returned (.tuple #[]) ∧ w' = w := Any.slices_Sort_int_none Tryz.lays189 p cap w
def Tryz.laysSlE33_f78_ren : Go.Shelf.Ren := ⟨fun | 33 => 78 | n => n, fun | 22 => 22 | 23 => 4 | 4 => 4 | 3 => 3 | 0 => 0 | n => n, fun | n => n⟩
theorem Tryz.laysSlE33_f78 : Go.Proofs.SlLaysE.n33 Tryz.prog Tryz.laysSlE33_f78_ren := {
  mixed := by kernel_rfl
  f33 := ⟨Tryz.f78.name, by decide, Tryz.func78.trans (congrArg some (by kernel_rfl))⟩
  t0 := Tryz.underlying0
  a0 := Tryz.isAgg0
  z0 := Tryz.sizeOf0
  v0 := Tryz.zeroValue0
  t3 := Tryz.underlying3
  a3 := Tryz.isAgg3
  z3 := Tryz.sizeOf3
  v3 := Tryz.zeroValue3
  t4 := Tryz.underlying4
  a4 := Tryz.isAgg4
  z4 := Tryz.sizeOf4
  v4 := Tryz.zeroValue4
  t22 := Tryz.underlying22
  a22 := Tryz.isAgg22
  z22 := Tryz.sizeOf22
  v22 := Tryz.zeroValue22
  a23 := Tryz.isAgg4
  z23 := Tryz.sizeOf4 }
open Go.RowKit Go.Lib in
theorem Tryz.slices_Equal {α : Type} [Inhabited α] (enc : α → Value) (eq : α → α → Bool) (hne : NeqAt Tryz.prog 4 enc eq) (b1 o1 n c b2 o2 m d : Nat) (xs ys : List α) (w : World) (hx : n ≤ xs.length) (hy : m ≤ ys.length) (hbig : n ≤ 9223372036854775807) (hbig2 : m ≤ 9223372036854775807) (hc1 : ∀ j, j < xs.length → w.cell? ⟨b1, o1 + j, none⟩ = some (enc xs[j]!)) (hc2 : ∀ j, j < ys.length → w.cell? ⟨b2, o2 + j, none⟩ = some (enc ys[j]!)) :
    Calls Tryz.prog 78 #[.slice (some ⟨b1, o1, none⟩) n c, .slice (some ⟨b2, o2, none⟩) m d] w fun e w' => e = .returned (.bool (Lib.allEq eq (xs.take n) (ys.take m))) ∧ ∃ q, w' = w.drewN q := AnyE.slices_Equal Tryz.laysSlE33_f78 enc eq hne b1 o1 n c b2 o2 m d xs ys w hx hy hbig hbig2 hc1 hc2
end Go.Proofs.YtljooldjcefkoaaGreat
/- impl.blocksOf, namedSlots, TextOf, nodeAt by their contracts, at right disks. -/
namespace Go.Proofs.YtljooldjcefkoaaGreat
open Go.RowKit Kit
/-- What blocksOf answers. -/
def blocksOf (is : List Ino) (bs : List Blk) (i kind : Int) : List Blk := if kindAt is i = kind then (ptrsAt is i).map (blkAt bs) else []
/-- A block's cells and its reading. -/
theorem blk_cells {w : World} {bv : Value} {bs : List Blk} (h : R3 KB w bv bs) (x : Int) : ∃ t : V3, KB.R w t (blkAt bs x) ∧ (inB x 1 bs.length = false → t = (.bool false, .slice none 0 0, .string ⟨#[]⟩)) ∧ (inB x 1 bs.length = true → ∃ (j : Nat) (g off c : Nat), x = (j : Int) + 1 ∧ j < bs.length ∧ bv = .slice (some ⟨g, off, none⟩) bs.length c ∧ g < w.heap.size ∧ w.cell? ⟨g, off + j * 3, none⟩ = some t.1 ∧ w.cell? ⟨g, off + j * 3 + 1, none⟩ = some t.2.1 ∧ w.cell? ⟨g, off + j * 3 + 2, none⟩ = some t.2.2) := by
  cases hb : inB x 1 bs.length with
  | false =>
    rw [blkAt_no hb]
    exact ⟨(.bool false, .slice none 0 0, .string ⟨#[]⟩), ⟨rfl, ⟨none, 0, rfl, Nat.le_refl _, fun j hj => by simp at hj⟩, rfl⟩, (fun _ => rfl), fun e => by cases e⟩
  | true =>
    obtain ⟨j, hj, rfl, e⟩ := blkAt_in hb
    obtain ⟨a, c, rfl, -, hc⟩ := h
    obtain ⟨g, off, t, rfl, hg, k0, k1, k2, hr⟩ := hc j hj
    exact ⟨t, by rw [e]; exact hr, (fun e => by cases e), fun _ => ⟨j, g, off, c, rfl, hj, rfl, hg, k0, k1, k2⟩⟩
/-- The cells of a list of two blocks, the first j of them put. -/
def cellsJ (u v : V3) : Nat → Array Value
  | 0 => #[.bool false, .slice none 0 0, .string ⟨#[]⟩, .bool false, .slice none 0 0, .string ⟨#[]⟩]
  | 1 => #[u.1, u.2.1, u.2.2, .bool false, .slice none 0 0, .string ⟨#[]⟩]
  | _ => #[u.1, u.2.1, u.2.2, v.1, v.2.1, v.2.2]
theorem cellsJ_1 (u v : V3) : (((cellsJ u v 0).setIfInBounds 0 u.1).setIfInBounds 1 u.2.1).setIfInBounds 2 u.2.2 = cellsJ u v 1 := by simp [cellsJ]
theorem cellsJ_2 (u v : V3) : (((cellsJ u v 1).setIfInBounds 3 v.1).setIfInBounds 4 v.2.1).setIfInBounds 5 v.2.2 = cellsJ u v 2 := by simp [cellsJ]
/-- blocksOf under way. -/
structure BoR (w wr : World) (D L : Array Value) : Prop where
  b : Below w.heap.size w wr
  d : AtC wr w.heap.size 35 D
  l : AtC wr (w.heap.size + 1 + 1) 73 L
theorem BoR.below {w wr wr' : World} {D L : Array Value} (h : BoR w wr D L) (hb : Below wr.heap.size wr wr') : BoR w wr' D L := ⟨h.b.trans (hb.mono h.b.size), h.d.over hb, h.l.over hb⟩
theorem BoR.set {w wr : World} {D L : Array Value} (h : BoR w wr D L) (j : Nat) (x : Value) : BoR w (wr.setCell ⟨w.heap.size + 1 + 1, j, none⟩ x) D (L.setIfInBounds j x) :=
  ⟨h.b.setCell (p := ⟨w.heap.size + 1 + 1, j, none⟩) (by show w.heap.size ≤ w.heap.size + 1 + 1; omega) x, h.d.other (by omega) _, h.l.set j x⟩
theorem BoR.set3 {w wr : World} {D L : Array Value} (h : BoR w wr D L) (o : Nat) (x y z : Value) : BoR w (((wr.setCell ⟨w.heap.size + 1 + 1, o, none⟩ x).setCell ⟨w.heap.size + 1 + 1, o + 1, none⟩ y).setCell ⟨w.heap.size + 1 + 1, o + 2, none⟩ z) D (((L.setIfInBounds o x).setIfInBounds (o + 1) y).setIfInBounds (o + 2) z) := ((h.set o x).set (o + 1) y).set (o + 2) z
theorem r3_two {w : World} {g : Nat} {u v : V3} {x y : Blk} (h : AtC w g 73 #[u.1, u.2.1, u.2.2, v.1, v.2.1, v.2.2]) (hu : KB.R w u x) (hv : KB.R w v y) : R3 KB w (.slice (some ⟨g, 0, none⟩) 2 2) [x, y] := by
  refine ⟨some ⟨g, 0, none⟩, 2, rfl, Nat.le_refl _, fun j hj => ?_⟩
  have hj' : j = 0 ∨ j = 1 := by simp at hj; omega
  rcases hj' with rfl | rfl
  · exact ⟨g, 0, u, rfl, h.lt, h.cell 0, h.cell 1, h.cell 2, hu⟩
  · exact ⟨g, 0, v, rfl, h.lt, h.cell 3, h.cell 4, h.cell 5, hv⟩
set_option maxRecDepth 100000 in
set_option maxHeartbeats 3200000 in
theorem blocksOf_any (i kind : Int) (dx dy iv bv : Value) (xs ys : List Bool) (is : List Ino) (bs : List Blk) (w : World) (h : DR w dx dy iv bv xs ys is bs) (hR : RD is bs) (hk0 : ¬ kind = 0) :
    Calls Tryz.prog 101 #[.agg #[dx, dy, iv, bv], .int .i64 i, .int .i64 kind] w fun e w' => ∃ v, e = .returned v ∧ R3 KB w' v (blocksOf is bs i kind) ∧ Below w.heap.size w w' := by
  have HH := hide h
  have HRD := hide hR
  obtain ⟨a1, c1, a2, c2, a3, c3, a4, c4, rfl, rfl, rfl, rfl⟩ := h.form
  have h8 := hR.hi
  have h16 := hR.hb
  have hc := h.i
  rw [h8, h16]
  have HB0 : Hid (∀ A B, Below w.heap.size w ((w.alloc (.cells A 35)).alloc (.cells B 35))) := fun A B => ((Below.refl _ w).alloc (Nat.le_refl _) _).alloc (by simp) _
  have CH := hide (fun W => hasI_any i (.slice a1 xs.length c1) (.slice a2 ys.length c2) (.slice a4 16 c4) a3 c3 W)
  have hnil : ∀ W, R3 KB W (.slice none 0 0) [] := fun W => ⟨none, 0, rfl, Nat.le_refl _, fun j hj => by simp at hj⟩
  have HNIL := hide hnil
  clear hnil
  cases hb : inB i 1 8 with
  | false =>
    rw [hb] at CH
    have e0 : blocksOf is bs i kind = [] := by unfold blocksOf; rw [kindAt_out (by rw [h8]; exact hb), if_neg (fun e => hk0 e.symm)]
    rw [e0]
    clear hc h hR hb e0 h8 h16
    go_enter Tryz.func101, Tryz.ntmps101
    go_wp2_with fail
    refine (CH.out _).mono ?_
    rintro e w1 ⟨rfl, rfl⟩
    go_wp2
    go_ret
    exact ⟨_, rfl, HNIL.out _, HB0.out _ _⟩
  | true =>
    rw [hb] at CH
    obtain ⟨h1, h2⟩ := inB_true hb
    obtain ⟨j, rfl⟩ : ∃ j : Nat, i = (j : Int) + 1 := ⟨(i - 1).toNat, by omega⟩
    have hj : j < is.length := by omega
    obtain ⟨qa, qc, qe, -, qh⟩ := hc
    simp only [Value.slice.injEq, true_and] at qe
    obtain ⟨rfl, rfl⟩ := qe
    obtain ⟨g2, o2, ⟨t0, t1, t2⟩, rfl, hg2, r0, r1, r2, e0, e1, rr⟩ := qh j hj
    have hpl := hR.two _ (List.getElem_mem hj)
    have hB : blocksOf is bs ((j : Int) + 1) kind = if is[j].1 = kind then is[j].2.2.map (blkAt bs) else [] := by unfold blocksOf; rw [(kindAt_in hj).1, (kindAt_in hj).2]
    rw [hB]
    obtain ⟨⟨kd, ln, ps⟩, hX⟩ : ∃ X, is[j] = X := ⟨_, rfl⟩
    rw [hX] at e0 e1 rr hpl ⊢
    simp only at e0 e1 rr r0 r1 r2 hpl ⊢
    subst e0 e1
    obtain ⟨p0, p1, rfl⟩ : ∃ p0 p1, ps = [p0, p1] := by
      match ps, hpl with
      | [p0, p1], _ => exact ⟨p0, p1, rfl⟩
    obtain ⟨sa, sc, e1, hcp⟩ := rr
    have e2 : t2 = .slice sa 2 sc := e1
    subst e2
    obtain ⟨gp, op, rfl, hgp, kp0⟩ := hcp 0 (by simp)
    obtain ⟨gp', op', e3, -, kp1⟩ := hcp 1 (by simp)
    simp only [Option.some.injEq, Addr.mk.injEq, and_true] at e3
    obtain ⟨rfl, rfl⟩ := e3
    simp only [List.getElem_cons_zero, List.getElem_cons_succ, Nat.add_zero] at kp0 kp1
    have HP0 : Hid (∀ W, Below w.heap.size w W → W.cell? ⟨gp, op, none⟩ = some (.int .i64 p0)) := fun W b => (b.cell (p := ⟨gp, op, none⟩) hgp).trans kp0
    have HP1 : Hid (∀ W, Below w.heap.size w W → W.cell? ⟨gp, op + 1, none⟩ = some (.int .i64 p1)) := fun W b => (b.cell (p := ⟨gp, op + 1, none⟩) hgp).trans kp1
    have HI : Hid (∀ W, Below w.heap.size w W → W.cell? ⟨g2, o2 + j * 3, none⟩ = some (.int .i64 kd) ∧ W.cell? ⟨g2, o2 + j * 3 + 1, none⟩ = some (.int .i64 ln) ∧ W.cell? ⟨g2, o2 + j * 3 + 2, none⟩ = some (.slice (some ⟨gp, op, none⟩) 2 sc)) := fun W bb => ⟨(bb.cell (p := ⟨g2, o2 + j * 3, none⟩) hg2).trans r0, (bb.cell (p := ⟨g2, o2 + j * 3 + 1, none⟩) hg2).trans r1, (bb.cell (p := ⟨g2, o2 + j * 3 + 2, none⟩) hg2).trans r2⟩
    have hwj : IntKind.i64.wrap (j : Int) = (j : Int) := wrap_small _ (by omega) (by omega)
    have j0 : (0 : Int) ≤ (j : Int) := by omega
    have j1 : (j : Int) < 8 := by omega
    obtain ⟨y0, y1, y2⟩ := HI.out _ (HB0.out #[.slice a1 xs.length c1, .slice a2 ys.length c2, .slice (some ⟨g2, o2, none⟩) 8 c3, .slice a4 16 c4] #[.slice a1 xs.length c1, .slice a2 ys.length c2, .slice (some ⟨g2, o2, none⟩) 8 c3, .slice a4 16 c4])
    obtain ⟨⟨u0, u1, u2⟩, RU, FU, GU⟩ := blk_cells HH.out.k p0
    obtain ⟨⟨v0, v1, v2⟩, RV, FV, GV⟩ := blk_cells HH.out.k p1
    obtain ⟨ub, ua, un, uc, ut, hu0, hu1, hu2⟩ : ∃ ub ua un uc ut, u0 = .bool ub ∧ u1 = .slice ua un uc ∧ u2 = .string ut := by
      obtain ⟨q0, ⟨sa', sc', q1, -⟩, q2⟩ := RU
      exact ⟨_, _, _, _, _, q0, q1, q2⟩
    obtain ⟨vb, va, vn, vc, vt, hv0, hv1, hv2⟩ : ∃ ub ua un uc ut, v0 = .bool ub ∧ v1 = .slice ua un uc ∧ v2 = .string ut := by
      obtain ⟨q0, ⟨sa', sc', q1, -⟩, q2⟩ := RV
      exact ⟨_, _, _, _, _, q0, q1, q2⟩
    subst hu0 hu1 hu2 hv0 hv1 hv2
    rw [h16] at FU GU FV GV
    have HF0 := hide FU
    have HF1 := hide FV
    have HG0 := hide GU
    have HG1 := hide GV
    have HRU := hide (And.intro RU RV)
    have CB := hide (fun (p : Int) W => hasB_any p (.slice a1 xs.length c1) (.slice a2 ys.length c2) (.slice (some ⟨g2, o2, none⟩) 8 c3) a4 c4 W)
    clear hB hX hb h1 h2 hcp h r0 r1 r2 kp0 kp1 hpl hR qh RU RV FU FV GU GV h8 h16
    by_cases hkd : kd = kind
    rotate_left
    · have hkb : (kd != kind) = true := by simp [hkd]
      rw [if_neg hkd]
      go_enter Tryz.func101, Tryz.ntmps101
      go_wp2_with fail
      refine (CH.out _).mono ?_
      rintro e w1 ⟨rfl, rfl⟩
      go_wp2
      go_ret
      exact ⟨_, rfl, HNIL.out _, HB0.out _ _⟩
    subst hkd
    rw [if_pos rfl]
    have mk : ∀ W : World, (Instr.makeSlice 33 (.int .i64 2) (.int .i64 2)).run Tryz.prog W = .ok (.slice (some ⟨W.heap.size, 0, none⟩) 2 2) (W.alloc (.cells #[.bool false, .slice none 0 0, .string ⟨#[]⟩, .bool false, .slice none 0 0, .string ⟨#[]⟩] 73)) := fun W => by
      have := make_blk 2 (by decide) W
      rw [show madeCells #[.bool false, .slice none 0 0, .string ⟨#[]⟩] (2 * 3) = cellsJ (.bool ub, .slice ua un uc, .string ut) (.bool vb, .slice va vn vc, .string vt) 0 from Array.toList_inj.1 (by rw [made_three]; rfl)] at this
      exact this
    go_enter Tryz.func101, Tryz.ntmps101
    go_wp2_with fail
    refine (CH.out _).mono ?_
    rintro e w1 ⟨rfl, rfl⟩
    have HBOX : Hid (BoR w (((w.alloc (.cells #[.slice a1 xs.length c1, .slice a2 ys.length c2, .slice (some ⟨g2, o2, none⟩) 8 c3, .slice a4 16 c4] 35)).alloc (.cells #[.slice a1 xs.length c1, .slice a2 ys.length c2, .slice (some ⟨g2, o2, none⟩) 8 c3, .slice a4 16 c4] 35)).alloc (.cells #[.bool false, .slice none 0 0, .string ⟨#[]⟩, .bool false, .slice none 0 0, .string ⟨#[]⟩] 73)) #[.slice a1 xs.length c1, .slice a2 ys.length c2, .slice (some ⟨g2, o2, none⟩) 8 c3, .slice a4 16 c4] (cellsJ (.bool ub, .slice ua un uc, .string ut) (.bool vb, .slice va vn vc, .string vt) 0)) := by
      refine ⟨(HB0.out _ _).alloc (HB0.out #[.slice a1 xs.length c1, .slice a2 ys.length c2, .slice (some ⟨g2, o2, none⟩) 8 c3, .slice a4 16 c4] #[.slice a1 xs.length c1, .slice a2 ys.length c2, .slice (some ⟨g2, o2, none⟩) 8 c3, .slice a4 16 c4]).size _, ((AtC.new w 35 _).alloc _).alloc _, ?_⟩
      have := AtC.new ((w.alloc (.cells #[.slice a1 xs.length c1, .slice a2 ys.length c2, .slice (some ⟨g2, o2, none⟩) 8 c3, .slice a4 16 c4] 35)).alloc (.cells #[.slice a1 xs.length c1, .slice a2 ys.length c2, .slice (some ⟨g2, o2, none⟩) 8 c3, .slice a4 16 c4] 35)) 73 #[.bool false, .slice none 0 0, .string ⟨#[]⟩, .bool false, .slice none 0 0, .string ⟨#[]⟩]
      rw [World.size_alloc, World.size_alloc] at this
      exact this
    go_wp2_with fail
    clear y0 y1 y2 CH HNIL HB0
    go_loopw [38] (fun iv wr => ∃ q : Nat, q ≤ 2 ∧ iv = .int .i64 q ∧ Hid (BoR w wr #[.slice a1 xs.length c1, .slice a2 ys.length c2, .slice (some ⟨g2, o2, none⟩) 8 c3, .slice a4 16 c4] (cellsJ (.bool ub, .slice ua un uc, .string ut) (.bool vb, .slice va vn vc, .string vt) q))) (fun iv _ => 2 - (intOf iv).toNat)
    case atStart => exact ⟨0, by omega, rfl, HBOX.out⟩
    case round =>
      obtain ⟨q, hq, rfl, HS⟩ := hrel
      clear HBOX mk
      have hq3 : q = 0 ∨ q = 1 ∨ q = 2 := by omega
      rcases hq3 with rfl | rfl | rfl
      · skip
        have y1 : wr.cell? ⟨gp, op, none⟩ = some (.int .i64 p0) := HP0.out _ HS.out.b
        have z0 : wr.cell? ⟨w.heap.size, 0, none⟩ = some (.slice a1 xs.length c1) := HS.out.d.cell 0
        have z1 : wr.cell? ⟨w.heap.size, 1, none⟩ = some (.slice a2 ys.length c2) := HS.out.d.cell 1
        have z2 : wr.cell? ⟨w.heap.size, 2, none⟩ = some (.slice (some ⟨g2, o2, none⟩) 8 c3) := HS.out.d.cell 2
        have z3 : wr.cell? ⟨w.heap.size, 3, none⟩ = some (.slice a4 16 c4) := HS.out.d.cell 3
        cases hb : inB p0 1 16 with
        | false =>
          have HZ := hide (HF0.out hb)
          have CB2 := hide (fun W => CB.out p0 W)
          rw [hb] at CB2
          clear hb
          go_wp2_with fail
          refine (CB2.out _).mono ?_
          rintro e w5 ⟨rfl, rfl⟩
          have HS2 := hide (HS.out.below ((Below.refl _ wr).alloc (Nat.le_refl _) (.cells #[.slice a1 xs.length c1, .slice a2 ys.length c2, .slice (some ⟨g2, o2, none⟩) 8 c3, .slice a4 16 c4] 35)))
          clear z0 z1 z2 z3 y1
          go_wp2
          go_roundw
          case rel =>
            refine ⟨1, by omega, rfl, hide ?_⟩
            have := HS2.out
            rw [show cellsJ (.bool ub, .slice ua un uc, .string ut) (.bool vb, .slice va vn vc, .string vt) 1 = cellsJ (.bool ub, .slice ua un uc, .string ut) (.bool vb, .slice va vn vc, .string vt) 0 from by have := HZ.out; simp only [Prod.mk.injEq] at this; obtain ⟨q0, q1, q2⟩ := this; simp only [cellsJ, q0, q1, q2]]
            exact this
          case measure => simp [intOf]
        | true =>
          obtain ⟨jb, gb, ob, cb, hpj, hjb, eb, hgb, b0, b1, b2⟩ := HG0.out hb
          simp only [Value.slice.injEq, true_and] at eb
          obtain ⟨rfl, -⟩ := eb
          have CB2 := hide (fun W => CB.out p0 W)
          rw [hb] at CB2
          clear hb
          subst hpj
          have jb16 : jb < 16 := by omega
          have hwj2 : IntKind.i64.wrap (jb : Int) = (jb : Int) := wrap_small _ (by omega) (by omega)
          have jb0 : (0 : Int) ≤ (jb : Int) := by omega
          have jb1 : (jb : Int) < 16 := by omega
          go_wp2_with fail
          refine (CB2.out _).mono ?_
          rintro e w5 ⟨rfl, rfl⟩
          obtain ⟨w5, hw5⟩ : ∃ w5, wr.alloc (.cells #[.slice a1 xs.length c1, .slice a2 ys.length c2, .slice (some ⟨g2, o2, none⟩) 8 c3, .slice (some ⟨gb, ob, none⟩) 16 c4] 35) = w5 := ⟨_, rfl⟩
          have HS2 : Hid (BoR w w5 #[.slice a1 xs.length c1, .slice a2 ys.length c2, .slice (some ⟨g2, o2, none⟩) 8 c3, .slice (some ⟨gb, ob, none⟩) 16 c4] (cellsJ (.bool ub, .slice ua un uc, .string ut) (.bool vb, .slice va vn vc, .string vt) 0)) := by rw [← hw5]; exact HS.out.below ((Below.refl _ wr).alloc (Nat.le_refl _) _)
          have d0 := (HS2.out.b.cell (p := ⟨gb, ob + jb * 3, none⟩) hgb).trans b0
          have d1 := (HS2.out.b.cell (p := ⟨gb, ob + jb * 3 + 1, none⟩) hgb).trans b1
          have d2 := (HS2.out.b.cell (p := ⟨gb, ob + jb * 3 + 2, none⟩) hgb).trans b2
          have z3 : w5.cell? ⟨w.heap.size, 3, none⟩ = some (.slice (some ⟨gb, ob, none⟩) 16 c4) := HS2.out.d.cell 3
          rw [hw5]
          clear hw5 b0 b1 b2 y1 z0 z1 z2 HS CB2
          have k0 : w5.cell? ⟨w.heap.size + 1 + 1, 0, none⟩ = some (.bool false) := HS2.out.l.cell 0
          have k1 : w5.cell? ⟨w.heap.size + 1 + 1, 1, none⟩ = some (.slice none 0 0) := HS2.out.l.cell 1
          have k2 : w5.cell? ⟨w.heap.size + 1 + 1, 2, none⟩ = some (.string ⟨#[]⟩) := HS2.out.l.cell 2
          have f0 := HS2.out.l.frozen 0
          have f1 := HS2.out.l.frozen 1
          have f2 := HS2.out.l.frozen 2
          have l5 : w.heap.size + 1 + 1 < w5.heap.size := HS2.out.l.lt
          have hgb2 : ¬ gb = w.heap.size + 1 + 1 := by omega
          have HS3 := hide (HS2.out.set3 0 (.bool ub) (.slice ua un uc) (.string ut))
          rw [cellsJ_1 (.bool ub, .slice ua un uc, .string ut) (.bool vb, .slice va vn vc, .string vt)] at HS3
          clear HS2
          go_wp2
          go_roundw
          case rel => exact ⟨1, by omega, rfl, HS3.out⟩
          case measure => simp [intOf]
      · skip
        have y1 : wr.cell? ⟨gp, op + 1, none⟩ = some (.int .i64 p1) := HP1.out _ HS.out.b
        have z0 : wr.cell? ⟨w.heap.size, 0, none⟩ = some (.slice a1 xs.length c1) := HS.out.d.cell 0
        have z1 : wr.cell? ⟨w.heap.size, 1, none⟩ = some (.slice a2 ys.length c2) := HS.out.d.cell 1
        have z2 : wr.cell? ⟨w.heap.size, 2, none⟩ = some (.slice (some ⟨g2, o2, none⟩) 8 c3) := HS.out.d.cell 2
        have z3 : wr.cell? ⟨w.heap.size, 3, none⟩ = some (.slice a4 16 c4) := HS.out.d.cell 3
        cases hb : inB p1 1 16 with
        | false =>
          have HZ := hide (HF1.out hb)
          have CB2 := hide (fun W => CB.out p1 W)
          rw [hb] at CB2
          clear hb
          go_wp2_with fail
          refine (CB2.out _).mono ?_
          rintro e w5 ⟨rfl, rfl⟩
          have HS2 := hide (HS.out.below ((Below.refl _ wr).alloc (Nat.le_refl _) (.cells #[.slice a1 xs.length c1, .slice a2 ys.length c2, .slice (some ⟨g2, o2, none⟩) 8 c3, .slice a4 16 c4] 35)))
          clear z0 z1 z2 z3 y1
          go_wp2
          go_roundw
          case rel =>
            refine ⟨2, by omega, rfl, hide ?_⟩
            have := HS2.out
            rw [show cellsJ (.bool ub, .slice ua un uc, .string ut) (.bool vb, .slice va vn vc, .string vt) 2 = cellsJ (.bool ub, .slice ua un uc, .string ut) (.bool vb, .slice va vn vc, .string vt) 1 from by have := HZ.out; simp only [Prod.mk.injEq] at this; obtain ⟨q0, q1, q2⟩ := this; simp only [cellsJ, q0, q1, q2]]
            exact this
          case measure => simp [intOf]
        | true =>
          obtain ⟨jb, gb, ob, cb, hpj, hjb, eb, hgb, b0, b1, b2⟩ := HG1.out hb
          simp only [Value.slice.injEq, true_and] at eb
          obtain ⟨rfl, -⟩ := eb
          have CB2 := hide (fun W => CB.out p1 W)
          rw [hb] at CB2
          clear hb
          subst hpj
          have jb16 : jb < 16 := by omega
          have hwj2 : IntKind.i64.wrap (jb : Int) = (jb : Int) := wrap_small _ (by omega) (by omega)
          have jb0 : (0 : Int) ≤ (jb : Int) := by omega
          have jb1 : (jb : Int) < 16 := by omega
          go_wp2_with fail
          refine (CB2.out _).mono ?_
          rintro e w5 ⟨rfl, rfl⟩
          obtain ⟨w5, hw5⟩ : ∃ w5, wr.alloc (.cells #[.slice a1 xs.length c1, .slice a2 ys.length c2, .slice (some ⟨g2, o2, none⟩) 8 c3, .slice (some ⟨gb, ob, none⟩) 16 c4] 35) = w5 := ⟨_, rfl⟩
          have HS2 : Hid (BoR w w5 #[.slice a1 xs.length c1, .slice a2 ys.length c2, .slice (some ⟨g2, o2, none⟩) 8 c3, .slice (some ⟨gb, ob, none⟩) 16 c4] (cellsJ (.bool ub, .slice ua un uc, .string ut) (.bool vb, .slice va vn vc, .string vt) 1)) := by rw [← hw5]; exact HS.out.below ((Below.refl _ wr).alloc (Nat.le_refl _) _)
          have d0 := (HS2.out.b.cell (p := ⟨gb, ob + jb * 3, none⟩) hgb).trans b0
          have d1 := (HS2.out.b.cell (p := ⟨gb, ob + jb * 3 + 1, none⟩) hgb).trans b1
          have d2 := (HS2.out.b.cell (p := ⟨gb, ob + jb * 3 + 2, none⟩) hgb).trans b2
          have z3 : w5.cell? ⟨w.heap.size, 3, none⟩ = some (.slice (some ⟨gb, ob, none⟩) 16 c4) := HS2.out.d.cell 3
          rw [hw5]
          clear hw5 b0 b1 b2 y1 z0 z1 z2 HS CB2
          have k0 : w5.cell? ⟨w.heap.size + 1 + 1, 3, none⟩ = some (.bool false) := HS2.out.l.cell 3
          have k1 : w5.cell? ⟨w.heap.size + 1 + 1, 4, none⟩ = some (.slice none 0 0) := HS2.out.l.cell 4
          have k2 : w5.cell? ⟨w.heap.size + 1 + 1, 5, none⟩ = some (.string ⟨#[]⟩) := HS2.out.l.cell 5
          have f0 := HS2.out.l.frozen 3
          have f1 := HS2.out.l.frozen 4
          have f2 := HS2.out.l.frozen 5
          have l5 : w.heap.size + 1 + 1 < w5.heap.size := HS2.out.l.lt
          have hgb2 : ¬ gb = w.heap.size + 1 + 1 := by omega
          have HS3 := hide (HS2.out.set3 3 (.bool vb) (.slice va vn vc) (.string vt))
          rw [cellsJ_2 (.bool ub, .slice ua un uc, .string ut) (.bool vb, .slice va vn vc, .string vt)] at HS3
          clear HS2
          go_wp2
          go_roundw
          case rel => exact ⟨2, by omega, rfl, HS3.out⟩
          case measure => simp [intOf]
      · go_wp2
        go_ret
        exact ⟨_, rfl, r3_two HS.out.l (KB.bel HRU.out.1 HS.out.b (Nat.le_refl _)) (KB.bel HRU.out.2 HS.out.b (Nat.le_refl _)), HS.out.b⟩
end Go.Proofs.YtljooldjcefkoaaGreat
