/- Lists of inodes and of blocks that are compared by a function handed in: slices.EqualFunc by its contracts. -/
import Derived.Test.YtajollmmpdkhbaaSg
namespace Go.Proofs.Ytajollmmpdkhbaa
open Go.RowKit Kit
set_option maxRecDepth 100000 in
set_option maxHeartbeats 1600000 in
theorem equalFI_any (va vb : Value) (a b : List Ino) (w : World) (ha : R3 KI w va a) (hb : R3 KI w vb b) (hl : a.length ≤ 1048576) (hp : ∀ (j : Nat) (h : j < a.length), a[j].2.2.length ≤ 1048576) :
    Calls Try.prog 53 #[va, vb, .func (.func 54) #[] #[]] w fun e w' => e = .returned (.bool (decide (a = b))) ∧ Below w.heap.size w w' := by
  obtain ⟨a1, c1, rfl, -, ha'⟩ := ha.ino
  obtain ⟨a2, c2, rfl, -, hb'⟩ := hb.ino
  have HA := hide ha'
  have HB := hide hb'
  have HP := hide hp
  clear ha hb hp ha' hb'
  by_cases hn : a.length = b.length
  · have HN := hide hn
    rw [← hn]
    clear hn
    go_enter Try.func53, Try.ntmps53
    go_wp2
    go_loopw [17] (fun i wr => ∃ j : Nat, j ≤ a.length ∧ i = .int .i64 j ∧ Hid (∀ (k : Nat) (h1 : k < a.length) (h2 : k < b.length), k < j → a[k] = b[k]) ∧ Below w.heap.size w wr) (fun i _ => a.length - (intOf i).toNat)
    case atStart => exact ⟨0, Nat.zero_le _, rfl, fun _ _ _ h => absurd h (Nat.not_lt_zero _), Below.refl _ _⟩
    case round =>
      obtain ⟨j, hj, rfl, HS, hb⟩ := hrel
      by_cases hlt : j < a.length
      · obtain ⟨g1, o1, p1, rfl, hg1, m1, m2, m3, hr1⟩ := HA.out j hlt
        obtain ⟨g2, o2, p2, rfl, hg2, n1, n2, n3, hr2⟩ := HB.out j (by rw [← HN.out]; exact hlt)
        have hpl := HP.out j hlt
        replace m1 := (hb.cell (p := ⟨g1, o1 + j * 3, none⟩) hg1).trans m1
        replace m2 := (hb.cell (p := ⟨g1, o1 + j * 3 + 1, none⟩) hg1).trans m2
        replace m3 := (hb.cell (p := ⟨g1, o1 + j * 3 + 2, none⟩) hg1).trans m3
        replace n1 := (hb.cell (p := ⟨g2, o2 + j * 3, none⟩) hg2).trans n1
        replace n2 := (hb.cell (p := ⟨g2, o2 + j * 3 + 1, none⟩) hg2).trans n2
        replace n3 := (hb.cell (p := ⟨g2, o2 + j * 3 + 2, none⟩) hg2).trans n3
        have hg3 : g2 < wr.heap.size := Nat.lt_of_lt_of_le hg2 hb.size
        have j0 : (0 : Int) ≤ (j : Int) := by omega
        have j1 : (j : Int) < (a.length : Int) := by omega
        obtain ⟨x, hx⟩ : ∃ x, a[j] = x := ⟨_, rfl⟩
        obtain ⟨x', hy⟩ : ∃ y, b[j]'(by rw [← HN.out]; exact hlt) = y := ⟨_, rfl⟩
        have HX := hide hx
        have HY := hide hy
        rw [hx] at m1 m2 hr1 hpl
        rw [hy] at n1 n2 hr2
        clear hx hy
        obtain ⟨y, s, z⟩ := x
        obtain ⟨y2, s2, z2⟩ := x'
        obtain ⟨pa, pc, rfl⟩ := hr1.form
        obtain ⟨pb, pd, rfl⟩ := hr2.form
        simp only at m1 m2 m3 n1 n2 n3 hr1 hr2 hpl
        have HR : Hid (∀ w', Below w.heap.size w w' → RInts w' (.slice pa z.length pc) z ∧ RInts w' (.slice pb z2.length pd) z2) := fun w' hb => ⟨hr1.below hb (Nat.le_refl _), hr2.below hb (Nat.le_refl _)⟩
        have C := hide (fun W h h' => implSameI_any y s y2 s2 z z2 (.slice pa z.length pc) (.slice pb z2.length pd) W h h' hpl)
        have hsz := hb.size
        have HBB := hide hb
        clear hb hr1 hr2 hpl
        by_cases hq : ((y, s, z) = ((y2, s2, z2) : Ino))
        · have hd : decide ((y, s, z) = ((y2, s2, z2) : Ino)) = true := decide_eq_true hq
          rw [hd] at C
          have HQ := hide hq
          clear hd hq
          go_wp2_with (go_at_call 54; refine (C.out _ (HR.out _ ((HBB.out.alloc hsz _).alloc (by simp; omega) _)).1 (HR.out _ ((HBB.out.alloc hsz _).alloc (by simp; omega) _)).2).mono ?_; rintro e w1 ⟨rfl, B1⟩; have HB1 := hide (((HBB.out.alloc hsz _).alloc (by simp; omega) _).trans (B1.mono (by simp; omega))); clear B1)
          go_roundw
          case rel =>
            refine ⟨j + 1, by omega, by go_num, fun k h1 h2 hkj => ?_, HB1.out⟩
            by_cases hkk : k = j
            · subst hkk; rw [HX.out, HY.out]; exact HQ.out
            · exact HS.out k h1 h2 (by omega)
          case measure => simp [intOf]; omega
        · have hd : decide ((y, s, z) = ((y2, s2, z2) : Ino)) = false := decide_eq_false hq
          rw [hd] at C
          have hno : false = decide (a = b) := same_at (h1 := hlt) (h2 := by rw [← HN.out]; exact hlt) (by rw [HX.out, HY.out]; exact hq)
          have HNO := hide hno
          clear hd hq hno
          go_wp2_with (go_at_call 54; refine (C.out _ (HR.out _ ((HBB.out.alloc hsz _).alloc (by simp; omega) _)).1 (HR.out _ ((HBB.out.alloc hsz _).alloc (by simp; omega) _)).2).mono ?_; rintro e w1 ⟨rfl, B1⟩; have HB1 := hide (((HBB.out.alloc hsz _).alloc (by simp; omega) _).trans (B1.mono (by simp; omega))); clear B1)
          go_ret
          exact ⟨ret_bool HNO.out, HB1.out⟩
      · have hyes : true = decide (a = b) := same_all HN.out fun k h1 h2 => HS.out k h1 h2 (by omega)
        have HY := hide hyes
        have HBB := hide hb
        clear hyes hb
        go_wp2
        go_ret
        exact ⟨ret_bool HY.out, HBB.out⟩
  · have HN := hide (same_len hn)
    have hn2 : (((a.length : Nat) : Int) == ((b.length : Nat) : Int)) = false := by simp; omega
    go_enter Try.func53, Try.ntmps53
    go_wp2
    go_ret
    exact ⟨ret_bool HN.out, Below.refl _ _⟩
set_option maxRecDepth 100000 in
set_option maxHeartbeats 1600000 in
theorem equalFB_any (va vb : Value) (a b : List Blk) (w : World) (ha : R3 KB w va a) (hb : R3 KB w vb b) (hl : a.length ≤ 1048576) (hp : ∀ (j : Nat) (h : j < a.length), a[j].2.1.length ≤ 1048576) :
    Calls Try.prog 55 #[va, vb, .func (.func 56) #[] #[]] w fun e w' => e = .returned (.bool (decide (a = b))) ∧ Below w.heap.size w w' := by
  obtain ⟨a1, c1, rfl, -, ha'⟩ := ha.blk
  obtain ⟨a2, c2, rfl, -, hb'⟩ := hb.blk
  have HA := hide ha'
  have HB := hide hb'
  have HP := hide hp
  clear ha hb hp ha' hb'
  by_cases hn : a.length = b.length
  · have HN := hide hn
    rw [← hn]
    clear hn
    go_enter Try.func55, Try.ntmps55
    go_wp2
    go_loopw [17] (fun i wr => ∃ j : Nat, j ≤ a.length ∧ i = .int .i64 j ∧ Hid (∀ (k : Nat) (h1 : k < a.length) (h2 : k < b.length), k < j → a[k] = b[k]) ∧ Below w.heap.size w wr) (fun i _ => a.length - (intOf i).toNat)
    case atStart => exact ⟨0, Nat.zero_le _, rfl, fun _ _ _ h => absurd h (Nat.not_lt_zero _), Below.refl _ _⟩
    case round =>
      obtain ⟨j, hj, rfl, HS, hb⟩ := hrel
      by_cases hlt : j < a.length
      · obtain ⟨g1, o1, p1, rfl, hg1, m1, m2, m3, hr1⟩ := HA.out j hlt
        obtain ⟨g2, o2, p2, rfl, hg2, n1, n2, n3, hr2⟩ := HB.out j (by rw [← HN.out]; exact hlt)
        have hpl := HP.out j hlt
        replace m1 := (hb.cell (p := ⟨g1, o1 + j * 3, none⟩) hg1).trans m1
        replace m2 := (hb.cell (p := ⟨g1, o1 + j * 3 + 1, none⟩) hg1).trans m2
        replace m3 := (hb.cell (p := ⟨g1, o1 + j * 3 + 2, none⟩) hg1).trans m3
        replace n1 := (hb.cell (p := ⟨g2, o2 + j * 3, none⟩) hg2).trans n1
        replace n2 := (hb.cell (p := ⟨g2, o2 + j * 3 + 1, none⟩) hg2).trans n2
        replace n3 := (hb.cell (p := ⟨g2, o2 + j * 3 + 2, none⟩) hg2).trans n3
        have hg3 : g2 < wr.heap.size := Nat.lt_of_lt_of_le hg2 hb.size
        have j0 : (0 : Int) ≤ (j : Int) := by omega
        have j1 : (j : Int) < (a.length : Int) := by omega
        obtain ⟨x, hx⟩ : ∃ x, a[j] = x := ⟨_, rfl⟩
        obtain ⟨x', hy⟩ : ∃ y, b[j]'(by rw [← HN.out]; exact hlt) = y := ⟨_, rfl⟩
        have HX := hide hx
        have HY := hide hy
        rw [hx] at m1 m3 hr1 hpl
        rw [hy] at n1 n3 hr2
        clear hx hy
        obtain ⟨y, z, s⟩ := x
        obtain ⟨y2, z2, s2⟩ := x'
        obtain ⟨pa, pc, rfl⟩ := hr1.form
        obtain ⟨pb, pd, rfl⟩ := hr2.form
        simp only at m1 m2 m3 n1 n2 n3 hr1 hr2 hpl
        have HR : Hid (∀ w', Below w.heap.size w w' → RSl w' (.slice pa z.length pc) z ∧ RSl w' (.slice pb z2.length pd) z2) := fun w' hb => ⟨hr1.below hb (Nat.le_refl _), hr2.below hb (Nat.le_refl _)⟩
        have C := hide (fun W h h' => implSameK_any y y2 z z2 s s2 (.slice pa z.length pc) (.slice pb z2.length pd) W h h' hpl)
        have hsz := hb.size
        have HBB := hide hb
        clear hb hr1 hr2 hpl
        by_cases hq : ((y, z, s) = ((y2, z2, s2) : Blk))
        · have hd : decide ((y, z, s) = ((y2, z2, s2) : Blk)) = true := decide_eq_true hq
          rw [hd] at C
          have HQ := hide hq
          clear hd hq
          go_wp2_with (go_at_call 56; refine (C.out _ (HR.out _ ((HBB.out.alloc hsz _).alloc (by simp; omega) _)).1 (HR.out _ ((HBB.out.alloc hsz _).alloc (by simp; omega) _)).2).mono ?_; rintro e w1 ⟨rfl, B1⟩; have HB1 := hide (((HBB.out.alloc hsz _).alloc (by simp; omega) _).trans (B1.mono (by simp; omega))); clear B1)
          go_roundw
          case rel =>
            refine ⟨j + 1, by omega, by go_num, fun k h1 h2 hkj => ?_, HB1.out⟩
            by_cases hkk : k = j
            · subst hkk; rw [HX.out, HY.out]; exact HQ.out
            · exact HS.out k h1 h2 (by omega)
          case measure => simp [intOf]; omega
        · have hd : decide ((y, z, s) = ((y2, z2, s2) : Blk)) = false := decide_eq_false hq
          rw [hd] at C
          have hno : false = decide (a = b) := same_at (h1 := hlt) (h2 := by rw [← HN.out]; exact hlt) (by rw [HX.out, HY.out]; exact hq)
          have HNO := hide hno
          clear hd hq hno
          go_wp2_with (go_at_call 56; refine (C.out _ (HR.out _ ((HBB.out.alloc hsz _).alloc (by simp; omega) _)).1 (HR.out _ ((HBB.out.alloc hsz _).alloc (by simp; omega) _)).2).mono ?_; rintro e w1 ⟨rfl, B1⟩; have HB1 := hide (((HBB.out.alloc hsz _).alloc (by simp; omega) _).trans (B1.mono (by simp; omega))); clear B1)
          go_ret
          exact ⟨ret_bool HNO.out, HB1.out⟩
      · have hyes : true = decide (a = b) := same_all HN.out fun k h1 h2 => HS.out k h1 h2 (by omega)
        have HY := hide hyes
        have HBB := hide hb
        clear hyes hb
        go_wp2
        go_ret
        exact ⟨ret_bool HY.out, HBB.out⟩
  · have HN := hide (same_len hn)
    have hn2 : (((a.length : Nat) : Int) == ((b.length : Nat) : Int)) = false := by simp; omega
    go_enter Try.func55, Try.ntmps55
    go_wp2
    go_ret
    exact ⟨ret_bool HN.out, Below.refl _ _⟩
end Go.Proofs.Ytajollmmpdkhbaa
