/- Texts of the proof, bundled: Ss. -/
import Derived.Test.YtljooldjcefkoaaGreatU15
import Derived.Test.YtljooldjcefkoaaGreatU14
/- Of the specification: Short by its contract. -/
namespace Go.Proofs.YtljooldjcefkoaaGreat
open Go.RowKit Kit
set_option maxRecDepth 100000 in
set_option maxHeartbeats 12800000 in
theorem specShort_any (dx dy iv bv : Value) (xs ys : List Bool) (is : List Ino) (bs : List Blk) (w : World) (h : DR w dx dy iv bv xs ys is bs) (hX : RX xs ys is bs) :
    Calls Tryz.prog 19 #[.agg #[dx, dy, iv, bv]] w fun e w' => e = .returned (.int .i64 (shortN is bs)) ∧ Below w.heap.size w w' := by
  obtain ⟨a1, c1, a2, c2, a3, c3, a4, c4, rfl, rfl, rfl, rfl⟩ := h.form
  have HI8 := hide hX.r.hi
  have HH := hide h
  have HB0 : Hid (Below w.heap.size w (w.alloc (.cells #[.slice a1 xs.length c1, .slice a2 ys.length c2, .slice a3 is.length c3, .slice a4 bs.length c4] 35))) := (Below.refl _ w).alloc (Nat.le_refl _) _
  have HA0 := hide (AtC.new w 35 #[.slice a1 xs.length c1, .slice a2 ys.length c2, .slice a3 is.length c3, .slice a4 bs.length c4])
  have CR := hide (specReach_any (.slice a1 xs.length c1) (.slice a2 ys.length c2) (.slice a3 is.length c3) (.slice a4 bs.length c4) xs ys is bs (w.alloc (.cells #[.slice a1 xs.length c1, .slice a2 ys.length c2, .slice a3 is.length c3, .slice a4 bs.length c4] 35)) (h.alloc _) hX.r)
  have CL := hide (fun (x : Int) (W : World) (hb : Below w.heap.size w W) => specLinks_any x (.slice a1 xs.length c1) (.slice a2 ys.length c2) (.slice a3 is.length c3) (.slice a4 bs.length c4) xs ys is bs W (h.below hb (Nat.le_refl _)) hX)
  have HRG : Hid (∀ i ∈ reachL is bs, 1 ≤ i ∧ i ≤ 8) := fun i hi => reach8 hi
  have HR8 := hide (reachL_len is bs)
  have HFIN : Hid (shortN is bs = (reachL is bs).countP (fun i : Int => decide (¬ i = 1 ∧ lnkAt is (i - 1).toNat < linksN is bs i))) := rfl
  rw [HFIN.out]
  obtain ⟨RL, hRL⟩ : ∃ l, reachL is bs = l := ⟨_, rfl⟩
  rw [hRL] at CR HRG HR8 ⊢
  clear h hX hRL HFIN
  go_enter Tryz.func19, Tryz.ntmps19
  go_wp2_with fail
  refine CR.out.mono ?_
  rintro e w1 ⟨rv, rfl, R1, B1⟩
  have HB1 := hide (HB0.out.trans (B1.mono HB0.out.size))
  have HA1 := hide (HA0.out.over B1)
  obtain ⟨ra, rc, rfl, hcr⟩ := R1.rints
  have HCR := hide hcr
  have r8 : RL.length ≤ 8 := HR8.out
  clear R1 B1 CR HB0 HA0 hcr
  go_wp2_with fail
  go_loopw [3, 5] (fun nv kv wr => ∃ (q : Nat), q ≤ RL.length ∧ nv = .int .i64 (((RL.take q).countP (fun i : Int => decide (¬ i = 1 ∧ lnkAt is (i - 1).toNat < linksN is bs i)) : Nat) : Int) ∧ kv = .int .i64 q ∧ Hid (Below w1.heap.size w1 wr)) (fun _ kv _ => RL.length - (intOf kv).toNat)
  case atStart => exact ⟨0, Nat.zero_le _, by simp, rfl, Below.refl _ _⟩
  case round =>
    obtain ⟨q, hq, rfl, rfl, HQ⟩ := hrel
    obtain ⟨wo, hwo⟩ : ∃ W, W = wr := ⟨_, rfl⟩
    subst hwo
    have q0 : (0 : Int) ≤ (q : Int) := by omega
    by_cases hlt : q < RL.length
    rotate_left
    · have q1 : ¬ ((q : Int) < (RL.length : Int)) := by omega
      rw [List.take_of_length_le (by omega)]
      go_wp2
      go_ret
      exact ⟨rfl, HB1.out.trans (HQ.out.mono HB1.out.size)⟩
    have q1 : (q : Int) < (RL.length : Int) := by omega
    obtain ⟨gr, orr, rfl, hgr, kr⟩ := HCR.out q hlt
    have hrg := HRG.out _ (List.getElem_mem hlt)
    have HCT := hide (countP_take RL (fun i : Int => decide (¬ i = 1 ∧ lnkAt is (i - 1).toNat < linksN is bs i)) q hlt)
    have hle := countP_take_le RL (fun i : Int => decide (¬ i = 1 ∧ lnkAt is (i - 1).toNat < linksN is bs i)) q
    obtain ⟨u0, hu0⟩ : ∃ c, (RL.take q).countP (fun i : Int => decide (¬ i = 1 ∧ lnkAt is (i - 1).toNat < linksN is bs i)) = c := ⟨_, rfl⟩
    obtain ⟨di, hdi⟩ : ∃ x, RL[q] = x := ⟨_, rfl⟩
    rw [hu0, hdi] at HCT
    rw [hu0] at hle ⊢
    rw [hdi] at kr hrg
    obtain ⟨j, rfl⟩ : ∃ j : Nat, di = (j : Int) + 1 := ⟨(di - 1).toNat, by omega⟩
    have hj8 : j < 8 := by omega
    have hj : j < is.length := by have := HI8.out; omega
    have j0 : (0 : Int) ≤ (j : Int) := by omega
    have j1 : (j : Int) < (is.length : Int) := by omega
    have hwj : IntKind.i64.wrap (j : Int) = (j : Int) := wrap_small _ (by omega) (by omega)
    obtain ⟨g2, o2, sa, sc, rfl, hg2, -, y1, -, -⟩ := DR.ino HH.out j hj
    have el : lnkAt is j = is[j].2.1 := by unfold lnkAt; simp [hj]
    rw [← el] at y1
    obtain ⟨lk, hlk⟩ : ∃ l, lnkAt is j = l := ⟨_, rfl⟩
    obtain ⟨ln, hln⟩ : ∃ l, linksN is bs ((j : Int) + 1) = l := ⟨_, rfl⟩
    rw [hlk] at y1
    have CL1 := hide (CL.out ((j : Int) + 1))
    simp only [hln] at CL1
    have HW : Hid (∀ W, Below wo.heap.size wo W → AtC W w.heap.size 35 #[.slice a1 xs.length c1, .slice a2 ys.length c2, .slice (some ⟨g2, o2, none⟩) is.length c3, .slice a4 bs.length c4] ∧ W.cell? ⟨gr, orr + q, none⟩ = some (.int .i64 ((j : Int) + 1)) ∧ W.cell? ⟨g2, o2 + j * 3 + 1, none⟩ = some (.int .i64 lk) ∧ Below w1.heap.size w1 W ∧ Below w.heap.size w W) := fun W b => by
      have b1 := HQ.out.trans (b.mono HQ.out.size)
      have b0 := HB1.out.trans (b1.mono HB1.out.size)
      exact ⟨HA1.out.over b1, (b1.cell (p := ⟨gr, orr + q, none⟩) hgr).trans kr, (b0.cell (p := ⟨g2, o2 + j * 3 + 1, none⟩) hg2).trans y1, b1, b0⟩
    simp only [show ((j : Int) + 1 - 1).toNat = j by omega, hlk, hln] at HCT
    clear hu0 hdi kr y1 el hlk hln
    go_upto_region 6 with fail
    by_cases hj1 : j = 0
    · subst hj1
      have HE : Hid ((RL.take (q + 1)).countP (fun i : Int => decide (¬ i = 1 ∧ lnkAt is (i - 1).toNat < linksN is bs i)) = u0) := hide (by have := HCT.out; simpa using this)
      obtain ⟨A1, k1, -, -, -⟩ := HW.out _ (Below.refl _ _)
      clear A1
      go_quiet (fail)
      go_wp2
      go_roundw
      case rel => exact ⟨q + 1, by omega, by rw [HE.out], by go_num, below_drewN HQ.out _⟩
      case measure => simp [intOf]; omega
    have hjb : ((j : Int) + 1 != 1) = true := by simp; omega
    have HE : Hid ((RL.take (q + 1)).countP (fun i : Int => decide (¬ i = 1 ∧ lnkAt is (i - 1).toNat < linksN is bs i)) = u0 + if lk < (ln : Int) then 1 else 0) := hide (by
      have := HCT.out
      rw [this]
      congr 1
      have e : ¬ ((j : Int) + 1 = 1) := by omega
      simp [e])
    go_cut [37] from 8 to 39 (fun cv wx => cv = .bool (decide (lk < (ln : Int))) ∧ Below wo.heap.size wo wx)
    case first =>
      refine wp_region_alt (by kernel_rfl) [0, 1, 2, 3, 4, 5, 6, 7, 8, 9, 10, 11, 12, 13, 14, 15, 16, 17, 18, 19, 20, 21, 22] [23] [] (fun i => match i with | 0 => .const [] (.slice (some ⟨gr, orr, none⟩) RL.length rc) | 1 => .const [] (.int .i64 (q : Int)) | 2 => .const [0, 1] (.pointer (some ⟨gr, orr + q, none⟩)) | 3 => .const [2] (.int .i64 ((j : Int) + 1)) | 4 => .const [3] (.bool true) | 5 => .const [4] (.bool true) | 6 => .const [5] (.pointer (some ⟨w.heap.size, 2, none⟩)) | 7 => .const [6, 5] (.slice (some ⟨g2, o2, none⟩) is.length c3) | 8 => .const [5] (.slice (some ⟨gr, orr, none⟩) RL.length rc) | 9 => .const [5] (.int .i64 (q : Int)) | 10 => .const [8, 9, 5] (.pointer (some ⟨gr, orr + q, none⟩)) | 11 => .const [10, 5] (.int .i64 ((j : Int) + 1)) | 12 => .const [11, 5] (.int .i64 (j : Int)) | 13 => .const [7, 12, 5] (.pointer (some ⟨g2, o2 + j * 3, none⟩)) | 14 => .const [13, 5] (.pointer (some ⟨g2, o2 + j * 3 + 1, none⟩)) | 15 => .const [14, 5] (.int .i64 lk) | 16 => .const [5] (.agg #[.slice a1 xs.length c1, .slice a2 ys.length c2, .slice (some ⟨g2, o2, none⟩) is.length c3, .slice a4 bs.length c4]) | 17 => .const [5] (.slice (some ⟨gr, orr, none⟩) RL.length rc) | 18 => .const [5] (.int .i64 (q : Int)) | 19 => .const [17, 18, 5] (.pointer (some ⟨gr, orr + q, none⟩)) | 20 => .const [19, 5] (.int .i64 ((j : Int) + 1)) | 21 => .const [16, 20, 5] (.int .i64 (ln : Int)) | 22 => .const [15, 21, 5] (.bool (decide (lk < (ln : Int)))) | _ => .triv) (fun x => ⟨#[Value.agg #[Value.slice a1 xs.length c1, Value.slice a2 ys.length c2, Value.slice (some { block := g2, off := o2 }) is.length c3, Value.slice a4 bs.length c4], Value.pointer (some { block := w.heap.size, off := 0 }), Value.int IntKind.i64 0, Value.int IntKind.i64 ↑u0, Value.slice (some { block := gr, off := orr }) RL.length rc, Value.int IntKind.i64 ↑q, Value.agg #[Value.slice a1 xs.length c1, Value.slice a2 ys.length c2, Value.slice (some { block := g2, off := o2 }) is.length c3, Value.slice a4 bs.length c4], Value.slice (some { block := gr, off := orr }) RL.length rc, Value.int IntKind.i64 ↑q, Value.slice (some { block := gr, off := orr }) RL.length rc, Value.int IntKind.i64 ↑RL.length, Value.bool true, u12, u13, x 0, x 1, x 2, x 3, x 4, x 5, x 6, x 7, x 8, x 9, x 10, x 11, x 12, x 13, x 14, x 15, x 16, x 17, x 18, x 19, x 20, x 21, x 22, u37, u38, u39, undef], []⟩) (fun i => match i with | 0 => u14 | 1 => u15 | 2 => u16 | 3 => u17 | 4 => u18 | 5 => u19 | 6 => u20 | 7 => u21 | 8 => u22 | 9 => u23 | 10 => u24 | 11 => u25 | 12 => u26 | 13 => u27 | 14 => u28 | 15 => u29 | 16 => u30 | 17 => u31 | 18 => u32 | 19 => u33 | 20 => u34 | 21 => u35 | 22 => u36 | _ => undef) rfl (makersOk2_of (by kernel_rfl) (by kernel_rfl)) (by kernel_rfl) (by kernel_rfl) (by kernel_rfl) rfl ?_ ?_ (by intro q hq; cases hq)
      · intro jo hj so x iw W hd hp K hK
        simp only [List.mem_cons, List.not_mem_nil, or_false] at hj
        rcases hj with rfl | rfl | rfl | rfl | rfl | rfl | rfl | rfl | rfl | rfl | rfl | rfl | rfl | rfl | rfl | rfl | rfl | rfl | rfl | rfl | rfl | rfl | rfl
        · refine wpOp_step (o := _) rfl fun K' hK' => ?_
          have HK : Hid (∀ v W', Below W.heap.size W W' → ((Mk.const [] (.slice (some ⟨gr, orr, none⟩) RL.length rc) : Mk)).P W.heap.size W'.heap.size W' v (upd x 0 v) → K' ⟨#[Value.agg #[Value.slice a1 xs.length c1, Value.slice a2 ys.length c2, Value.slice (some { block := g2, off := o2 }) is.length c3, Value.slice a4 bs.length c4], Value.pointer (some { block := w.heap.size, off := 0 }), Value.int IntKind.i64 0, Value.int IntKind.i64 ↑u0, Value.slice (some { block := gr, off := orr }) RL.length rc, Value.int IntKind.i64 ↑q, Value.agg #[Value.slice a1 xs.length c1, Value.slice a2 ys.length c2, Value.slice (some { block := g2, off := o2 }) is.length c3, Value.slice a4 bs.length c4], Value.slice (some { block := gr, off := orr }) RL.length rc, Value.int IntKind.i64 ↑q, Value.slice (some { block := gr, off := orr }) RL.length rc, Value.int IntKind.i64 ↑RL.length, Value.bool true, u12, u13, v, x 1, x 2, x 3, x 4, x 5, x 6, x 7, x 8, x 9, x 10, x 11, x 12, x 13, x 14, x 15, x 16, x 17, x 18, x 19, x 20, x 21, x 22, u37, u38, u39, undef], []⟩ W') := fun v W' h1 h2 => hK' _ _ (hK v W' h1 h2)
          clear hK hK' hp hd
          go_simp
          exact HK.out _ _ (Below.refl _ _) rfl
        · refine wpOp_step (o := _) rfl fun K' hK' => ?_
          have HK : Hid (∀ v W', Below W.heap.size W W' → ((Mk.const [] (.int .i64 (q : Int)) : Mk)).P W.heap.size W'.heap.size W' v (upd x 1 v) → K' ⟨#[Value.agg #[Value.slice a1 xs.length c1, Value.slice a2 ys.length c2, Value.slice (some { block := g2, off := o2 }) is.length c3, Value.slice a4 bs.length c4], Value.pointer (some { block := w.heap.size, off := 0 }), Value.int IntKind.i64 0, Value.int IntKind.i64 ↑u0, Value.slice (some { block := gr, off := orr }) RL.length rc, Value.int IntKind.i64 ↑q, Value.agg #[Value.slice a1 xs.length c1, Value.slice a2 ys.length c2, Value.slice (some { block := g2, off := o2 }) is.length c3, Value.slice a4 bs.length c4], Value.slice (some { block := gr, off := orr }) RL.length rc, Value.int IntKind.i64 ↑q, Value.slice (some { block := gr, off := orr }) RL.length rc, Value.int IntKind.i64 ↑RL.length, Value.bool true, u12, u13, x 0, v, x 2, x 3, x 4, x 5, x 6, x 7, x 8, x 9, x 10, x 11, x 12, x 13, x 14, x 15, x 16, x 17, x 18, x 19, x 20, x 21, x 22, u37, u38, u39, undef], []⟩ W') := fun v W' h1 h2 => hK' _ _ (hK v W' h1 h2)
          clear hK hK' hp hd
          go_simp
          exact HK.out _ _ (Below.refl _ _) rfl
        · refine wpOp_step (o := _) rfl fun K' hK' => ?_
          have HK : Hid (∀ v W', Below W.heap.size W W' → ((Mk.const [0, 1] (.pointer (some ⟨gr, orr + q, none⟩)) : Mk)).P W.heap.size W'.heap.size W' v (upd x 2 v) → K' ⟨#[Value.agg #[Value.slice a1 xs.length c1, Value.slice a2 ys.length c2, Value.slice (some { block := g2, off := o2 }) is.length c3, Value.slice a4 bs.length c4], Value.pointer (some { block := w.heap.size, off := 0 }), Value.int IntKind.i64 0, Value.int IntKind.i64 ↑u0, Value.slice (some { block := gr, off := orr }) RL.length rc, Value.int IntKind.i64 ↑q, Value.agg #[Value.slice a1 xs.length c1, Value.slice a2 ys.length c2, Value.slice (some { block := g2, off := o2 }) is.length c3, Value.slice a4 bs.length c4], Value.slice (some { block := gr, off := orr }) RL.length rc, Value.int IntKind.i64 ↑q, Value.slice (some { block := gr, off := orr }) RL.length rc, Value.int IntKind.i64 ↑RL.length, Value.bool true, u12, u13, x 0, x 1, v, x 3, x 4, x 5, x 6, x 7, x 8, x 9, x 10, x 11, x 12, x 13, x 14, x 15, x 16, x 17, x 18, x 19, x 20, x 21, x 22, u37, u38, u39, undef], []⟩ W') := fun v W' h1 h2 => hK' _ _ (hK v W' h1 h2)
          have e0 : x 0 = .slice (some ⟨gr, orr, none⟩) RL.length rc := hp.post 0 (hd 0 (show 0 ∈ [0, 1] from by decide))
          have e1 : x 1 = .int .i64 (q : Int) := hp.post 1 (hd 1 (show 1 ∈ [0, 1] from by decide))
          clear hK hK' hp hd
          simp only [e0, e1] at HK ⊢
          go_simp
          exact HK.out _ _ (Below.refl _ _) rfl
        · refine wpOp_step (o := _) rfl fun K' hK' => ?_
          have HK : Hid (∀ v W', Below W.heap.size W W' → ((Mk.const [2] (.int .i64 ((j : Int) + 1)) : Mk)).P W.heap.size W'.heap.size W' v (upd x 3 v) → K' ⟨#[Value.agg #[Value.slice a1 xs.length c1, Value.slice a2 ys.length c2, Value.slice (some { block := g2, off := o2 }) is.length c3, Value.slice a4 bs.length c4], Value.pointer (some { block := w.heap.size, off := 0 }), Value.int IntKind.i64 0, Value.int IntKind.i64 ↑u0, Value.slice (some { block := gr, off := orr }) RL.length rc, Value.int IntKind.i64 ↑q, Value.agg #[Value.slice a1 xs.length c1, Value.slice a2 ys.length c2, Value.slice (some { block := g2, off := o2 }) is.length c3, Value.slice a4 bs.length c4], Value.slice (some { block := gr, off := orr }) RL.length rc, Value.int IntKind.i64 ↑q, Value.slice (some { block := gr, off := orr }) RL.length rc, Value.int IntKind.i64 ↑RL.length, Value.bool true, u12, u13, x 0, x 1, x 2, v, x 4, x 5, x 6, x 7, x 8, x 9, x 10, x 11, x 12, x 13, x 14, x 15, x 16, x 17, x 18, x 19, x 20, x 21, x 22, u37, u38, u39, undef], []⟩ W') := fun v W' h1 h2 => hK' _ _ (hK v W' h1 h2)
          have e2 : x 2 = .pointer (some ⟨gr, orr + q, none⟩) := hp.post 2 (hd 2 (show 2 ∈ [2] from by decide))
          have bw := HW.out W (of_drew hp.bel)
          have k0 := bw.2.1
          clear bw
          clear hK hK' hp hd
          simp only [e2] at HK ⊢
          go_simp
          exact HK.out _ _ (Below.refl _ _) rfl
        · refine wpOp_step (o := _) rfl fun K' hK' => ?_
          have HK : Hid (∀ v W', Below W.heap.size W W' → ((Mk.const [3] (.bool true) : Mk)).P W.heap.size W'.heap.size W' v (upd x 4 v) → K' ⟨#[Value.agg #[Value.slice a1 xs.length c1, Value.slice a2 ys.length c2, Value.slice (some { block := g2, off := o2 }) is.length c3, Value.slice a4 bs.length c4], Value.pointer (some { block := w.heap.size, off := 0 }), Value.int IntKind.i64 0, Value.int IntKind.i64 ↑u0, Value.slice (some { block := gr, off := orr }) RL.length rc, Value.int IntKind.i64 ↑q, Value.agg #[Value.slice a1 xs.length c1, Value.slice a2 ys.length c2, Value.slice (some { block := g2, off := o2 }) is.length c3, Value.slice a4 bs.length c4], Value.slice (some { block := gr, off := orr }) RL.length rc, Value.int IntKind.i64 ↑q, Value.slice (some { block := gr, off := orr }) RL.length rc, Value.int IntKind.i64 ↑RL.length, Value.bool true, u12, u13, x 0, x 1, x 2, x 3, v, x 5, x 6, x 7, x 8, x 9, x 10, x 11, x 12, x 13, x 14, x 15, x 16, x 17, x 18, x 19, x 20, x 21, x 22, u37, u38, u39, undef], []⟩ W') := fun v W' h1 h2 => hK' _ _ (hK v W' h1 h2)
          have e3 : x 3 = .int .i64 ((j : Int) + 1) := hp.post 3 (hd 3 (show 3 ∈ [3] from by decide))
          clear hK hK' hp hd
          simp only [e3] at HK ⊢
          go_simp
          exact HK.out _ _ (Below.refl _ _) rfl
        · refine wpOp_step (o := _) rfl fun K' hK' => ?_
          have HK : Hid (∀ v W', Below W.heap.size W W' → ((Mk.const [4] (.bool true) : Mk)).P W.heap.size W'.heap.size W' v (upd x 5 v) → K' ⟨#[Value.agg #[Value.slice a1 xs.length c1, Value.slice a2 ys.length c2, Value.slice (some { block := g2, off := o2 }) is.length c3, Value.slice a4 bs.length c4], Value.pointer (some { block := w.heap.size, off := 0 }), Value.int IntKind.i64 0, Value.int IntKind.i64 ↑u0, Value.slice (some { block := gr, off := orr }) RL.length rc, Value.int IntKind.i64 ↑q, Value.agg #[Value.slice a1 xs.length c1, Value.slice a2 ys.length c2, Value.slice (some { block := g2, off := o2 }) is.length c3, Value.slice a4 bs.length c4], Value.slice (some { block := gr, off := orr }) RL.length rc, Value.int IntKind.i64 ↑q, Value.slice (some { block := gr, off := orr }) RL.length rc, Value.int IntKind.i64 ↑RL.length, Value.bool true, u12, u13, x 0, x 1, x 2, x 3, x 4, v, x 6, x 7, x 8, x 9, x 10, x 11, x 12, x 13, x 14, x 15, x 16, x 17, x 18, x 19, x 20, x 21, x 22, u37, u38, u39, undef], []⟩ W') := fun v W' h1 h2 => hK' _ _ (hK v W' h1 h2)
          have e4 : x 4 = .bool true := hp.post 4 (hd 4 (show 4 ∈ [4] from by decide))
          clear hK hK' hp hd
          simp only [e4] at HK ⊢
          go_simp
          exact HK.out _ _ (Below.refl _ _) rfl
        · refine wpOp_step (o := _) rfl fun K' hK' => ?_
          have HK : Hid (∀ v W', Below W.heap.size W W' → ((Mk.const [5] (.pointer (some ⟨w.heap.size, 2, none⟩)) : Mk)).P W.heap.size W'.heap.size W' v (upd x 6 v) → K' ⟨#[Value.agg #[Value.slice a1 xs.length c1, Value.slice a2 ys.length c2, Value.slice (some { block := g2, off := o2 }) is.length c3, Value.slice a4 bs.length c4], Value.pointer (some { block := w.heap.size, off := 0 }), Value.int IntKind.i64 0, Value.int IntKind.i64 ↑u0, Value.slice (some { block := gr, off := orr }) RL.length rc, Value.int IntKind.i64 ↑q, Value.agg #[Value.slice a1 xs.length c1, Value.slice a2 ys.length c2, Value.slice (some { block := g2, off := o2 }) is.length c3, Value.slice a4 bs.length c4], Value.slice (some { block := gr, off := orr }) RL.length rc, Value.int IntKind.i64 ↑q, Value.slice (some { block := gr, off := orr }) RL.length rc, Value.int IntKind.i64 ↑RL.length, Value.bool true, u12, u13, x 0, x 1, x 2, x 3, x 4, x 5, v, x 7, x 8, x 9, x 10, x 11, x 12, x 13, x 14, x 15, x 16, x 17, x 18, x 19, x 20, x 21, x 22, u37, u38, u39, undef], []⟩ W') := fun v W' h1 h2 => hK' _ _ (hK v W' h1 h2)
          have e5 : x 5 = .bool true := hp.post 5 (hd 5 (show 5 ∈ [5] from by decide))
          clear hK hK' hp hd
          simp only [e5] at HK ⊢
          go_simp
          exact HK.out _ _ (Below.refl _ _) rfl
        · refine wpOp_step (o := _) rfl fun K' hK' => ?_
          have HK : Hid (∀ v W', Below W.heap.size W W' → ((Mk.const [6, 5] (.slice (some ⟨g2, o2, none⟩) is.length c3) : Mk)).P W.heap.size W'.heap.size W' v (upd x 7 v) → K' ⟨#[Value.agg #[Value.slice a1 xs.length c1, Value.slice a2 ys.length c2, Value.slice (some { block := g2, off := o2 }) is.length c3, Value.slice a4 bs.length c4], Value.pointer (some { block := w.heap.size, off := 0 }), Value.int IntKind.i64 0, Value.int IntKind.i64 ↑u0, Value.slice (some { block := gr, off := orr }) RL.length rc, Value.int IntKind.i64 ↑q, Value.agg #[Value.slice a1 xs.length c1, Value.slice a2 ys.length c2, Value.slice (some { block := g2, off := o2 }) is.length c3, Value.slice a4 bs.length c4], Value.slice (some { block := gr, off := orr }) RL.length rc, Value.int IntKind.i64 ↑q, Value.slice (some { block := gr, off := orr }) RL.length rc, Value.int IntKind.i64 ↑RL.length, Value.bool true, u12, u13, x 0, x 1, x 2, x 3, x 4, x 5, x 6, v, x 8, x 9, x 10, x 11, x 12, x 13, x 14, x 15, x 16, x 17, x 18, x 19, x 20, x 21, x 22, u37, u38, u39, undef], []⟩ W') := fun v W' h1 h2 => hK' _ _ (hK v W' h1 h2)
          have e6 : x 6 = .pointer (some ⟨w.heap.size, 2, none⟩) := hp.post 6 (hd 6 (show 6 ∈ [6, 5] from by decide))
          have e5 : x 5 = .bool true := hp.post 5 (hd 5 (show 5 ∈ [6, 5] from by decide))
          have bw := HW.out W (of_drew hp.bel)
          have k0 : W.cell? ⟨w.heap.size, 2, none⟩ = some (.slice (some ⟨g2, o2, none⟩) is.length c3) := bw.1.cell 2
          clear bw
          clear hK hK' hp hd
          simp only [e6, e5] at HK ⊢
          go_simp
          exact HK.out _ _ (Below.refl _ _) rfl
        · refine wpOp_step (o := _) rfl fun K' hK' => ?_
          have HK : Hid (∀ v W', Below W.heap.size W W' → ((Mk.const [5] (.slice (some ⟨gr, orr, none⟩) RL.length rc) : Mk)).P W.heap.size W'.heap.size W' v (upd x 8 v) → K' ⟨#[Value.agg #[Value.slice a1 xs.length c1, Value.slice a2 ys.length c2, Value.slice (some { block := g2, off := o2 }) is.length c3, Value.slice a4 bs.length c4], Value.pointer (some { block := w.heap.size, off := 0 }), Value.int IntKind.i64 0, Value.int IntKind.i64 ↑u0, Value.slice (some { block := gr, off := orr }) RL.length rc, Value.int IntKind.i64 ↑q, Value.agg #[Value.slice a1 xs.length c1, Value.slice a2 ys.length c2, Value.slice (some { block := g2, off := o2 }) is.length c3, Value.slice a4 bs.length c4], Value.slice (some { block := gr, off := orr }) RL.length rc, Value.int IntKind.i64 ↑q, Value.slice (some { block := gr, off := orr }) RL.length rc, Value.int IntKind.i64 ↑RL.length, Value.bool true, u12, u13, x 0, x 1, x 2, x 3, x 4, x 5, x 6, x 7, v, x 9, x 10, x 11, x 12, x 13, x 14, x 15, x 16, x 17, x 18, x 19, x 20, x 21, x 22, u37, u38, u39, undef], []⟩ W') := fun v W' h1 h2 => hK' _ _ (hK v W' h1 h2)
          have e5 : x 5 = .bool true := hp.post 5 (hd 5 (show 5 ∈ [5] from by decide))
          clear hK hK' hp hd
          simp only [e5] at HK ⊢
          go_simp
          exact HK.out _ _ (Below.refl _ _) rfl
        · refine wpOp_step (o := _) rfl fun K' hK' => ?_
          have HK : Hid (∀ v W', Below W.heap.size W W' → ((Mk.const [5] (.int .i64 (q : Int)) : Mk)).P W.heap.size W'.heap.size W' v (upd x 9 v) → K' ⟨#[Value.agg #[Value.slice a1 xs.length c1, Value.slice a2 ys.length c2, Value.slice (some { block := g2, off := o2 }) is.length c3, Value.slice a4 bs.length c4], Value.pointer (some { block := w.heap.size, off := 0 }), Value.int IntKind.i64 0, Value.int IntKind.i64 ↑u0, Value.slice (some { block := gr, off := orr }) RL.length rc, Value.int IntKind.i64 ↑q, Value.agg #[Value.slice a1 xs.length c1, Value.slice a2 ys.length c2, Value.slice (some { block := g2, off := o2 }) is.length c3, Value.slice a4 bs.length c4], Value.slice (some { block := gr, off := orr }) RL.length rc, Value.int IntKind.i64 ↑q, Value.slice (some { block := gr, off := orr }) RL.length rc, Value.int IntKind.i64 ↑RL.length, Value.bool true, u12, u13, x 0, x 1, x 2, x 3, x 4, x 5, x 6, x 7, x 8, v, x 10, x 11, x 12, x 13, x 14, x 15, x 16, x 17, x 18, x 19, x 20, x 21, x 22, u37, u38, u39, undef], []⟩ W') := fun v W' h1 h2 => hK' _ _ (hK v W' h1 h2)
          have e5 : x 5 = .bool true := hp.post 5 (hd 5 (show 5 ∈ [5] from by decide))
          clear hK hK' hp hd
          simp only [e5] at HK ⊢
          go_simp
          exact HK.out _ _ (Below.refl _ _) rfl
        · refine wpOp_step (o := _) rfl fun K' hK' => ?_
          have HK : Hid (∀ v W', Below W.heap.size W W' → ((Mk.const [8, 9, 5] (.pointer (some ⟨gr, orr + q, none⟩)) : Mk)).P W.heap.size W'.heap.size W' v (upd x 10 v) → K' ⟨#[Value.agg #[Value.slice a1 xs.length c1, Value.slice a2 ys.length c2, Value.slice (some { block := g2, off := o2 }) is.length c3, Value.slice a4 bs.length c4], Value.pointer (some { block := w.heap.size, off := 0 }), Value.int IntKind.i64 0, Value.int IntKind.i64 ↑u0, Value.slice (some { block := gr, off := orr }) RL.length rc, Value.int IntKind.i64 ↑q, Value.agg #[Value.slice a1 xs.length c1, Value.slice a2 ys.length c2, Value.slice (some { block := g2, off := o2 }) is.length c3, Value.slice a4 bs.length c4], Value.slice (some { block := gr, off := orr }) RL.length rc, Value.int IntKind.i64 ↑q, Value.slice (some { block := gr, off := orr }) RL.length rc, Value.int IntKind.i64 ↑RL.length, Value.bool true, u12, u13, x 0, x 1, x 2, x 3, x 4, x 5, x 6, x 7, x 8, x 9, v, x 11, x 12, x 13, x 14, x 15, x 16, x 17, x 18, x 19, x 20, x 21, x 22, u37, u38, u39, undef], []⟩ W') := fun v W' h1 h2 => hK' _ _ (hK v W' h1 h2)
          have e8 : x 8 = .slice (some ⟨gr, orr, none⟩) RL.length rc := hp.post 8 (hd 8 (show 8 ∈ [8, 9, 5] from by decide))
          have e9 : x 9 = .int .i64 (q : Int) := hp.post 9 (hd 9 (show 9 ∈ [8, 9, 5] from by decide))
          have e5 : x 5 = .bool true := hp.post 5 (hd 5 (show 5 ∈ [8, 9, 5] from by decide))
          clear hK hK' hp hd
          simp only [e8, e9, e5] at HK ⊢
          go_simp
          exact HK.out _ _ (Below.refl _ _) rfl
        · refine wpOp_step (o := _) rfl fun K' hK' => ?_
          have HK : Hid (∀ v W', Below W.heap.size W W' → ((Mk.const [10, 5] (.int .i64 ((j : Int) + 1)) : Mk)).P W.heap.size W'.heap.size W' v (upd x 11 v) → K' ⟨#[Value.agg #[Value.slice a1 xs.length c1, Value.slice a2 ys.length c2, Value.slice (some { block := g2, off := o2 }) is.length c3, Value.slice a4 bs.length c4], Value.pointer (some { block := w.heap.size, off := 0 }), Value.int IntKind.i64 0, Value.int IntKind.i64 ↑u0, Value.slice (some { block := gr, off := orr }) RL.length rc, Value.int IntKind.i64 ↑q, Value.agg #[Value.slice a1 xs.length c1, Value.slice a2 ys.length c2, Value.slice (some { block := g2, off := o2 }) is.length c3, Value.slice a4 bs.length c4], Value.slice (some { block := gr, off := orr }) RL.length rc, Value.int IntKind.i64 ↑q, Value.slice (some { block := gr, off := orr }) RL.length rc, Value.int IntKind.i64 ↑RL.length, Value.bool true, u12, u13, x 0, x 1, x 2, x 3, x 4, x 5, x 6, x 7, x 8, x 9, x 10, v, x 12, x 13, x 14, x 15, x 16, x 17, x 18, x 19, x 20, x 21, x 22, u37, u38, u39, undef], []⟩ W') := fun v W' h1 h2 => hK' _ _ (hK v W' h1 h2)
          have e10 : x 10 = .pointer (some ⟨gr, orr + q, none⟩) := hp.post 10 (hd 10 (show 10 ∈ [10, 5] from by decide))
          have e5 : x 5 = .bool true := hp.post 5 (hd 5 (show 5 ∈ [10, 5] from by decide))
          have bw := HW.out W (of_drew hp.bel)
          have k0 := bw.2.1
          clear bw
          clear hK hK' hp hd
          simp only [e10, e5] at HK ⊢
          go_simp
          exact HK.out _ _ (Below.refl _ _) rfl
        · refine wpOp_step (o := _) rfl fun K' hK' => ?_
          have HK : Hid (∀ v W', Below W.heap.size W W' → ((Mk.const [11, 5] (.int .i64 (j : Int)) : Mk)).P W.heap.size W'.heap.size W' v (upd x 12 v) → K' ⟨#[Value.agg #[Value.slice a1 xs.length c1, Value.slice a2 ys.length c2, Value.slice (some { block := g2, off := o2 }) is.length c3, Value.slice a4 bs.length c4], Value.pointer (some { block := w.heap.size, off := 0 }), Value.int IntKind.i64 0, Value.int IntKind.i64 ↑u0, Value.slice (some { block := gr, off := orr }) RL.length rc, Value.int IntKind.i64 ↑q, Value.agg #[Value.slice a1 xs.length c1, Value.slice a2 ys.length c2, Value.slice (some { block := g2, off := o2 }) is.length c3, Value.slice a4 bs.length c4], Value.slice (some { block := gr, off := orr }) RL.length rc, Value.int IntKind.i64 ↑q, Value.slice (some { block := gr, off := orr }) RL.length rc, Value.int IntKind.i64 ↑RL.length, Value.bool true, u12, u13, x 0, x 1, x 2, x 3, x 4, x 5, x 6, x 7, x 8, x 9, x 10, x 11, v, x 13, x 14, x 15, x 16, x 17, x 18, x 19, x 20, x 21, x 22, u37, u38, u39, undef], []⟩ W') := fun v W' h1 h2 => hK' _ _ (hK v W' h1 h2)
          have e11 : x 11 = .int .i64 ((j : Int) + 1) := hp.post 11 (hd 11 (show 11 ∈ [11, 5] from by decide))
          have e5 : x 5 = .bool true := hp.post 5 (hd 5 (show 5 ∈ [11, 5] from by decide))
          clear hK hK' hp hd
          simp only [e11, e5] at HK ⊢
          go_simp
          exact HK.out _ _ (Below.refl _ _) rfl
        · refine wpOp_step (o := _) rfl fun K' hK' => ?_
          have HK : Hid (∀ v W', Below W.heap.size W W' → ((Mk.const [7, 12, 5] (.pointer (some ⟨g2, o2 + j * 3, none⟩)) : Mk)).P W.heap.size W'.heap.size W' v (upd x 13 v) → K' ⟨#[Value.agg #[Value.slice a1 xs.length c1, Value.slice a2 ys.length c2, Value.slice (some { block := g2, off := o2 }) is.length c3, Value.slice a4 bs.length c4], Value.pointer (some { block := w.heap.size, off := 0 }), Value.int IntKind.i64 0, Value.int IntKind.i64 ↑u0, Value.slice (some { block := gr, off := orr }) RL.length rc, Value.int IntKind.i64 ↑q, Value.agg #[Value.slice a1 xs.length c1, Value.slice a2 ys.length c2, Value.slice (some { block := g2, off := o2 }) is.length c3, Value.slice a4 bs.length c4], Value.slice (some { block := gr, off := orr }) RL.length rc, Value.int IntKind.i64 ↑q, Value.slice (some { block := gr, off := orr }) RL.length rc, Value.int IntKind.i64 ↑RL.length, Value.bool true, u12, u13, x 0, x 1, x 2, x 3, x 4, x 5, x 6, x 7, x 8, x 9, x 10, x 11, x 12, v, x 14, x 15, x 16, x 17, x 18, x 19, x 20, x 21, x 22, u37, u38, u39, undef], []⟩ W') := fun v W' h1 h2 => hK' _ _ (hK v W' h1 h2)
          have e7 : x 7 = .slice (some ⟨g2, o2, none⟩) is.length c3 := hp.post 7 (hd 7 (show 7 ∈ [7, 12, 5] from by decide))
          have e12 : x 12 = .int .i64 (j : Int) := hp.post 12 (hd 12 (show 12 ∈ [7, 12, 5] from by decide))
          have e5 : x 5 = .bool true := hp.post 5 (hd 5 (show 5 ∈ [7, 12, 5] from by decide))
          clear hK hK' hp hd
          simp only [e7, e12, e5] at HK ⊢
          go_simp
          exact HK.out _ _ (Below.refl _ _) rfl
        · refine wpOp_step (o := _) rfl fun K' hK' => ?_
          have HK : Hid (∀ v W', Below W.heap.size W W' → ((Mk.const [13, 5] (.pointer (some ⟨g2, o2 + j * 3 + 1, none⟩)) : Mk)).P W.heap.size W'.heap.size W' v (upd x 14 v) → K' ⟨#[Value.agg #[Value.slice a1 xs.length c1, Value.slice a2 ys.length c2, Value.slice (some { block := g2, off := o2 }) is.length c3, Value.slice a4 bs.length c4], Value.pointer (some { block := w.heap.size, off := 0 }), Value.int IntKind.i64 0, Value.int IntKind.i64 ↑u0, Value.slice (some { block := gr, off := orr }) RL.length rc, Value.int IntKind.i64 ↑q, Value.agg #[Value.slice a1 xs.length c1, Value.slice a2 ys.length c2, Value.slice (some { block := g2, off := o2 }) is.length c3, Value.slice a4 bs.length c4], Value.slice (some { block := gr, off := orr }) RL.length rc, Value.int IntKind.i64 ↑q, Value.slice (some { block := gr, off := orr }) RL.length rc, Value.int IntKind.i64 ↑RL.length, Value.bool true, u12, u13, x 0, x 1, x 2, x 3, x 4, x 5, x 6, x 7, x 8, x 9, x 10, x 11, x 12, x 13, v, x 15, x 16, x 17, x 18, x 19, x 20, x 21, x 22, u37, u38, u39, undef], []⟩ W') := fun v W' h1 h2 => hK' _ _ (hK v W' h1 h2)
          have e13 : x 13 = .pointer (some ⟨g2, o2 + j * 3, none⟩) := hp.post 13 (hd 13 (show 13 ∈ [13, 5] from by decide))
          have e5 : x 5 = .bool true := hp.post 5 (hd 5 (show 5 ∈ [13, 5] from by decide))
          clear hK hK' hp hd
          simp only [e13, e5] at HK ⊢
          go_simp
          exact HK.out _ _ (Below.refl _ _) rfl
        · refine wpOp_step (o := _) rfl fun K' hK' => ?_
          have HK : Hid (∀ v W', Below W.heap.size W W' → ((Mk.const [14, 5] (.int .i64 lk) : Mk)).P W.heap.size W'.heap.size W' v (upd x 15 v) → K' ⟨#[Value.agg #[Value.slice a1 xs.length c1, Value.slice a2 ys.length c2, Value.slice (some { block := g2, off := o2 }) is.length c3, Value.slice a4 bs.length c4], Value.pointer (some { block := w.heap.size, off := 0 }), Value.int IntKind.i64 0, Value.int IntKind.i64 ↑u0, Value.slice (some { block := gr, off := orr }) RL.length rc, Value.int IntKind.i64 ↑q, Value.agg #[Value.slice a1 xs.length c1, Value.slice a2 ys.length c2, Value.slice (some { block := g2, off := o2 }) is.length c3, Value.slice a4 bs.length c4], Value.slice (some { block := gr, off := orr }) RL.length rc, Value.int IntKind.i64 ↑q, Value.slice (some { block := gr, off := orr }) RL.length rc, Value.int IntKind.i64 ↑RL.length, Value.bool true, u12, u13, x 0, x 1, x 2, x 3, x 4, x 5, x 6, x 7, x 8, x 9, x 10, x 11, x 12, x 13, x 14, v, x 16, x 17, x 18, x 19, x 20, x 21, x 22, u37, u38, u39, undef], []⟩ W') := fun v W' h1 h2 => hK' _ _ (hK v W' h1 h2)
          have e14 : x 14 = .pointer (some ⟨g2, o2 + j * 3 + 1, none⟩) := hp.post 14 (hd 14 (show 14 ∈ [14, 5] from by decide))
          have e5 : x 5 = .bool true := hp.post 5 (hd 5 (show 5 ∈ [14, 5] from by decide))
          have bw := HW.out W (of_drew hp.bel)
          have k0 := bw.2.2.1
          clear bw
          clear hK hK' hp hd
          simp only [e14, e5] at HK ⊢
          go_simp
          exact HK.out _ _ (Below.refl _ _) rfl
        · refine wpOp_step (o := _) rfl fun K' hK' => ?_
          have HK : Hid (∀ v W', Below W.heap.size W W' → ((Mk.const [5] (.agg #[.slice a1 xs.length c1, .slice a2 ys.length c2, .slice (some ⟨g2, o2, none⟩) is.length c3, .slice a4 bs.length c4]) : Mk)).P W.heap.size W'.heap.size W' v (upd x 16 v) → K' ⟨#[Value.agg #[Value.slice a1 xs.length c1, Value.slice a2 ys.length c2, Value.slice (some { block := g2, off := o2 }) is.length c3, Value.slice a4 bs.length c4], Value.pointer (some { block := w.heap.size, off := 0 }), Value.int IntKind.i64 0, Value.int IntKind.i64 ↑u0, Value.slice (some { block := gr, off := orr }) RL.length rc, Value.int IntKind.i64 ↑q, Value.agg #[Value.slice a1 xs.length c1, Value.slice a2 ys.length c2, Value.slice (some { block := g2, off := o2 }) is.length c3, Value.slice a4 bs.length c4], Value.slice (some { block := gr, off := orr }) RL.length rc, Value.int IntKind.i64 ↑q, Value.slice (some { block := gr, off := orr }) RL.length rc, Value.int IntKind.i64 ↑RL.length, Value.bool true, u12, u13, x 0, x 1, x 2, x 3, x 4, x 5, x 6, x 7, x 8, x 9, x 10, x 11, x 12, x 13, x 14, x 15, v, x 17, x 18, x 19, x 20, x 21, x 22, u37, u38, u39, undef], []⟩ W') := fun v W' h1 h2 => hK' _ _ (hK v W' h1 h2)
          have e5 : x 5 = .bool true := hp.post 5 (hd 5 (show 5 ∈ [5] from by decide))
          have bw := HW.out W (of_drew hp.bel)
          have k0 : W.cell? ⟨w.heap.size, 0, none⟩ = some (.slice a1 xs.length c1) := bw.1.cell 0
          have k1 : W.cell? ⟨w.heap.size, 1, none⟩ = some (.slice a2 ys.length c2) := bw.1.cell 1
          have k2 : W.cell? ⟨w.heap.size, 2, none⟩ = some (.slice (some ⟨g2, o2, none⟩) is.length c3) := bw.1.cell 2
          have k3 : W.cell? ⟨w.heap.size, 3, none⟩ = some (.slice a4 bs.length c4) := bw.1.cell 3
          clear bw
          clear hK hK' hp hd
          simp only [e5] at HK ⊢
          go_simp
          exact HK.out _ _ (Below.refl _ _) rfl
        · refine wpOp_step (o := _) rfl fun K' hK' => ?_
          have HK : Hid (∀ v W', Below W.heap.size W W' → ((Mk.const [5] (.slice (some ⟨gr, orr, none⟩) RL.length rc) : Mk)).P W.heap.size W'.heap.size W' v (upd x 17 v) → K' ⟨#[Value.agg #[Value.slice a1 xs.length c1, Value.slice a2 ys.length c2, Value.slice (some { block := g2, off := o2 }) is.length c3, Value.slice a4 bs.length c4], Value.pointer (some { block := w.heap.size, off := 0 }), Value.int IntKind.i64 0, Value.int IntKind.i64 ↑u0, Value.slice (some { block := gr, off := orr }) RL.length rc, Value.int IntKind.i64 ↑q, Value.agg #[Value.slice a1 xs.length c1, Value.slice a2 ys.length c2, Value.slice (some { block := g2, off := o2 }) is.length c3, Value.slice a4 bs.length c4], Value.slice (some { block := gr, off := orr }) RL.length rc, Value.int IntKind.i64 ↑q, Value.slice (some { block := gr, off := orr }) RL.length rc, Value.int IntKind.i64 ↑RL.length, Value.bool true, u12, u13, x 0, x 1, x 2, x 3, x 4, x 5, x 6, x 7, x 8, x 9, x 10, x 11, x 12, x 13, x 14, x 15, x 16, v, x 18, x 19, x 20, x 21, x 22, u37, u38, u39, undef], []⟩ W') := fun v W' h1 h2 => hK' _ _ (hK v W' h1 h2)
          have e5 : x 5 = .bool true := hp.post 5 (hd 5 (show 5 ∈ [5] from by decide))
          clear hK hK' hp hd
          simp only [e5] at HK ⊢
          go_simp
          exact HK.out _ _ (Below.refl _ _) rfl
        · refine wpOp_step (o := _) rfl fun K' hK' => ?_
          have HK : Hid (∀ v W', Below W.heap.size W W' → ((Mk.const [5] (.int .i64 (q : Int)) : Mk)).P W.heap.size W'.heap.size W' v (upd x 18 v) → K' ⟨#[Value.agg #[Value.slice a1 xs.length c1, Value.slice a2 ys.length c2, Value.slice (some { block := g2, off := o2 }) is.length c3, Value.slice a4 bs.length c4], Value.pointer (some { block := w.heap.size, off := 0 }), Value.int IntKind.i64 0, Value.int IntKind.i64 ↑u0, Value.slice (some { block := gr, off := orr }) RL.length rc, Value.int IntKind.i64 ↑q, Value.agg #[Value.slice a1 xs.length c1, Value.slice a2 ys.length c2, Value.slice (some { block := g2, off := o2 }) is.length c3, Value.slice a4 bs.length c4], Value.slice (some { block := gr, off := orr }) RL.length rc, Value.int IntKind.i64 ↑q, Value.slice (some { block := gr, off := orr }) RL.length rc, Value.int IntKind.i64 ↑RL.length, Value.bool true, u12, u13, x 0, x 1, x 2, x 3, x 4, x 5, x 6, x 7, x 8, x 9, x 10, x 11, x 12, x 13, x 14, x 15, x 16, x 17, v, x 19, x 20, x 21, x 22, u37, u38, u39, undef], []⟩ W') := fun v W' h1 h2 => hK' _ _ (hK v W' h1 h2)
          have e5 : x 5 = .bool true := hp.post 5 (hd 5 (show 5 ∈ [5] from by decide))
          clear hK hK' hp hd
          simp only [e5] at HK ⊢
          go_simp
          exact HK.out _ _ (Below.refl _ _) rfl
        · refine wpOp_step (o := _) rfl fun K' hK' => ?_
          have HK : Hid (∀ v W', Below W.heap.size W W' → ((Mk.const [17, 18, 5] (.pointer (some ⟨gr, orr + q, none⟩)) : Mk)).P W.heap.size W'.heap.size W' v (upd x 19 v) → K' ⟨#[Value.agg #[Value.slice a1 xs.length c1, Value.slice a2 ys.length c2, Value.slice (some { block := g2, off := o2 }) is.length c3, Value.slice a4 bs.length c4], Value.pointer (some { block := w.heap.size, off := 0 }), Value.int IntKind.i64 0, Value.int IntKind.i64 ↑u0, Value.slice (some { block := gr, off := orr }) RL.length rc, Value.int IntKind.i64 ↑q, Value.agg #[Value.slice a1 xs.length c1, Value.slice a2 ys.length c2, Value.slice (some { block := g2, off := o2 }) is.length c3, Value.slice a4 bs.length c4], Value.slice (some { block := gr, off := orr }) RL.length rc, Value.int IntKind.i64 ↑q, Value.slice (some { block := gr, off := orr }) RL.length rc, Value.int IntKind.i64 ↑RL.length, Value.bool true, u12, u13, x 0, x 1, x 2, x 3, x 4, x 5, x 6, x 7, x 8, x 9, x 10, x 11, x 12, x 13, x 14, x 15, x 16, x 17, x 18, v, x 20, x 21, x 22, u37, u38, u39, undef], []⟩ W') := fun v W' h1 h2 => hK' _ _ (hK v W' h1 h2)
          have e17 : x 17 = .slice (some ⟨gr, orr, none⟩) RL.length rc := hp.post 17 (hd 17 (show 17 ∈ [17, 18, 5] from by decide))
          have e18 : x 18 = .int .i64 (q : Int) := hp.post 18 (hd 18 (show 18 ∈ [17, 18, 5] from by decide))
          have e5 : x 5 = .bool true := hp.post 5 (hd 5 (show 5 ∈ [17, 18, 5] from by decide))
          clear hK hK' hp hd
          simp only [e17, e18, e5] at HK ⊢
          go_simp
          exact HK.out _ _ (Below.refl _ _) rfl
        · refine wpOp_step (o := _) rfl fun K' hK' => ?_
          have HK : Hid (∀ v W', Below W.heap.size W W' → ((Mk.const [19, 5] (.int .i64 ((j : Int) + 1)) : Mk)).P W.heap.size W'.heap.size W' v (upd x 20 v) → K' ⟨#[Value.agg #[Value.slice a1 xs.length c1, Value.slice a2 ys.length c2, Value.slice (some { block := g2, off := o2 }) is.length c3, Value.slice a4 bs.length c4], Value.pointer (some { block := w.heap.size, off := 0 }), Value.int IntKind.i64 0, Value.int IntKind.i64 ↑u0, Value.slice (some { block := gr, off := orr }) RL.length rc, Value.int IntKind.i64 ↑q, Value.agg #[Value.slice a1 xs.length c1, Value.slice a2 ys.length c2, Value.slice (some { block := g2, off := o2 }) is.length c3, Value.slice a4 bs.length c4], Value.slice (some { block := gr, off := orr }) RL.length rc, Value.int IntKind.i64 ↑q, Value.slice (some { block := gr, off := orr }) RL.length rc, Value.int IntKind.i64 ↑RL.length, Value.bool true, u12, u13, x 0, x 1, x 2, x 3, x 4, x 5, x 6, x 7, x 8, x 9, x 10, x 11, x 12, x 13, x 14, x 15, x 16, x 17, x 18, x 19, v, x 21, x 22, u37, u38, u39, undef], []⟩ W') := fun v W' h1 h2 => hK' _ _ (hK v W' h1 h2)
          have e19 : x 19 = .pointer (some ⟨gr, orr + q, none⟩) := hp.post 19 (hd 19 (show 19 ∈ [19, 5] from by decide))
          have e5 : x 5 = .bool true := hp.post 5 (hd 5 (show 5 ∈ [19, 5] from by decide))
          have bw := HW.out W (of_drew hp.bel)
          have k0 := bw.2.1
          clear bw
          clear hK hK' hp hd
          simp only [e19, e5] at HK ⊢
          go_simp
          exact HK.out _ _ (Below.refl _ _) rfl
        · refine wpOp_step (o := _) rfl fun K' hK' => ?_
          have HK : Hid (∀ v W', Below W.heap.size W W' → ((Mk.const [16, 20, 5] (.int .i64 (ln : Int)) : Mk)).P W.heap.size W'.heap.size W' v (upd x 21 v) → K' ⟨#[Value.agg #[Value.slice a1 xs.length c1, Value.slice a2 ys.length c2, Value.slice (some { block := g2, off := o2 }) is.length c3, Value.slice a4 bs.length c4], Value.pointer (some { block := w.heap.size, off := 0 }), Value.int IntKind.i64 0, Value.int IntKind.i64 ↑u0, Value.slice (some { block := gr, off := orr }) RL.length rc, Value.int IntKind.i64 ↑q, Value.agg #[Value.slice a1 xs.length c1, Value.slice a2 ys.length c2, Value.slice (some { block := g2, off := o2 }) is.length c3, Value.slice a4 bs.length c4], Value.slice (some { block := gr, off := orr }) RL.length rc, Value.int IntKind.i64 ↑q, Value.slice (some { block := gr, off := orr }) RL.length rc, Value.int IntKind.i64 ↑RL.length, Value.bool true, u12, u13, x 0, x 1, x 2, x 3, x 4, x 5, x 6, x 7, x 8, x 9, x 10, x 11, x 12, x 13, x 14, x 15, x 16, x 17, x 18, x 19, x 20, v, x 22, u37, u38, u39, undef], []⟩ W') := fun v W' h1 h2 => hK' _ _ (hK v W' h1 h2)
          have e16 : x 16 = .agg #[.slice a1 xs.length c1, .slice a2 ys.length c2, .slice (some ⟨g2, o2, none⟩) is.length c3, .slice a4 bs.length c4] := hp.post 16 (hd 16 (show 16 ∈ [16, 20, 5] from by decide))
          have e20 : x 20 = .int .i64 ((j : Int) + 1) := hp.post 20 (hd 20 (show 20 ∈ [16, 20, 5] from by decide))
          have e5 : x 5 = .bool true := hp.post 5 (hd 5 (show 5 ∈ [16, 20, 5] from by decide))
          have dr := (HW.out W (of_drew hp.bel)).2.2.2.2
          clear hK hK' hp hd
          simp only [e16, e20, e5] at HK ⊢
          clear e16 e20 e5
          go_simp
          refine (CL1.out W dr).mono ?_
          rintro e w6 ⟨rfl, B6⟩
          go_simp
          exact HK.out _ _ B6 rfl
        · refine wpOp_step (o := _) rfl fun K' hK' => ?_
          have HK : Hid (∀ v W', Below W.heap.size W W' → ((Mk.const [15, 21, 5] (.bool (decide (lk < (ln : Int)))) : Mk)).P W.heap.size W'.heap.size W' v (upd x 22 v) → K' ⟨#[Value.agg #[Value.slice a1 xs.length c1, Value.slice a2 ys.length c2, Value.slice (some { block := g2, off := o2 }) is.length c3, Value.slice a4 bs.length c4], Value.pointer (some { block := w.heap.size, off := 0 }), Value.int IntKind.i64 0, Value.int IntKind.i64 ↑u0, Value.slice (some { block := gr, off := orr }) RL.length rc, Value.int IntKind.i64 ↑q, Value.agg #[Value.slice a1 xs.length c1, Value.slice a2 ys.length c2, Value.slice (some { block := g2, off := o2 }) is.length c3, Value.slice a4 bs.length c4], Value.slice (some { block := gr, off := orr }) RL.length rc, Value.int IntKind.i64 ↑q, Value.slice (some { block := gr, off := orr }) RL.length rc, Value.int IntKind.i64 ↑RL.length, Value.bool true, u12, u13, x 0, x 1, x 2, x 3, x 4, x 5, x 6, x 7, x 8, x 9, x 10, x 11, x 12, x 13, x 14, x 15, x 16, x 17, x 18, x 19, x 20, x 21, v, u37, u38, u39, undef], []⟩ W') := fun v W' h1 h2 => hK' _ _ (hK v W' h1 h2)
          have e15 : x 15 = .int .i64 lk := hp.post 15 (hd 15 (show 15 ∈ [15, 21, 5] from by decide))
          have e21 : x 21 = .int .i64 (ln : Int) := hp.post 21 (hd 21 (show 21 ∈ [15, 21, 5] from by decide))
          have e5 : x 5 = .bool true := hp.post 5 (hd 5 (show 5 ∈ [15, 21, 5] from by decide))
          clear hK hK' hp hd
          simp only [e15, e21, e5] at HK ⊢
          go_simp
          exact HK.out _ _ (Below.refl _ _) rfl
      · intro x iw W hp
        have e22 : x 22 = .bool (decide (lk < (ln : Int))) := hp.post 22 (by decide)
        have e5 : x 5 = .bool true := hp.post 5 (by decide)
        have HB := hide (of_drew hp.bel)
        simp only [e22, e5]
        clear hp e22 e5
        go_wp2_with fail
        try rw [List.filterMap_nil]
        try go_wp2_with fail
        go_meet
        exact ⟨rfl, HB.out⟩
    case rest =>
      obtain ⟨rfl, hB2⟩ := hcut
      have HB3 := hide (HW.out _ hB2).2.2.2.1
      clear hB2 HW HQ
      by_cases hl : lk < (ln : Int)
      · have hd : decide (lk < (ln : Int)) = true := decide_eq_true hl
        rw [hd]
        have HE2 : Hid ((RL.take (q + 1)).countP (fun i : Int => decide (¬ i = 1 ∧ lnkAt is (i - 1).toNat < linksN is bs i)) = u0 + 1) := hide (by have := HE.out; rwa [if_pos hl] at this)
        clear hd hl
        go_wp2
        go_roundw
        case rel => exact ⟨q + 1, by omega, by rw [HE2.out]; go_num, by go_num, HB3.out⟩
        case measure => simp [intOf]; omega
      · have hd : decide (lk < (ln : Int)) = false := decide_eq_false hl
        rw [hd]
        have HE2 : Hid ((RL.take (q + 1)).countP (fun i : Int => decide (¬ i = 1 ∧ lnkAt is (i - 1).toNat < linksN is bs i)) = u0) := hide (by have := HE.out; rwa [if_neg hl] at this)
        clear hd hl
        go_wp2
        go_roundw
        case rel => exact ⟨q + 1, by omega, by rw [HE2.out], by go_num, HB3.out⟩
        case measure => simp [intOf]; omega
end Go.Proofs.YtljooldjcefkoaaGreat
