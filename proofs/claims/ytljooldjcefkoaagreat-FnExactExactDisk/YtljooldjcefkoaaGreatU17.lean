/- Texts of the proof, bundled: Sk. -/
import Derived.Test.YtljooldjcefkoaaGreatU15
import Derived.Test.YtljooldjcefkoaaGreatU10
/- Of the specification: WrongKind by its contract. -/
namespace Go.Proofs.YtljooldjcefkoaaGreat
open Go.RowKit Kit
theorem ptrL_snocC (is : List Ino) (l : List Int) (q : Nat) (h : q < l.length) (f : Pr → Bool) : (ptrL is (l.take (q + 1))).countP f = (ptrL is (l.take q)).countP f + (ptrT l[q] (ptrsAt is l[q])).countP f := by
  rw [ptrL_take is l q h, List.countP_append]
  rfl
set_option maxRecDepth 100000 in
set_option maxHeartbeats 6400000 in
theorem specWrong_any (dx dy iv bv : Value) (xs ys : List Bool) (is : List Ino) (bs : List Blk) (w : World) (h : DR w dx dy iv bv xs ys is bs) (hX : RX xs ys is bs) :
    Calls Tryz.prog 20 #[.agg #[dx, dy, iv, bv]] w fun e w' => e = .returned (.int .i64 (wrongN is bs)) ∧ Below w.heap.size w w' := by
  obtain ⟨a1, c1, a2, c2, a3, c3, a4, c4, rfl, rfl, rfl, rfl⟩ := h.form
  have HL : Hid (is.length = 8 ∧ bs.length = 16) := ⟨hX.r.hi, hX.r.hb⟩
  have HH := hide h
  have HB0 : Hid (Below w.heap.size w (w.alloc (.cells #[.slice a1 xs.length c1, .slice a2 ys.length c2, .slice a3 is.length c3, .slice a4 bs.length c4] 35))) := (Below.refl _ w).alloc (Nat.le_refl _) _
  have HA0 := hide (AtC.new w 35 #[.slice a1 xs.length c1, .slice a2 ys.length c2, .slice a3 is.length c3, .slice a4 bs.length c4])
  have CR := hide (specReach_any (.slice a1 xs.length c1) (.slice a2 ys.length c2) (.slice a3 is.length c3) (.slice a4 bs.length c4) xs ys is bs (w.alloc (.cells #[.slice a1 xs.length c1, .slice a2 ys.length c2, .slice a3 is.length c3, .slice a4 bs.length c4] 35)) (h.alloc _) hX.r)
  have HRG : Hid (∀ i ∈ reachL is bs, 1 ≤ i ∧ i ≤ 8) := fun i hi => reach8 hi
  have HR8 := hide (reachL_len is bs)
  have HUL : Hid (∀ l, (ptrL is l).countP (fun s : Pr => (blkAt bs s.2).1 != (kindAt is s.1 == 2)) ≤ l.length * 2) := fun l => Nat.le_trans List.countP_le_length (ptrL_len hX.r l)
  have HP2 : Hid (∀ i, (ptrsAt is i).length ≤ 2) := ptrsAt_len hX.r
  have HFIN : Hid (wrongN is bs = (ptrL is (reachL is bs)).countP (fun s : Pr => (blkAt bs s.2).1 != (kindAt is s.1 == 2))) := rfl
  rw [HFIN.out]
  obtain ⟨RL, hRL⟩ : ∃ l, reachL is bs = l := ⟨_, rfl⟩
  rw [hRL] at CR HRG HR8 ⊢
  clear h hX hRL HFIN
  go_enter Tryz.func20, Tryz.ntmps20
  go_wp2_with fail
  refine CR.out.mono ?_
  rintro e w1 ⟨rv, rfl, R1, B1⟩
  have HB1 := hide (HB0.out.trans (B1.mono HB0.out.size))
  have HA1 := hide (HA0.out.over B1)
  obtain ⟨ra, rc, rfl, hcr⟩ := R1.rints
  have HCR := hide hcr
  have r8 : RL.length ≤ 8 := HR8.out
  clear R1 B1 CR HB0 HA0 hcr
  go_wp2_with fail
  go_loopw [3, 5] (fun nv kv wr => ∃ (q : Nat), q ≤ RL.length ∧ nv = .int .i64 (((ptrL is (RL.take q)).countP (fun s : Pr => (blkAt bs s.2).1 != (kindAt is s.1 == 2)) : Nat) : Int) ∧ kv = .int .i64 q ∧ Hid (Below w1.heap.size w1 wr)) (fun _ kv _ => RL.length - (intOf kv).toNat)
  case atStart => exact ⟨0, Nat.zero_le _, rfl, rfl, Below.refl _ _⟩
  case round =>
    obtain ⟨q, hq, rfl, rfl, HQ⟩ := hrel
    obtain ⟨wo, hwo⟩ : ∃ W, W = wr := ⟨_, rfl⟩
    subst hwo
    have q0 : (0 : Int) ≤ (q : Int) := by omega
    by_cases hlt : q < RL.length
    rotate_left
    · have q1 : ¬ ((q : Int) < (RL.length : Int)) := by omega
      rw [List.take_of_length_le (by omega)]
      go_wp2
      go_ret
      exact ⟨rfl, HB1.out.trans (HQ.out.mono HB1.out.size)⟩
    have q1 : (q : Int) < (RL.length : Int) := by omega
    obtain ⟨gr, orr, rfl, hgr, kr⟩ := HCR.out q hlt
    have hrg := HRG.out _ (List.getElem_mem hlt)
    have HSN := hide (ptrL_snocC is RL q hlt (fun s : Pr => (blkAt bs s.2).1 != (kindAt is s.1 == 2)))
    have hul := HUL.out (RL.take q)
    rw [List.length_take] at hul
    obtain ⟨u0, hu0⟩ : ∃ c, (ptrL is (RL.take q)).countP (fun s : Pr => (blkAt bs s.2).1 != (kindAt is s.1 == 2)) = c := ⟨_, rfl⟩
    obtain ⟨di, hdi⟩ : ∃ x, RL[q] = x := ⟨_, rfl⟩
    rw [hu0, hdi] at HSN
    rw [hu0] at hul ⊢
    rw [hdi] at kr hrg
    obtain ⟨j, rfl⟩ : ∃ j : Nat, di = (j : Int) + 1 := ⟨(di - 1).toNat, by omega⟩
    have hj8 : j < 8 := by omega
    have hj : j < is.length := by have := HL.out; omega
    have j0 : (0 : Int) ≤ (j : Int) := by omega
    have j1 : (j : Int) < (is.length : Int) := by omega
    have hwj : IntKind.i64.wrap (j : Int) = (j : Int) := wrap_small _ (by omega) (by omega)
    obtain ⟨g2, o2, sa, sc, rfl, hg2, y0, y1, y2, rr⟩ := DR.ino HH.out j hj
    have hp2 := HP2.out ((j : Int) + 1)
    obtain ⟨ps, hps⟩ : ∃ X, ptrsAt is ((j : Int) + 1) = X := ⟨_, rfl⟩
    rw [hps] at y2 rr hp2 HSN
    obtain ⟨pa, pc', pe, hcp⟩ := rr
    simp only [Value.slice.injEq, true_and] at pe
    obtain ⟨rfl, rfl⟩ := pe
    have HCP := hide hcp
    obtain ⟨kd, hkd⟩ : ∃ k, kindAt is ((j : Int) + 1) = k := ⟨_, rfl⟩
    have HKD := hide hkd
    obtain ⟨ln, hln⟩ : ∃ k, is[j].2.1 = k := ⟨_, rfl⟩
    rw [hkd] at y0
    rw [hln] at y1
    have HW : Hid (∀ W, Below wo.heap.size wo W → AtC W w.heap.size 35 #[.slice a1 xs.length c1, .slice a2 ys.length c2, .slice (some ⟨g2, o2, none⟩) is.length c3, .slice a4 bs.length c4] ∧ W.cell? ⟨gr, orr + q, none⟩ = some (.int .i64 ((j : Int) + 1)) ∧ (W.cell? ⟨g2, o2 + j * 3, none⟩ = some (.int .i64 kd) ∧ W.cell? ⟨g2, o2 + j * 3 + 1, none⟩ = some (.int .i64 ln) ∧ W.cell? ⟨g2, o2 + j * 3 + 2, none⟩ = some (.slice sa ps.length sc)) ∧ Below w1.heap.size w1 W ∧ Below w.heap.size w W) := fun W b => by
      have b1 := HQ.out.trans (b.mono HQ.out.size)
      have b0 := HB1.out.trans (b1.mono HB1.out.size)
      exact ⟨HA1.out.over b1, (b1.cell (p := ⟨gr, orr + q, none⟩) hgr).trans kr, ⟨(b0.cell (p := ⟨g2, o2 + j * 3, none⟩) hg2).trans y0, (b0.cell (p := ⟨g2, o2 + j * 3 + 1, none⟩) hg2).trans y1, (b0.cell (p := ⟨g2, o2 + j * 3 + 2, none⟩) hg2).trans y2⟩, b1, b0⟩
    clear hu0 hdi kr y0 y1 y2 hkd hln hps hcp
    go_upto_region 6 with fail
    go_cut [6] from 12 to 54 (fun pv wx => ∃ xb : Nat, pv = .pointer (some ⟨xb, 0, none⟩) ∧ AtC wx xb 44 #[.int .i64 kd, .int .i64 ln, .slice sa ps.length sc] ∧ Below wo.heap.size wo wx)
    case first =>
      refine wp_region_alt (by kernel_rfl) [0, 1, 2, 3, 4, 5, 6, 7, 8, 9] [10] [] (fun i => match i with | 0 => .const [] (.pointer (some ⟨w.heap.size, 2, none⟩)) | 1 => .const [0] (.slice (some ⟨g2, o2, none⟩) is.length c3) | 2 => .const [] (.slice (some ⟨gr, orr, none⟩) RL.length rc) | 3 => .const [] (.int .i64 (q : Int)) | 4 => .const [2, 3] (.pointer (some ⟨gr, orr + q, none⟩)) | 5 => .const [4] (.int .i64 ((j : Int) + 1)) | 6 => .const [5] (.int .i64 (j : Int)) | 7 => .const [1, 6] (.pointer (some ⟨g2, o2 + j * 3, none⟩)) | 8 => .const [7] (.agg #[.int .i64 kd, .int .i64 ln, .slice sa ps.length sc]) | 9 => MkW 44 #[.int .i64 0, .int .i64 0, .slice none 0 0] | _ => .triv) (fun x => ⟨#[Value.agg #[Value.slice a1 xs.length c1, Value.slice a2 ys.length c2, Value.slice (some { block := g2, off := o2 }) is.length c3, Value.slice a4 bs.length c4], Value.pointer (some { block := w.heap.size, off := 0 }), Value.int IntKind.i64 0, Value.int IntKind.i64 ↑u0, Value.slice (some { block := gr, off := orr }) RL.length rc, Value.int IntKind.i64 ↑q, x 9, u7, u8, u9, Value.agg #[Value.slice a1 xs.length c1, Value.slice a2 ys.length c2, Value.slice (some { block := g2, off := o2 }) is.length c3, Value.slice a4 bs.length c4], Value.slice (some { block := gr, off := orr }) RL.length rc, Value.int IntKind.i64 ↑q, Value.slice (some { block := gr, off := orr }) RL.length rc, Value.int IntKind.i64 ↑RL.length, Value.bool true, u16, u17, x 0, x 1, x 2, x 3, x 4, x 5, x 6, x 7, x 8, u27, u28, u29, u30, u31, u32, u33, u34, u35, u36, u37, u38, u39, u40, u41, u42, u43, u44, u45, u46, u47, u48, u49, u50, u51, u52, u53, u54, undef], []⟩) (fun i => match i with | 0 => u18 | 1 => u19 | 2 => u20 | 3 => u21 | 4 => u22 | 5 => u23 | 6 => u24 | 7 => u25 | 8 => u26 | 9 => u6 | _ => undef) rfl (makersOk2_of (by kernel_rfl) (by kernel_rfl)) (by kernel_rfl) (by kernel_rfl) (by kernel_rfl) rfl ?_ ?_ (by intro q hq; cases hq)
      · intro jo hj so x iw W hd hp K hK
        simp only [List.mem_cons, List.not_mem_nil, or_false] at hj
        rcases hj with rfl | rfl | rfl | rfl | rfl | rfl | rfl | rfl | rfl | rfl
        · refine wpOp_step (o := _) rfl fun K' hK' => ?_
          have HK : Hid (∀ v W', Below W.heap.size W W' → ((Mk.const [] (.pointer (some ⟨w.heap.size, 2, none⟩)) : Mk)).P W.heap.size W'.heap.size W' v (upd x 0 v) → K' ⟨#[Value.agg #[Value.slice a1 xs.length c1, Value.slice a2 ys.length c2, Value.slice (some { block := g2, off := o2 }) is.length c3, Value.slice a4 bs.length c4], Value.pointer (some { block := w.heap.size, off := 0 }), Value.int IntKind.i64 0, Value.int IntKind.i64 ↑u0, Value.slice (some { block := gr, off := orr }) RL.length rc, Value.int IntKind.i64 ↑q, x 9, u7, u8, u9, Value.agg #[Value.slice a1 xs.length c1, Value.slice a2 ys.length c2, Value.slice (some { block := g2, off := o2 }) is.length c3, Value.slice a4 bs.length c4], Value.slice (some { block := gr, off := orr }) RL.length rc, Value.int IntKind.i64 ↑q, Value.slice (some { block := gr, off := orr }) RL.length rc, Value.int IntKind.i64 ↑RL.length, Value.bool true, u16, u17, v, x 1, x 2, x 3, x 4, x 5, x 6, x 7, x 8, u27, u28, u29, u30, u31, u32, u33, u34, u35, u36, u37, u38, u39, u40, u41, u42, u43, u44, u45, u46, u47, u48, u49, u50, u51, u52, u53, u54, undef], []⟩ W') := fun v W' h1 h2 => hK' _ _ (hK v W' h1 h2)
          clear hK hK' hp hd
          go_simp
          exact HK.out _ _ (Below.refl _ _) rfl
        · refine wpOp_step (o := _) rfl fun K' hK' => ?_
          have HK : Hid (∀ v W', Below W.heap.size W W' → ((Mk.const [0] (.slice (some ⟨g2, o2, none⟩) is.length c3) : Mk)).P W.heap.size W'.heap.size W' v (upd x 1 v) → K' ⟨#[Value.agg #[Value.slice a1 xs.length c1, Value.slice a2 ys.length c2, Value.slice (some { block := g2, off := o2 }) is.length c3, Value.slice a4 bs.length c4], Value.pointer (some { block := w.heap.size, off := 0 }), Value.int IntKind.i64 0, Value.int IntKind.i64 ↑u0, Value.slice (some { block := gr, off := orr }) RL.length rc, Value.int IntKind.i64 ↑q, x 9, u7, u8, u9, Value.agg #[Value.slice a1 xs.length c1, Value.slice a2 ys.length c2, Value.slice (some { block := g2, off := o2 }) is.length c3, Value.slice a4 bs.length c4], Value.slice (some { block := gr, off := orr }) RL.length rc, Value.int IntKind.i64 ↑q, Value.slice (some { block := gr, off := orr }) RL.length rc, Value.int IntKind.i64 ↑RL.length, Value.bool true, u16, u17, x 0, v, x 2, x 3, x 4, x 5, x 6, x 7, x 8, u27, u28, u29, u30, u31, u32, u33, u34, u35, u36, u37, u38, u39, u40, u41, u42, u43, u44, u45, u46, u47, u48, u49, u50, u51, u52, u53, u54, undef], []⟩ W') := fun v W' h1 h2 => hK' _ _ (hK v W' h1 h2)
          have e0 : x 0 = .pointer (some ⟨w.heap.size, 2, none⟩) := hp.post 0 (hd 0 (show 0 ∈ [0] from by decide))
          have bw := HW.out W (of_drew hp.bel)
          have k0 : W.cell? ⟨w.heap.size, 2, none⟩ = some (.slice (some ⟨g2, o2, none⟩) is.length c3) := bw.1.cell 2
          clear bw
          clear hK hK' hp hd
          simp only [e0] at HK ⊢
          go_simp
          exact HK.out _ _ (Below.refl _ _) rfl
        · refine wpOp_step (o := _) rfl fun K' hK' => ?_
          have HK : Hid (∀ v W', Below W.heap.size W W' → ((Mk.const [] (.slice (some ⟨gr, orr, none⟩) RL.length rc) : Mk)).P W.heap.size W'.heap.size W' v (upd x 2 v) → K' ⟨#[Value.agg #[Value.slice a1 xs.length c1, Value.slice a2 ys.length c2, Value.slice (some { block := g2, off := o2 }) is.length c3, Value.slice a4 bs.length c4], Value.pointer (some { block := w.heap.size, off := 0 }), Value.int IntKind.i64 0, Value.int IntKind.i64 ↑u0, Value.slice (some { block := gr, off := orr }) RL.length rc, Value.int IntKind.i64 ↑q, x 9, u7, u8, u9, Value.agg #[Value.slice a1 xs.length c1, Value.slice a2 ys.length c2, Value.slice (some { block := g2, off := o2 }) is.length c3, Value.slice a4 bs.length c4], Value.slice (some { block := gr, off := orr }) RL.length rc, Value.int IntKind.i64 ↑q, Value.slice (some { block := gr, off := orr }) RL.length rc, Value.int IntKind.i64 ↑RL.length, Value.bool true, u16, u17, x 0, x 1, v, x 3, x 4, x 5, x 6, x 7, x 8, u27, u28, u29, u30, u31, u32, u33, u34, u35, u36, u37, u38, u39, u40, u41, u42, u43, u44, u45, u46, u47, u48, u49, u50, u51, u52, u53, u54, undef], []⟩ W') := fun v W' h1 h2 => hK' _ _ (hK v W' h1 h2)
          clear hK hK' hp hd
          go_simp
          exact HK.out _ _ (Below.refl _ _) rfl
        · refine wpOp_step (o := _) rfl fun K' hK' => ?_
          have HK : Hid (∀ v W', Below W.heap.size W W' → ((Mk.const [] (.int .i64 (q : Int)) : Mk)).P W.heap.size W'.heap.size W' v (upd x 3 v) → K' ⟨#[Value.agg #[Value.slice a1 xs.length c1, Value.slice a2 ys.length c2, Value.slice (some { block := g2, off := o2 }) is.length c3, Value.slice a4 bs.length c4], Value.pointer (some { block := w.heap.size, off := 0 }), Value.int IntKind.i64 0, Value.int IntKind.i64 ↑u0, Value.slice (some { block := gr, off := orr }) RL.length rc, Value.int IntKind.i64 ↑q, x 9, u7, u8, u9, Value.agg #[Value.slice a1 xs.length c1, Value.slice a2 ys.length c2, Value.slice (some { block := g2, off := o2 }) is.length c3, Value.slice a4 bs.length c4], Value.slice (some { block := gr, off := orr }) RL.length rc, Value.int IntKind.i64 ↑q, Value.slice (some { block := gr, off := orr }) RL.length rc, Value.int IntKind.i64 ↑RL.length, Value.bool true, u16, u17, x 0, x 1, x 2, v, x 4, x 5, x 6, x 7, x 8, u27, u28, u29, u30, u31, u32, u33, u34, u35, u36, u37, u38, u39, u40, u41, u42, u43, u44, u45, u46, u47, u48, u49, u50, u51, u52, u53, u54, undef], []⟩ W') := fun v W' h1 h2 => hK' _ _ (hK v W' h1 h2)
          clear hK hK' hp hd
          go_simp
          exact HK.out _ _ (Below.refl _ _) rfl
        · refine wpOp_step (o := _) rfl fun K' hK' => ?_
          have HK : Hid (∀ v W', Below W.heap.size W W' → ((Mk.const [2, 3] (.pointer (some ⟨gr, orr + q, none⟩)) : Mk)).P W.heap.size W'.heap.size W' v (upd x 4 v) → K' ⟨#[Value.agg #[Value.slice a1 xs.length c1, Value.slice a2 ys.length c2, Value.slice (some { block := g2, off := o2 }) is.length c3, Value.slice a4 bs.length c4], Value.pointer (some { block := w.heap.size, off := 0 }), Value.int IntKind.i64 0, Value.int IntKind.i64 ↑u0, Value.slice (some { block := gr, off := orr }) RL.length rc, Value.int IntKind.i64 ↑q, x 9, u7, u8, u9, Value.agg #[Value.slice a1 xs.length c1, Value.slice a2 ys.length c2, Value.slice (some { block := g2, off := o2 }) is.length c3, Value.slice a4 bs.length c4], Value.slice (some { block := gr, off := orr }) RL.length rc, Value.int IntKind.i64 ↑q, Value.slice (some { block := gr, off := orr }) RL.length rc, Value.int IntKind.i64 ↑RL.length, Value.bool true, u16, u17, x 0, x 1, x 2, x 3, v, x 5, x 6, x 7, x 8, u27, u28, u29, u30, u31, u32, u33, u34, u35, u36, u37, u38, u39, u40, u41, u42, u43, u44, u45, u46, u47, u48, u49, u50, u51, u52, u53, u54, undef], []⟩ W') := fun v W' h1 h2 => hK' _ _ (hK v W' h1 h2)
          have e2 : x 2 = .slice (some ⟨gr, orr, none⟩) RL.length rc := hp.post 2 (hd 2 (show 2 ∈ [2, 3] from by decide))
          have e3 : x 3 = .int .i64 (q : Int) := hp.post 3 (hd 3 (show 3 ∈ [2, 3] from by decide))
          clear hK hK' hp hd
          simp only [e2, e3] at HK ⊢
          go_simp
          exact HK.out _ _ (Below.refl _ _) rfl
        · refine wpOp_step (o := _) rfl fun K' hK' => ?_
          have HK : Hid (∀ v W', Below W.heap.size W W' → ((Mk.const [4] (.int .i64 ((j : Int) + 1)) : Mk)).P W.heap.size W'.heap.size W' v (upd x 5 v) → K' ⟨#[Value.agg #[Value.slice a1 xs.length c1, Value.slice a2 ys.length c2, Value.slice (some { block := g2, off := o2 }) is.length c3, Value.slice a4 bs.length c4], Value.pointer (some { block := w.heap.size, off := 0 }), Value.int IntKind.i64 0, Value.int IntKind.i64 ↑u0, Value.slice (some { block := gr, off := orr }) RL.length rc, Value.int IntKind.i64 ↑q, x 9, u7, u8, u9, Value.agg #[Value.slice a1 xs.length c1, Value.slice a2 ys.length c2, Value.slice (some { block := g2, off := o2 }) is.length c3, Value.slice a4 bs.length c4], Value.slice (some { block := gr, off := orr }) RL.length rc, Value.int IntKind.i64 ↑q, Value.slice (some { block := gr, off := orr }) RL.length rc, Value.int IntKind.i64 ↑RL.length, Value.bool true, u16, u17, x 0, x 1, x 2, x 3, x 4, v, x 6, x 7, x 8, u27, u28, u29, u30, u31, u32, u33, u34, u35, u36, u37, u38, u39, u40, u41, u42, u43, u44, u45, u46, u47, u48, u49, u50, u51, u52, u53, u54, undef], []⟩ W') := fun v W' h1 h2 => hK' _ _ (hK v W' h1 h2)
          have e4 : x 4 = .pointer (some ⟨gr, orr + q, none⟩) := hp.post 4 (hd 4 (show 4 ∈ [4] from by decide))
          have bw := HW.out W (of_drew hp.bel)
          have k0 := bw.2.1
          clear bw
          clear hK hK' hp hd
          simp only [e4] at HK ⊢
          go_simp
          exact HK.out _ _ (Below.refl _ _) rfl
        · refine wpOp_step (o := _) rfl fun K' hK' => ?_
          have HK : Hid (∀ v W', Below W.heap.size W W' → ((Mk.const [5] (.int .i64 (j : Int)) : Mk)).P W.heap.size W'.heap.size W' v (upd x 6 v) → K' ⟨#[Value.agg #[Value.slice a1 xs.length c1, Value.slice a2 ys.length c2, Value.slice (some { block := g2, off := o2 }) is.length c3, Value.slice a4 bs.length c4], Value.pointer (some { block := w.heap.size, off := 0 }), Value.int IntKind.i64 0, Value.int IntKind.i64 ↑u0, Value.slice (some { block := gr, off := orr }) RL.length rc, Value.int IntKind.i64 ↑q, x 9, u7, u8, u9, Value.agg #[Value.slice a1 xs.length c1, Value.slice a2 ys.length c2, Value.slice (some { block := g2, off := o2 }) is.length c3, Value.slice a4 bs.length c4], Value.slice (some { block := gr, off := orr }) RL.length rc, Value.int IntKind.i64 ↑q, Value.slice (some { block := gr, off := orr }) RL.length rc, Value.int IntKind.i64 ↑RL.length, Value.bool true, u16, u17, x 0, x 1, x 2, x 3, x 4, x 5, v, x 7, x 8, u27, u28, u29, u30, u31, u32, u33, u34, u35, u36, u37, u38, u39, u40, u41, u42, u43, u44, u45, u46, u47, u48, u49, u50, u51, u52, u53, u54, undef], []⟩ W') := fun v W' h1 h2 => hK' _ _ (hK v W' h1 h2)
          have e5 : x 5 = .int .i64 ((j : Int) + 1) := hp.post 5 (hd 5 (show 5 ∈ [5] from by decide))
          clear hK hK' hp hd
          simp only [e5] at HK ⊢
          go_simp
          exact HK.out _ _ (Below.refl _ _) rfl
        · refine wpOp_step (o := _) rfl fun K' hK' => ?_
          have HK : Hid (∀ v W', Below W.heap.size W W' → ((Mk.const [1, 6] (.pointer (some ⟨g2, o2 + j * 3, none⟩)) : Mk)).P W.heap.size W'.heap.size W' v (upd x 7 v) → K' ⟨#[Value.agg #[Value.slice a1 xs.length c1, Value.slice a2 ys.length c2, Value.slice (some { block := g2, off := o2 }) is.length c3, Value.slice a4 bs.length c4], Value.pointer (some { block := w.heap.size, off := 0 }), Value.int IntKind.i64 0, Value.int IntKind.i64 ↑u0, Value.slice (some { block := gr, off := orr }) RL.length rc, Value.int IntKind.i64 ↑q, x 9, u7, u8, u9, Value.agg #[Value.slice a1 xs.length c1, Value.slice a2 ys.length c2, Value.slice (some { block := g2, off := o2 }) is.length c3, Value.slice a4 bs.length c4], Value.slice (some { block := gr, off := orr }) RL.length rc, Value.int IntKind.i64 ↑q, Value.slice (some { block := gr, off := orr }) RL.length rc, Value.int IntKind.i64 ↑RL.length, Value.bool true, u16, u17, x 0, x 1, x 2, x 3, x 4, x 5, x 6, v, x 8, u27, u28, u29, u30, u31, u32, u33, u34, u35, u36, u37, u38, u39, u40, u41, u42, u43, u44, u45, u46, u47, u48, u49, u50, u51, u52, u53, u54, undef], []⟩ W') := fun v W' h1 h2 => hK' _ _ (hK v W' h1 h2)
          have e1 : x 1 = .slice (some ⟨g2, o2, none⟩) is.length c3 := hp.post 1 (hd 1 (show 1 ∈ [1, 6] from by decide))
          have e6 : x 6 = .int .i64 (j : Int) := hp.post 6 (hd 6 (show 6 ∈ [1, 6] from by decide))
          clear hK hK' hp hd
          simp only [e1, e6] at HK ⊢
          go_simp
          exact HK.out _ _ (Below.refl _ _) rfl
        · refine wpOp_step (o := _) rfl fun K' hK' => ?_
          have HK : Hid (∀ v W', Below W.heap.size W W' → ((Mk.const [7] (.agg #[.int .i64 kd, .int .i64 ln, .slice sa ps.length sc]) : Mk)).P W.heap.size W'.heap.size W' v (upd x 8 v) → K' ⟨#[Value.agg #[Value.slice a1 xs.length c1, Value.slice a2 ys.length c2, Value.slice (some { block := g2, off := o2 }) is.length c3, Value.slice a4 bs.length c4], Value.pointer (some { block := w.heap.size, off := 0 }), Value.int IntKind.i64 0, Value.int IntKind.i64 ↑u0, Value.slice (some { block := gr, off := orr }) RL.length rc, Value.int IntKind.i64 ↑q, x 9, u7, u8, u9, Value.agg #[Value.slice a1 xs.length c1, Value.slice a2 ys.length c2, Value.slice (some { block := g2, off := o2 }) is.length c3, Value.slice a4 bs.length c4], Value.slice (some { block := gr, off := orr }) RL.length rc, Value.int IntKind.i64 ↑q, Value.slice (some { block := gr, off := orr }) RL.length rc, Value.int IntKind.i64 ↑RL.length, Value.bool true, u16, u17, x 0, x 1, x 2, x 3, x 4, x 5, x 6, x 7, v, u27, u28, u29, u30, u31, u32, u33, u34, u35, u36, u37, u38, u39, u40, u41, u42, u43, u44, u45, u46, u47, u48, u49, u50, u51, u52, u53, u54, undef], []⟩ W') := fun v W' h1 h2 => hK' _ _ (hK v W' h1 h2)
          have e7 : x 7 = .pointer (some ⟨g2, o2 + j * 3, none⟩) := hp.post 7 (hd 7 (show 7 ∈ [7] from by decide))
          have bw := HW.out W (of_drew hp.bel)
          obtain ⟨k0, k1, k2⟩ := bw.2.2.1
          clear bw
          clear hK hK' hp hd
          simp only [e7] at HK ⊢
          go_simp
          exact HK.out _ _ (Below.refl _ _) rfl
        · refine wpOp_step (o := _) rfl fun K' hK' => ?_
          have HK : Hid (∀ v W', Below W.heap.size W W' → (MkW 44 #[.int .i64 0, .int .i64 0, .slice none 0 0]).P W.heap.size W'.heap.size W' v (upd x 9 v) → K' ⟨#[Value.agg #[Value.slice a1 xs.length c1, Value.slice a2 ys.length c2, Value.slice (some { block := g2, off := o2 }) is.length c3, Value.slice a4 bs.length c4], Value.pointer (some { block := w.heap.size, off := 0 }), Value.int IntKind.i64 0, Value.int IntKind.i64 ↑u0, Value.slice (some { block := gr, off := orr }) RL.length rc, Value.int IntKind.i64 ↑q, v, u7, u8, u9, Value.agg #[Value.slice a1 xs.length c1, Value.slice a2 ys.length c2, Value.slice (some { block := g2, off := o2 }) is.length c3, Value.slice a4 bs.length c4], Value.slice (some { block := gr, off := orr }) RL.length rc, Value.int IntKind.i64 ↑q, Value.slice (some { block := gr, off := orr }) RL.length rc, Value.int IntKind.i64 ↑RL.length, Value.bool true, u16, u17, x 0, x 1, x 2, x 3, x 4, x 5, x 6, x 7, x 8, u27, u28, u29, u30, u31, u32, u33, u34, u35, u36, u37, u38, u39, u40, u41, u42, u43, u44, u45, u46, u47, u48, u49, u50, u51, u52, u53, u54, undef], []⟩ W') := fun v W' h1 h2 => hK' _ _ (hK v W' h1 h2)
          clear hK hK' hp hd
          go_simp
          exact HK.out _ _ ((Below.refl _ W).alloc (Nat.le_refl _) _) ⟨rfl, by simp, AtC.new W 44 _⟩
      · intro x iw W hp
        have e8 : x 8 = .agg #[.int .i64 kd, .int .i64 ln, .slice sa ps.length sc] := hp.post 8 (by decide)
        obtain ⟨e9, z9, A9⟩ := hp.post 9 (by decide)
        have l9 := hp.lo 9 (by decide)
        have bel := of_drew hp.bel
        have hb9 : wo.heap.size ≤ (iw 9).1 := l9.1
        have y0 : W.cell? ⟨(iw 9).1, 0, none⟩ = some (.int .i64 0) := A9.cell 0
        have y1 : W.cell? ⟨(iw 9).1, 1, none⟩ = some (.int .i64 0) := A9.cell 1
        have y2 : W.cell? ⟨(iw 9).1, 2, none⟩ = some (.slice none 0 0) := A9.cell 2
        have f0 := A9.frozen 0
        have f1 := A9.frozen 1
        have f2 := A9.frozen 2
        have HFI : Hid (AtC W (iw 9).1 44 #[.int .i64 0, .int .i64 0, .slice none 0 0] ∧ Below wo.heap.size wo W ∧ wo.heap.size ≤ (iw 9).1) := ⟨A9, bel, hb9⟩
        clear hp A9 bel l9 z9 hb9
        simp only [e8, e9] at *
        generalize (iw 9).1 = bw at *
        go_wp2_with fail
        try rw [List.filterMap_nil]
        try go_wp2_with fail
        go_meet
        exact ⟨bw, rfl, ((HFI.out.1.set 0 _).set 1 _).set 2 _, ((HFI.out.2.1.setCell (p := ⟨bw, 0, none⟩) HFI.out.2.2 _).setCell (p := ⟨bw, 1, none⟩) HFI.out.2.2 _).setCell (p := ⟨bw, 2, none⟩) HFI.out.2.2 _⟩
    case rest =>
      obtain ⟨xb, rfl, hAx, hB2⟩ := hcut
      have HX2 := hide (And.intro hAx hB2)
      clear hAx hB2
      obtain ⟨wx, hwx⟩ : ∃ W, W = wc := ⟨_, rfl⟩
      subst hwx
      go_wp2_with fail
      go_loopw [3, 7] (fun nv kv wr => ∃ (t : Nat), t ≤ ps.length ∧ nv = .int .i64 (((u0 + (ptrT ((j : Int) + 1) (ps.take t)).countP (fun s : Pr => (blkAt bs s.2).1 != (kindAt is s.1 == 2)) : Nat)) : Int) ∧ kv = .int .i64 t ∧ Hid (Below wx.heap.size wx wr)) (fun _ kv _ => ps.length - (intOf kv).toNat)
      case atStart => exact ⟨0, Nat.zero_le _, by simp [ptrT], rfl, Below.refl _ _⟩
      case round =>
        obtain ⟨t, ht, rfl, rfl, HT⟩ := hrel
        obtain ⟨wt, hwt⟩ : ∃ W, W = wr := ⟨_, rfl⟩
        subst hwt
        have t0 : (0 : Int) ≤ (t : Int) := by omega
        have HV : Hid (∀ W, Below wt.heap.size wt W → AtC W w.heap.size 35 #[.slice a1 xs.length c1, .slice a2 ys.length c2, .slice (some ⟨g2, o2, none⟩) is.length c3, .slice a4 bs.length c4] ∧ AtC W xb 44 #[.int .i64 kd, .int .i64 ln, .slice sa ps.length sc] ∧ Below w1.heap.size w1 W ∧ Below w.heap.size w W ∧ Below wx.heap.size wx W) := fun W b => by
          have b1 := HT.out.trans (b.mono HT.out.size)
          have b2 := HX2.out.2.trans (b1.mono HX2.out.2.size)
          obtain ⟨q1, -, -, q4, q5⟩ := HW.out W b2
          exact ⟨q1, HX2.out.1.over b1, q4, q5, b1⟩
        have x7 : wt.cell? ⟨xb, 2, none⟩ = some (.slice sa ps.length sc) := (HV.out _ (Below.refl _ _)).2.1.cell 2
        by_cases htl : t < ps.length
        rotate_left
        · have t1 : ¬ ((t : Int) < (ps.length : Int)) := by omega
          have HE : Hid ((ptrL is (RL.take (q + 1))).countP (fun s : Pr => (blkAt bs s.2).1 != (kindAt is s.1 == 2)) = u0 + (ptrT ((j : Int) + 1) (ps.take t)).countP (fun s : Pr => (blkAt bs s.2).1 != (kindAt is s.1 == 2))) := by
            show _ = _
            rw [HSN.out, List.take_of_length_le (show ps.length ≤ t by omega)]
          have HBZ := hide (HV.out _ (Below.refl _ _)).2.2.1
          go_wp2
          go_roundw
          case rel => exact ⟨q + 1, by omega, by rw [HE.out], by go_num, HBZ.out⟩
          case measure => simp [intOf]; omega
        have t1 : (t : Int) < (ps.length : Int) := by omega
        obtain ⟨gp, op, rfl, hgp, kp⟩ := HCP.out t htl
        have HTT := hide (congrArg (List.countP (fun s : Pr => (blkAt bs s.2).1 != (kindAt is s.1 == 2))) (ptrT_take ((j : Int) + 1) ps t htl))
        have hle : (ptrT ((j : Int) + 1) (ps.take t)).countP (fun s : Pr => (blkAt bs s.2).1 != (kindAt is s.1 == 2)) ≤ 2 := Nat.le_trans List.countP_le_length (Nat.le_trans (ptrT_len _ _) (by rw [List.length_take]; omega))
        obtain ⟨Pn, hPn⟩ : ∃ x, ps[t] = x := ⟨_, rfl⟩
        rw [hPn, List.countP_append] at HTT
        rw [hPn] at kp
        obtain ⟨v0, hv0⟩ : ∃ c, (ptrT ((j : Int) + 1) (ps.take t)).countP (fun s : Pr => (blkAt bs s.2).1 != (kindAt is s.1 == 2)) = c := ⟨_, rfl⟩
        rw [hv0] at HTT hle ⊢
        have CB := hide (fun (W : World) (hd : Below w.heap.size w W) => blk_any Pn (.slice a1 xs.length c1) (.slice a2 ys.length c2) (.slice (some ⟨g2, o2, none⟩) is.length c3) (.slice a4 bs.length c4) xs ys is bs w W HH.out hd (by rw [HL.out.2]; decide))
        obtain ⟨⟨bd, bss, btx⟩, hBD⟩ : ∃ X, blkAt bs Pn = X := ⟨_, rfl⟩
        obtain ⟨F, hF⟩ : ∃ F, inB Pn 1 bs.length = F := ⟨_, rfl⟩
        have hF16 : inB Pn 1 16 = F := by rw [← hF, HL.out.2]; rfl
        rw [hBD, hF] at CB
        have HTT2 : Hid ((ptrT ((j : Int) + 1) (ps.take (t + 1))).countP (fun s : Pr => (blkAt bs s.2).1 != (kindAt is s.1 == 2)) = v0 + if (F && (bd != (kd == 2))) = true then 1 else 0) := hide (by
          have := HTT.out
          rw [this, hF16]
          congr 1
          cases F with
          | false => simp
          | true =>
            rw [if_pos rfl, List.countP_cons, List.countP_nil]
            simp only [hBD, HKD.out, Bool.true_and, Nat.zero_add])
        have HWR : Hid (∀ W, Below wt.heap.size wt W → W.cell? ⟨gp, op + t, none⟩ = some (.int .i64 Pn) ∧ AtC W w.heap.size 35 #[.slice a1 xs.length c1, .slice a2 ys.length c2, .slice (some ⟨g2, o2, none⟩) is.length c3, .slice a4 bs.length c4] ∧ AtC W xb 44 #[.int .i64 kd, .int .i64 ln, .slice (some ⟨gp, op, none⟩) ps.length sc] ∧ Below w.heap.size w W) := fun W b => by
          obtain ⟨q1, q2, -, q4, -⟩ := HV.out W b
          exact ⟨(q4.cell (p := ⟨gp, op + t, none⟩) hgp).trans kp, q1, q2, q4⟩
        clear hPn kp hv0 hBD hF hF16 HTT
        go_upto_region 10 with fail
        clear x7
        go_cut [8, 9] from 27 to 54 (fun bv ok wx => ∃ (bw : Nat) (ba : Option Addr) (bc : Nat), bv = .pointer (some ⟨bw, 0, none⟩) ∧ ok = .bool F ∧ AtC wx bw 73 #[.bool bd, .slice ba bss.length bc, .string btx] ∧ RSl w (.slice ba bss.length bc) bss ∧ Below wt.heap.size wt wx ∧ wt.heap.size ≤ bw)
        case first =>
          refine wp_region_alt (by kernel_rfl) [0, 1, 2, 3, 4, 5, 6, 7, 8, 9, 10] [11, 12] [([0, 1, 2, 3, 4, 5, 6, 7, 8, 10], [[9, 11, 12], [11, 9, 12]])] (fun i => match i with | 0 => .const [] (.agg #[.slice a1 xs.length c1, .slice a2 ys.length c2, .slice (some ⟨g2, o2, none⟩) is.length c3, .slice a4 bs.length c4]) | 1 => .const [] (.pointer (some ⟨xb, 2, none⟩)) | 2 => .const [1] (.slice (some ⟨gp, op, none⟩) ps.length sc) | 3 => .const [] (.int .i64 (t : Int)) | 4 => .const [2, 3] (.pointer (some ⟨gp, op + t, none⟩)) | 5 => .const [4] (.int .i64 Pn) | 6 => MkT2 [0, 5] (BlkR w bd btx bss F) BlkR.below | 7 => MkMv 6 | 8 => MkFs 7 | 9 => MkSd 7 | 10 => MkW 73 #[.bool false, .slice none 0 0, .string ⟨#[]⟩] | _ => .triv) (fun x => ⟨#[Value.agg #[Value.slice a1 xs.length c1, Value.slice a2 ys.length c2, Value.slice (some { block := g2, off := o2 }) is.length c3, Value.slice a4 bs.length c4], Value.pointer (some { block := w.heap.size, off := 0 }), Value.int IntKind.i64 0, Value.int IntKind.i64 ↑(u0 + v0), Value.slice (some { block := gr, off := orr }) RL.length rc, Value.int IntKind.i64 ↑q, Value.pointer (some { block := xb, off := 0 }), Value.int IntKind.i64 ↑t, x 10, u9, Value.agg #[Value.slice a1 xs.length c1, Value.slice a2 ys.length c2, Value.slice (some { block := g2, off := o2 }) is.length c3, Value.slice a4 bs.length c4], Value.slice (some { block := gr, off := orr }) RL.length rc, u12, u13, u14, u15, u16, u17, u18, u19, u20, u21, u22, u23, u24, u25, u26, Value.int IntKind.i64 ↑t, Value.pointer (some { block := xb, off := 2 }), Value.slice (some { block := gp, off := op }) ps.length sc, Value.int IntKind.i64 ↑ps.length, Value.bool true, u32, u33, x 7, x 0, x 1, x 2, x 3, x 4, x 5, x 6, x 8, x 9, u44, u45, u46, u47, u48, u49, u50, u51, u52, u53, u54, undef], []⟩) (fun i => match i with | 0 => u35 | 1 => u36 | 2 => u37 | 3 => u38 | 4 => u39 | 5 => u40 | 6 => u41 | 7 => u34 | 8 => u42 | 9 => u43 | 10 => u8 | _ => undef) rfl (makersOk2_of (by kernel_rfl) (by kernel_rfl)) (by kernel_rfl) (by kernel_rfl) (by kernel_rfl) rfl ?_ ?_ ?_
          · intro jo hj so x iw W hd hp K hK
            simp only [List.mem_cons, List.not_mem_nil, or_false] at hj
            rcases hj with rfl | rfl | rfl | rfl | rfl | rfl | rfl | rfl | rfl | rfl | rfl
            · refine wpOp_step (o := _) rfl fun K' hK' => ?_
              have HK : Hid (∀ v W', Below W.heap.size W W' → ((Mk.const [] (.agg #[.slice a1 xs.length c1, .slice a2 ys.length c2, .slice (some ⟨g2, o2, none⟩) is.length c3, .slice a4 bs.length c4]) : Mk)).P W.heap.size W'.heap.size W' v (upd x 0 v) → K' ⟨#[Value.agg #[Value.slice a1 xs.length c1, Value.slice a2 ys.length c2, Value.slice (some { block := g2, off := o2 }) is.length c3, Value.slice a4 bs.length c4], Value.pointer (some { block := w.heap.size, off := 0 }), Value.int IntKind.i64 0, Value.int IntKind.i64 ↑(u0 + v0), Value.slice (some { block := gr, off := orr }) RL.length rc, Value.int IntKind.i64 ↑q, Value.pointer (some { block := xb, off := 0 }), Value.int IntKind.i64 ↑t, x 10, u9, Value.agg #[Value.slice a1 xs.length c1, Value.slice a2 ys.length c2, Value.slice (some { block := g2, off := o2 }) is.length c3, Value.slice a4 bs.length c4], Value.slice (some { block := gr, off := orr }) RL.length rc, u12, u13, u14, u15, u16, u17, u18, u19, u20, u21, u22, u23, u24, u25, u26, Value.int IntKind.i64 ↑t, Value.pointer (some { block := xb, off := 2 }), Value.slice (some { block := gp, off := op }) ps.length sc, Value.int IntKind.i64 ↑ps.length, Value.bool true, u32, u33, x 7, v, x 1, x 2, x 3, x 4, x 5, x 6, x 8, x 9, u44, u45, u46, u47, u48, u49, u50, u51, u52, u53, u54, undef], []⟩ W') := fun v W' h1 h2 => hK' _ _ (hK v W' h1 h2)
              have bq := HWR.out W (of_drew hp.bel)
              have q5 : W.cell? ⟨w.heap.size, 0, none⟩ = some (.slice a1 xs.length c1) := bq.2.1.cell 0
              have q6 : W.cell? ⟨w.heap.size, 1, none⟩ = some (.slice a2 ys.length c2) := bq.2.1.cell 1
              have q7 : W.cell? ⟨w.heap.size, 2, none⟩ = some (.slice (some ⟨g2, o2, none⟩) is.length c3) := bq.2.1.cell 2
              have q8 : W.cell? ⟨w.heap.size, 3, none⟩ = some (.slice a4 bs.length c4) := bq.2.1.cell 3
              clear bq
              clear hK hK' hp hd
              go_simp
              exact HK.out _ _ (Below.refl _ _) rfl
            · refine wpOp_step (o := _) rfl fun K' hK' => ?_
              have HK : Hid (∀ v W', Below W.heap.size W W' → ((Mk.const [] (.pointer (some ⟨xb, 2, none⟩)) : Mk)).P W.heap.size W'.heap.size W' v (upd x 1 v) → K' ⟨#[Value.agg #[Value.slice a1 xs.length c1, Value.slice a2 ys.length c2, Value.slice (some { block := g2, off := o2 }) is.length c3, Value.slice a4 bs.length c4], Value.pointer (some { block := w.heap.size, off := 0 }), Value.int IntKind.i64 0, Value.int IntKind.i64 ↑(u0 + v0), Value.slice (some { block := gr, off := orr }) RL.length rc, Value.int IntKind.i64 ↑q, Value.pointer (some { block := xb, off := 0 }), Value.int IntKind.i64 ↑t, x 10, u9, Value.agg #[Value.slice a1 xs.length c1, Value.slice a2 ys.length c2, Value.slice (some { block := g2, off := o2 }) is.length c3, Value.slice a4 bs.length c4], Value.slice (some { block := gr, off := orr }) RL.length rc, u12, u13, u14, u15, u16, u17, u18, u19, u20, u21, u22, u23, u24, u25, u26, Value.int IntKind.i64 ↑t, Value.pointer (some { block := xb, off := 2 }), Value.slice (some { block := gp, off := op }) ps.length sc, Value.int IntKind.i64 ↑ps.length, Value.bool true, u32, u33, x 7, x 0, v, x 2, x 3, x 4, x 5, x 6, x 8, x 9, u44, u45, u46, u47, u48, u49, u50, u51, u52, u53, u54, undef], []⟩ W') := fun v W' h1 h2 => hK' _ _ (hK v W' h1 h2)
              clear hK hK' hp hd
              go_simp
              exact HK.out _ _ (Below.refl _ _) rfl
            · refine wpOp_step (o := _) rfl fun K' hK' => ?_
              have HK : Hid (∀ v W', Below W.heap.size W W' → ((Mk.const [1] (.slice (some ⟨gp, op, none⟩) ps.length sc) : Mk)).P W.heap.size W'.heap.size W' v (upd x 2 v) → K' ⟨#[Value.agg #[Value.slice a1 xs.length c1, Value.slice a2 ys.length c2, Value.slice (some { block := g2, off := o2 }) is.length c3, Value.slice a4 bs.length c4], Value.pointer (some { block := w.heap.size, off := 0 }), Value.int IntKind.i64 0, Value.int IntKind.i64 ↑(u0 + v0), Value.slice (some { block := gr, off := orr }) RL.length rc, Value.int IntKind.i64 ↑q, Value.pointer (some { block := xb, off := 0 }), Value.int IntKind.i64 ↑t, x 10, u9, Value.agg #[Value.slice a1 xs.length c1, Value.slice a2 ys.length c2, Value.slice (some { block := g2, off := o2 }) is.length c3, Value.slice a4 bs.length c4], Value.slice (some { block := gr, off := orr }) RL.length rc, u12, u13, u14, u15, u16, u17, u18, u19, u20, u21, u22, u23, u24, u25, u26, Value.int IntKind.i64 ↑t, Value.pointer (some { block := xb, off := 2 }), Value.slice (some { block := gp, off := op }) ps.length sc, Value.int IntKind.i64 ↑ps.length, Value.bool true, u32, u33, x 7, x 0, x 1, v, x 3, x 4, x 5, x 6, x 8, x 9, u44, u45, u46, u47, u48, u49, u50, u51, u52, u53, u54, undef], []⟩ W') := fun v W' h1 h2 => hK' _ _ (hK v W' h1 h2)
              have e1 : x 1 = .pointer (some ⟨xb, 2, none⟩) := hp.post 1 (hd 1 (show 1 ∈ [1] from by decide))
              have bq := HWR.out W (of_drew hp.bel)
              have q5 : W.cell? ⟨xb, 2, none⟩ = some (.slice (some ⟨gp, op, none⟩) ps.length sc) := bq.2.2.1.cell 2
              clear bq
              clear hK hK' hp hd
              simp only [e1] at HK ⊢
              go_simp
              exact HK.out _ _ (Below.refl _ _) rfl
            · refine wpOp_step (o := _) rfl fun K' hK' => ?_
              have HK : Hid (∀ v W', Below W.heap.size W W' → ((Mk.const [] (.int .i64 (t : Int)) : Mk)).P W.heap.size W'.heap.size W' v (upd x 3 v) → K' ⟨#[Value.agg #[Value.slice a1 xs.length c1, Value.slice a2 ys.length c2, Value.slice (some { block := g2, off := o2 }) is.length c3, Value.slice a4 bs.length c4], Value.pointer (some { block := w.heap.size, off := 0 }), Value.int IntKind.i64 0, Value.int IntKind.i64 ↑(u0 + v0), Value.slice (some { block := gr, off := orr }) RL.length rc, Value.int IntKind.i64 ↑q, Value.pointer (some { block := xb, off := 0 }), Value.int IntKind.i64 ↑t, x 10, u9, Value.agg #[Value.slice a1 xs.length c1, Value.slice a2 ys.length c2, Value.slice (some { block := g2, off := o2 }) is.length c3, Value.slice a4 bs.length c4], Value.slice (some { block := gr, off := orr }) RL.length rc, u12, u13, u14, u15, u16, u17, u18, u19, u20, u21, u22, u23, u24, u25, u26, Value.int IntKind.i64 ↑t, Value.pointer (some { block := xb, off := 2 }), Value.slice (some { block := gp, off := op }) ps.length sc, Value.int IntKind.i64 ↑ps.length, Value.bool true, u32, u33, x 7, x 0, x 1, x 2, v, x 4, x 5, x 6, x 8, x 9, u44, u45, u46, u47, u48, u49, u50, u51, u52, u53, u54, undef], []⟩ W') := fun v W' h1 h2 => hK' _ _ (hK v W' h1 h2)
              clear hK hK' hp hd
              go_simp
              exact HK.out _ _ (Below.refl _ _) rfl
            · refine wpOp_step (o := _) rfl fun K' hK' => ?_
              have HK : Hid (∀ v W', Below W.heap.size W W' → ((Mk.const [2, 3] (.pointer (some ⟨gp, op + t, none⟩)) : Mk)).P W.heap.size W'.heap.size W' v (upd x 4 v) → K' ⟨#[Value.agg #[Value.slice a1 xs.length c1, Value.slice a2 ys.length c2, Value.slice (some { block := g2, off := o2 }) is.length c3, Value.slice a4 bs.length c4], Value.pointer (some { block := w.heap.size, off := 0 }), Value.int IntKind.i64 0, Value.int IntKind.i64 ↑(u0 + v0), Value.slice (some { block := gr, off := orr }) RL.length rc, Value.int IntKind.i64 ↑q, Value.pointer (some { block := xb, off := 0 }), Value.int IntKind.i64 ↑t, x 10, u9, Value.agg #[Value.slice a1 xs.length c1, Value.slice a2 ys.length c2, Value.slice (some { block := g2, off := o2 }) is.length c3, Value.slice a4 bs.length c4], Value.slice (some { block := gr, off := orr }) RL.length rc, u12, u13, u14, u15, u16, u17, u18, u19, u20, u21, u22, u23, u24, u25, u26, Value.int IntKind.i64 ↑t, Value.pointer (some { block := xb, off := 2 }), Value.slice (some { block := gp, off := op }) ps.length sc, Value.int IntKind.i64 ↑ps.length, Value.bool true, u32, u33, x 7, x 0, x 1, x 2, x 3, v, x 5, x 6, x 8, x 9, u44, u45, u46, u47, u48, u49, u50, u51, u52, u53, u54, undef], []⟩ W') := fun v W' h1 h2 => hK' _ _ (hK v W' h1 h2)
              have e2 : x 2 = .slice (some ⟨gp, op, none⟩) ps.length sc := hp.post 2 (hd 2 (show 2 ∈ [2, 3] from by decide))
              have e3 : x 3 = .int .i64 (t : Int) := hp.post 3 (hd 3 (show 3 ∈ [2, 3] from by decide))
              clear hK hK' hp hd
              simp only [e2, e3] at HK ⊢
              go_simp
              exact HK.out _ _ (Below.refl _ _) rfl
            · refine wpOp_step (o := _) rfl fun K' hK' => ?_
              have HK : Hid (∀ v W', Below W.heap.size W W' → ((Mk.const [4] (.int .i64 Pn) : Mk)).P W.heap.size W'.heap.size W' v (upd x 5 v) → K' ⟨#[Value.agg #[Value.slice a1 xs.length c1, Value.slice a2 ys.length c2, Value.slice (some { block := g2, off := o2 }) is.length c3, Value.slice a4 bs.length c4], Value.pointer (some { block := w.heap.size, off := 0 }), Value.int IntKind.i64 0, Value.int IntKind.i64 ↑(u0 + v0), Value.slice (some { block := gr, off := orr }) RL.length rc, Value.int IntKind.i64 ↑q, Value.pointer (some { block := xb, off := 0 }), Value.int IntKind.i64 ↑t, x 10, u9, Value.agg #[Value.slice a1 xs.length c1, Value.slice a2 ys.length c2, Value.slice (some { block := g2, off := o2 }) is.length c3, Value.slice a4 bs.length c4], Value.slice (some { block := gr, off := orr }) RL.length rc, u12, u13, u14, u15, u16, u17, u18, u19, u20, u21, u22, u23, u24, u25, u26, Value.int IntKind.i64 ↑t, Value.pointer (some { block := xb, off := 2 }), Value.slice (some { block := gp, off := op }) ps.length sc, Value.int IntKind.i64 ↑ps.length, Value.bool true, u32, u33, x 7, x 0, x 1, x 2, x 3, x 4, v, x 6, x 8, x 9, u44, u45, u46, u47, u48, u49, u50, u51, u52, u53, u54, undef], []⟩ W') := fun v W' h1 h2 => hK' _ _ (hK v W' h1 h2)
              have e4 : x 4 = .pointer (some ⟨gp, op + t, none⟩) := hp.post 4 (hd 4 (show 4 ∈ [4] from by decide))
              have bq := HWR.out W (of_drew hp.bel)
              have q9 := bq.1
              clear bq
              clear hK hK' hp hd
              simp only [e4] at HK ⊢
              go_simp
              exact HK.out _ _ (Below.refl _ _) rfl
            · refine wpOp_step (o := _) rfl fun K' hK' => ?_
              have HK : Hid (∀ v W', Below W.heap.size W W' → (MkT2 [0, 5] (BlkR w bd btx bss F) BlkR.below).P W.heap.size W'.heap.size W' v (upd x 6 v) → K' ⟨#[Value.agg #[Value.slice a1 xs.length c1, Value.slice a2 ys.length c2, Value.slice (some { block := g2, off := o2 }) is.length c3, Value.slice a4 bs.length c4], Value.pointer (some { block := w.heap.size, off := 0 }), Value.int IntKind.i64 0, Value.int IntKind.i64 ↑(u0 + v0), Value.slice (some { block := gr, off := orr }) RL.length rc, Value.int IntKind.i64 ↑q, Value.pointer (some { block := xb, off := 0 }), Value.int IntKind.i64 ↑t, x 10, u9, Value.agg #[Value.slice a1 xs.length c1, Value.slice a2 ys.length c2, Value.slice (some { block := g2, off := o2 }) is.length c3, Value.slice a4 bs.length c4], Value.slice (some { block := gr, off := orr }) RL.length rc, u12, u13, u14, u15, u16, u17, u18, u19, u20, u21, u22, u23, u24, u25, u26, Value.int IntKind.i64 ↑t, Value.pointer (some { block := xb, off := 2 }), Value.slice (some { block := gp, off := op }) ps.length sc, Value.int IntKind.i64 ↑ps.length, Value.bool true, u32, u33, x 7, x 0, x 1, x 2, x 3, x 4, x 5, v, x 8, x 9, u44, u45, u46, u47, u48, u49, u50, u51, u52, u53, u54, undef], []⟩ W') := fun v W' h1 h2 => hK' _ _ (hK v W' h1 h2)
              have e0 : x 0 = .agg #[.slice a1 xs.length c1, .slice a2 ys.length c2, .slice (some ⟨g2, o2, none⟩) is.length c3, .slice a4 bs.length c4] := hp.post 0 (hd 0 (show 0 ∈ [0, 5] from by decide))
              have e5 : x 5 = .int .i64 Pn := hp.post 5 (hd 5 (show 5 ∈ [0, 5] from by decide))
              have dr := (HWR.out W (of_drew hp.bel)).2.2.2
              clear hK hK' hp hd
              simp only [e0, e5] at HK ⊢
              clear e0 e5
              go_simp
              refine (CB.out W dr).mono ?_
              rintro e w6 ⟨sv, rfl, R6, B6⟩
              obtain ⟨ba, bc, rfl, hR6⟩ := R6
              go_simp
              exact HK.out _ _ B6 ⟨_, _, rfl, ba, bc, rfl, rfl, ba, bc, rfl, hR6⟩
            · refine wpOp_step (o := _) rfl fun K' hK' => ?_
              have HK : Hid (∀ v W', Below W.heap.size W W' → (MkMv 6).P W.heap.size W'.heap.size W' v (upd x 7 v) → K' ⟨#[Value.agg #[Value.slice a1 xs.length c1, Value.slice a2 ys.length c2, Value.slice (some { block := g2, off := o2 }) is.length c3, Value.slice a4 bs.length c4], Value.pointer (some { block := w.heap.size, off := 0 }), Value.int IntKind.i64 0, Value.int IntKind.i64 ↑(u0 + v0), Value.slice (some { block := gr, off := orr }) RL.length rc, Value.int IntKind.i64 ↑q, Value.pointer (some { block := xb, off := 0 }), Value.int IntKind.i64 ↑t, x 10, u9, Value.agg #[Value.slice a1 xs.length c1, Value.slice a2 ys.length c2, Value.slice (some { block := g2, off := o2 }) is.length c3, Value.slice a4 bs.length c4], Value.slice (some { block := gr, off := orr }) RL.length rc, u12, u13, u14, u15, u16, u17, u18, u19, u20, u21, u22, u23, u24, u25, u26, Value.int IntKind.i64 ↑t, Value.pointer (some { block := xb, off := 2 }), Value.slice (some { block := gp, off := op }) ps.length sc, Value.int IntKind.i64 ↑ps.length, Value.bool true, u32, u33, v, x 0, x 1, x 2, x 3, x 4, x 5, x 6, x 8, x 9, u44, u45, u46, u47, u48, u49, u50, u51, u52, u53, u54, undef], []⟩ W') := fun v W' h1 h2 => hK' _ _ (hK v W' h1 h2)
              have e6 : ∃ a r, x 6 = .tuple #[a, r] ∧ BlkR w bd btx bss F (iw 6).1 (iw 6).2 W a r := hp.post 6 (hd 6 (show 6 ∈ [6] from by decide))
              clear hK hK' hp hd
              obtain ⟨a, r, e6, -⟩ := e6
              have ea := hide e6
              simp only [e6] at HK ⊢
              clear e6
              go_simp
              exact HK.out _ _ (Below.refl _ _) ⟨ea.out, a, r, rfl⟩
            · refine wpOp_step (o := _) rfl fun K' hK' => ?_
              have HK : Hid (∀ v W', Below W.heap.size W W' → (MkFs 7).P W.heap.size W'.heap.size W' v (upd x 8 v) → K' ⟨#[Value.agg #[Value.slice a1 xs.length c1, Value.slice a2 ys.length c2, Value.slice (some { block := g2, off := o2 }) is.length c3, Value.slice a4 bs.length c4], Value.pointer (some { block := w.heap.size, off := 0 }), Value.int IntKind.i64 0, Value.int IntKind.i64 ↑(u0 + v0), Value.slice (some { block := gr, off := orr }) RL.length rc, Value.int IntKind.i64 ↑q, Value.pointer (some { block := xb, off := 0 }), Value.int IntKind.i64 ↑t, x 10, u9, Value.agg #[Value.slice a1 xs.length c1, Value.slice a2 ys.length c2, Value.slice (some { block := g2, off := o2 }) is.length c3, Value.slice a4 bs.length c4], Value.slice (some { block := gr, off := orr }) RL.length rc, u12, u13, u14, u15, u16, u17, u18, u19, u20, u21, u22, u23, u24, u25, u26, Value.int IntKind.i64 ↑t, Value.pointer (some { block := xb, off := 2 }), Value.slice (some { block := gp, off := op }) ps.length sc, Value.int IntKind.i64 ↑ps.length, Value.bool true, u32, u33, x 7, x 0, x 1, x 2, x 3, x 4, x 5, x 6, v, x 9, u44, u45, u46, u47, u48, u49, u50, u51, u52, u53, u54, undef], []⟩ W') := fun v W' h1 h2 => hK' _ _ (hK v W' h1 h2)
              have e7 : x 6 = x 7 ∧ ∃ a r, x 7 = .tuple #[a, r] := hp.post 7 (hd 7 (show 7 ∈ [7] from by decide))
              clear hK hK' hp hd
              obtain ⟨-, a, r, e7⟩ := e7
              have ea : Hid (a = fstOf (x 7)) := by rw [e7]; rfl
              simp only [e7] at HK ⊢
              clear e7
              go_simp
              exact HK.out _ _ (Below.refl _ _) ea.out
            · refine wpOp_step (o := _) rfl fun K' hK' => ?_
              have HK : Hid (∀ v W', Below W.heap.size W W' → (MkSd 7).P W.heap.size W'.heap.size W' v (upd x 9 v) → K' ⟨#[Value.agg #[Value.slice a1 xs.length c1, Value.slice a2 ys.length c2, Value.slice (some { block := g2, off := o2 }) is.length c3, Value.slice a4 bs.length c4], Value.pointer (some { block := w.heap.size, off := 0 }), Value.int IntKind.i64 0, Value.int IntKind.i64 ↑(u0 + v0), Value.slice (some { block := gr, off := orr }) RL.length rc, Value.int IntKind.i64 ↑q, Value.pointer (some { block := xb, off := 0 }), Value.int IntKind.i64 ↑t, x 10, u9, Value.agg #[Value.slice a1 xs.length c1, Value.slice a2 ys.length c2, Value.slice (some { block := g2, off := o2 }) is.length c3, Value.slice a4 bs.length c4], Value.slice (some { block := gr, off := orr }) RL.length rc, u12, u13, u14, u15, u16, u17, u18, u19, u20, u21, u22, u23, u24, u25, u26, Value.int IntKind.i64 ↑t, Value.pointer (some { block := xb, off := 2 }), Value.slice (some { block := gp, off := op }) ps.length sc, Value.int IntKind.i64 ↑ps.length, Value.bool true, u32, u33, x 7, x 0, x 1, x 2, x 3, x 4, x 5, x 6, x 8, v, u44, u45, u46, u47, u48, u49, u50, u51, u52, u53, u54, undef], []⟩ W') := fun v W' h1 h2 => hK' _ _ (hK v W' h1 h2)
              have e7 : x 6 = x 7 ∧ ∃ a r, x 7 = .tuple #[a, r] := hp.post 7 (hd 7 (show 7 ∈ [7] from by decide))
              clear hK hK' hp hd
              obtain ⟨-, a, r, e7⟩ := e7
              have ea : Hid (r = sndOf (x 7)) := by rw [e7]; rfl
              simp only [e7] at HK ⊢
              clear e7
              go_simp
              exact HK.out _ _ (Below.refl _ _) ea.out
            · refine wpOp_step (o := _) rfl fun K' hK' => ?_
              have HK : Hid (∀ v W', Below W.heap.size W W' → (MkW 73 #[.bool false, .slice none 0 0, .string ⟨#[]⟩]).P W.heap.size W'.heap.size W' v (upd x 10 v) → K' ⟨#[Value.agg #[Value.slice a1 xs.length c1, Value.slice a2 ys.length c2, Value.slice (some { block := g2, off := o2 }) is.length c3, Value.slice a4 bs.length c4], Value.pointer (some { block := w.heap.size, off := 0 }), Value.int IntKind.i64 0, Value.int IntKind.i64 ↑(u0 + v0), Value.slice (some { block := gr, off := orr }) RL.length rc, Value.int IntKind.i64 ↑q, Value.pointer (some { block := xb, off := 0 }), Value.int IntKind.i64 ↑t, v, u9, Value.agg #[Value.slice a1 xs.length c1, Value.slice a2 ys.length c2, Value.slice (some { block := g2, off := o2 }) is.length c3, Value.slice a4 bs.length c4], Value.slice (some { block := gr, off := orr }) RL.length rc, u12, u13, u14, u15, u16, u17, u18, u19, u20, u21, u22, u23, u24, u25, u26, Value.int IntKind.i64 ↑t, Value.pointer (some { block := xb, off := 2 }), Value.slice (some { block := gp, off := op }) ps.length sc, Value.int IntKind.i64 ↑ps.length, Value.bool true, u32, u33, x 7, x 0, x 1, x 2, x 3, x 4, x 5, x 6, x 8, x 9, u44, u45, u46, u47, u48, u49, u50, u51, u52, u53, u54, undef], []⟩ W') := fun v W' h1 h2 => hK' _ _ (hK v W' h1 h2)
              clear hK hK' hp hd
              go_simp
              exact HK.out _ _ ((Below.refl _ W).alloc (Nat.le_refl _) _) ⟨rfl, by simp, AtC.new W 73 _⟩
          · intro x iw W hp
            obtain ⟨a, r, e6, R6⟩ := hp.post 6 (by decide)
            obtain ⟨e7, -⟩ := hp.post 7 (by decide)
            have e8 : x 8 = fstOf (x 7) := hp.post 8 (by decide)
            have e9 : x 9 = sndOf (x 7) := hp.post 9 (by decide)
            obtain ⟨e10, z10, A10⟩ := hp.post 10 (by decide)
            have l10 := hp.lo 10 (by decide)
            have lc := hp.lo 6 (by decide)
            have bel := of_drew hp.bel
            have ap := hp.apart 6 (by decide) 10 (by decide) (by decide)
            rw [← e7, e6] at e8
            rw [← e7, e6] at e9
            replace e9 : x 9 = r := e9
            rw [e6] at e7
            replace e7 := e7.symm
            replace e8 : x 8 = a := e8
            have y0 : W.cell? ⟨(iw 10).1, 0, none⟩ = some (.bool false) := A10.cell 0
            have f0 := A10.frozen 0
            have y1 : W.cell? ⟨(iw 10).1, 1, none⟩ = some (.slice none 0 0) := A10.cell 1
            have f1 := A10.frozen 1
            have y2 : W.cell? ⟨(iw 10).1, 2, none⟩ = some (.string ⟨#[]⟩) := A10.cell 2
            have f2 := A10.frozen 2
            obtain ⟨ba, bc, rfl, rfl, hR⟩ := R6
            have hb10 : wt.heap.size ≤ (iw 10).1 := l10.1
            have HFI : Hid (AtC W (iw 10).1 73 #[.bool false, .slice none 0 0, .string ⟨#[]⟩] ∧ RSl w (.slice ba bss.length bc) bss ∧ Below wt.heap.size wt W ∧ wt.heap.size ≤ (iw 10).1) := ⟨A10, hR, bel, hb10⟩
            clear hp A10 hR bel ap lc l10 z10 hb10
            simp only [e7, e8, e10, e9] at *
            generalize (iw 10).1 = bw at *
            go_wp2_with fail
            try rw [List.filterMap_nil]
            try go_wp2_with fail
            go_meet
            exact ⟨bw, ba, bc, rfl, rfl, ((HFI.out.1.set 0 _).set 1 _).set 2 _, HFI.out.2.1, ((HFI.out.2.2.1.setCell (p := ⟨bw, 0, none⟩) HFI.out.2.2.2 _).setCell (p := ⟨bw, 1, none⟩) HFI.out.2.2.2 _).setCell (p := ⟨bw, 2, none⟩) HFI.out.2.2.2 _, HFI.out.2.2.2⟩
          · intro qa hqa l hl x iw W hp
            simp only [List.mem_cons, List.not_mem_nil, or_false] at hqa
            subst hqa
            simp only [List.mem_cons, List.not_mem_nil, or_false] at hl
            obtain ⟨a, r, e6, R6⟩ := hp.post 6 (by decide)
            obtain ⟨e7, -⟩ := hp.post 7 (by decide)
            have e8 : x 8 = fstOf (x 7) := hp.post 8 (by decide)
            obtain ⟨e10, z10, A10⟩ := hp.post 10 (by decide)
            have l10 := hp.lo 10 (by decide)
            have lc := hp.lo 6 (by decide)
            have bel := of_drew hp.bel
            have ap := hp.apart 6 (by decide) 10 (by decide) (by decide)
            rw [← e7, e6] at e8
            rw [e6] at e7
            replace e7 := e7.symm
            replace e8 : x 8 = a := e8
            have y0 : W.cell? ⟨(iw 10).1, 0, none⟩ = some (.bool false) := A10.cell 0
            have f0 := A10.frozen 0
            have y1 : W.cell? ⟨(iw 10).1, 1, none⟩ = some (.slice none 0 0) := A10.cell 1
            have f1 := A10.frozen 1
            have y2 : W.cell? ⟨(iw 10).1, 2, none⟩ = some (.string ⟨#[]⟩) := A10.cell 2
            have f2 := A10.frozen 2
            obtain ⟨ba, bc, rfl, rfl, hR⟩ := R6
            have hb10 : wt.heap.size ≤ (iw 10).1 := l10.1
            have HFI : Hid (AtC W (iw 10).1 73 #[.bool false, .slice none 0 0, .string ⟨#[]⟩] ∧ RSl w (.slice ba bss.length bc) bss ∧ Below wt.heap.size wt W ∧ wt.heap.size ≤ (iw 10).1) := ⟨A10, hR, bel, hb10⟩
            clear hp A10 hR bel ap lc l10 z10 hb10
            simp only [e7, e8, e10] at *
            generalize (iw 10).1 = bw at *
            rcases hl with rfl | rfl
            · go_wp2_with fail
              try rw [List.filterMap_nil]
              try go_wp2_with fail
              go_meet
              exact ⟨bw, ba, bc, rfl, rfl, ((HFI.out.1.set 0 _).set 1 _).set 2 _, HFI.out.2.1, ((HFI.out.2.2.1.setCell (p := ⟨bw, 0, none⟩) HFI.out.2.2.2 _).setCell (p := ⟨bw, 1, none⟩) HFI.out.2.2.2 _).setCell (p := ⟨bw, 2, none⟩) HFI.out.2.2.2 _, HFI.out.2.2.2⟩
            · go_wp2_with fail
              try rw [List.filterMap_nil]
              try go_wp2_with fail
              go_meet
              exact ⟨bw, ba, bc, rfl, rfl, ((HFI.out.1.set 0 _).set 1 _).set 2 _, HFI.out.2.1, ((HFI.out.2.2.1.setCell (p := ⟨bw, 0, none⟩) HFI.out.2.2.2 _).setCell (p := ⟨bw, 1, none⟩) HFI.out.2.2.2 _).setCell (p := ⟨bw, 2, none⟩) HFI.out.2.2.2 _, HFI.out.2.2.2⟩
        case rest =>
          obtain ⟨bw, ba, bc, rfl, rfl, Aw, -, Bw, -⟩ := hcut
          have b0 : wc.cell? ⟨bw, 0, none⟩ = some (.bool bd) := Aw.cell 0
          have x0 : wc.cell? ⟨xb, 0, none⟩ = some (.int .i64 kd) := (HV.out _ Bw).2.1.cell 0
          have HBZ := hide (HV.out _ Bw).2.2.2.2
          clear Aw Bw CB HWR HV
          cases F with
          | false =>
            have HE : Hid ((ptrT ((j : Int) + 1) (ps.take (t + 1))).countP (fun s : Pr => (blkAt bs s.2).1 != (kindAt is s.1 == 2)) = v0) := hide (by have := HTT2.out; simpa using this)
            go_wp2
            go_roundw
            case rel => exact ⟨t + 1, by omega, by rw [HE.out], by go_num, HBZ.out⟩
            case measure => simp [intOf]; omega
          | true =>
            by_cases hk2 : kd = 2
            · have hkb : (kd == 2) = true := by simp [hk2]
              clear hk2
              cases bd with
              | true =>
                have HE : Hid ((ptrT ((j : Int) + 1) (ps.take (t + 1))).countP (fun s : Pr => (blkAt bs s.2).1 != (kindAt is s.1 == 2)) = v0) := hide (by have := HTT2.out; simpa [hkb] using this)
                go_wp2
                go_roundw
                case rel => exact ⟨t + 1, by omega, by rw [HE.out], by go_num, HBZ.out⟩
                case measure => simp [intOf]; omega
              | false =>
                have HE : Hid ((ptrT ((j : Int) + 1) (ps.take (t + 1))).countP (fun s : Pr => (blkAt bs s.2).1 != (kindAt is s.1 == 2)) = v0 + 1) := hide (by have := HTT2.out; simpa [hkb] using this)
                go_wp2
                go_roundw
                case rel => exact ⟨t + 1, by omega, by rw [HE.out]; go_num, by go_num, HBZ.out⟩
                case measure => simp [intOf]; omega
            · have hkb : (kd == 2) = false := by simp [hk2]
              clear hk2
              cases bd with
              | true =>
                have HE : Hid ((ptrT ((j : Int) + 1) (ps.take (t + 1))).countP (fun s : Pr => (blkAt bs s.2).1 != (kindAt is s.1 == 2)) = v0 + 1) := hide (by have := HTT2.out; simpa [hkb] using this)
                go_wp2
                go_roundw
                case rel => exact ⟨t + 1, by omega, by rw [HE.out]; go_num, by go_num, HBZ.out⟩
                case measure => simp [intOf]; omega
              | false =>
                have HE : Hid ((ptrT ((j : Int) + 1) (ps.take (t + 1))).countP (fun s : Pr => (blkAt bs s.2).1 != (kindAt is s.1 == 2)) = v0) := hide (by have := HTT2.out; simpa [hkb] using this)
                go_wp2
                go_roundw
                case rel => exact ⟨t + 1, by omega, by rw [HE.out], by go_num, HBZ.out⟩
                case measure => simp [intOf]; omega
end Go.Proofs.YtljooldjcefkoaaGreat
