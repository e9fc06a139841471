/- Texts of the proof, bundled: Eh, Ed, Sh. -/
import Derived.Test.YtljooldjcefkoaaGreatU15
import Derived.Test.YtljooldjcefkoaaGreatU12
/- Of the specification: l15Had by its contract. -/
namespace Go.Proofs.YtljooldjcefkoaaGreat
open Go.RowKit Kit
/-- The blocks that reached inodes have. -/
noncomputable def hadL (is : List Ino) (bs : List Blk) : List Int := (ptrL is (reachL is bs)).map (·.2)
/-- A list under way: of old only its first block changes. -/
structure Ho (w w1 wr : World) (sv : Value) (cur : List Int) : Prop where
  o : ROwns wr (w.heap.size + 1) 3 sv (ic cur)
  c : Chg (fun k => k = w.heap.size + 1) w1 wr
  n : ∀ k, sv.ownBlock = some k → k = w.heap.size + 1 ∨ w1.heap.size ≤ k
theorem Ho.below {w w1 wr wr' : World} {sv : Value} {cur : List Int} (h : Ho w w1 wr sv cur) (hb : Below wr.heap.size wr wr') : Ho w w1 wr' sv cur := ⟨h.o.below hb (Nat.le_refl _), h.c.trans (Chg.of_below hb), h.n⟩
theorem Ho.app {w w1 W w9 : World} {sv v9 : Value} {cur new : List Int} (h : Ho w w1 W sv cur) (h9 : ROwns w9 (w.heap.size + 1) 3 v9 (ic new)) (G9 : W.grownBy w9 sv.ownBlock) (V9 : ∀ k, v9.ownBlock = some k → sv.ownBlock = some k ∨ W.heap.size ≤ k) : Ho w w1 w9 v9 new :=
  ⟨h9, ⟨G9.os.trans h.c.os, G9.tape.trans h.c.tape, G9.output.trans h.c.output, Nat.le_trans h.c.size G9.size, fun k hk hn => (G9.block k (Nat.lt_of_lt_of_le hk h.c.size) (fun e => by rcases h.n k e.symm with e | e; exact hn e; omega)).trans (h.c.block k hk hn)⟩, fun k hk => (V9 k hk).elim (h.n k) (fun e => .inr (Nat.le_trans h.c.size e))⟩
theorem curP_len {is : List Ino} {bs : List Blk} (h : RD is bs) (l : List Int) : ((ptrL is l).map (·.2)).length ≤ l.length * 2 := by rw [List.length_map]; exact ptrL_len h l
set_option maxRecDepth 100000 in
set_option maxHeartbeats 6400000 in
theorem had_any (dx dy iv bv : Value) (xs ys : List Bool) (is : List Ino) (bs : List Blk) (w : World) (h : DR w dx dy iv bv xs ys is bs) (hX : RX xs ys is bs) :
    Calls Tryz.prog 37 #[.agg #[dx, dy, iv, bv]] w fun e w' => ∃ v, e = .returned v ∧ ROwns w' w.heap.size 3 v (ic (hadL is bs)) ∧ Below w.heap.size w w' := by
  obtain ⟨a1, c1, a2, c2, a3, c3, a4, c4, rfl, rfl, rfl, rfl⟩ := h.form
  have HL : Hid (is.length = 8) := hX.r.hi
  have HH := hide h
  have HL0 : Hid (ROwns ((w.alloc (.cells #[.slice a1 xs.length c1, .slice a2 ys.length c2, .slice a3 is.length c3, .slice a4 bs.length c4] 35)).alloc (.cells #[] 3)) (w.heap.size + 1) 3 (.slice (some ⟨w.heap.size + 1, 0, none⟩) 0 0) (ic []) ∧ Below w.heap.size w ((w.alloc (.cells #[.slice a1 xs.length c1, .slice a2 ys.length c2, .slice a3 is.length c3, .slice a4 bs.length c4] 35)).alloc (.cells #[] 3)) ∧ AtC ((w.alloc (.cells #[.slice a1 xs.length c1, .slice a2 ys.length c2, .slice a3 is.length c3, .slice a4 bs.length c4] 35)).alloc (.cells #[] 3)) w.heap.size 35 #[.slice a1 xs.length c1, .slice a2 ys.length c2, .slice a3 is.length c3, .slice a4 bs.length c4] ∧ ((w.alloc (.cells #[.slice a1 xs.length c1, .slice a2 ys.length c2, .slice a3 is.length c3, .slice a4 bs.length c4] 35)).alloc (.cells #[] 3)).heap.size = w.heap.size + 2) := by
    have l0 := ROwns.lit0 (w.alloc (.cells #[.slice a1 xs.length c1, .slice a2 ys.length c2, .slice a3 is.length c3, .slice a4 bs.length c4] 35)) (w.heap.size + 1) 3 (by simp)
    have e0 : (w.alloc (.cells #[.slice a1 xs.length c1, .slice a2 ys.length c2, .slice a3 is.length c3, .slice a4 bs.length c4] 35)).heap.size = w.heap.size + 1 := by simp
    rw [e0] at l0
    exact ⟨l0, ((Below.refl _ w).alloc (Nat.le_refl _) _).alloc (by simp) _, (AtC.new w 35 _).alloc _, by simp⟩
  have CR := hide (specReach_any (.slice a1 xs.length c1) (.slice a2 ys.length c2) (.slice a3 is.length c3) (.slice a4 bs.length c4) xs ys is bs ((w.alloc (.cells #[.slice a1 xs.length c1, .slice a2 ys.length c2, .slice a3 is.length c3, .slice a4 bs.length c4] 35)).alloc (.cells #[] 3)) (h.below HL0.out.2.1 (Nat.le_refl _)) hX.r)
  have z0 : ((w.alloc (.cells #[.slice a1 xs.length c1, .slice a2 ys.length c2, .slice a3 is.length c3, .slice a4 bs.length c4] 35)).alloc (.cells #[] 3)).cell? ⟨w.heap.size, 0, none⟩ = some (.slice a1 xs.length c1) := HL0.out.2.2.1.cell 0
  have z1 : ((w.alloc (.cells #[.slice a1 xs.length c1, .slice a2 ys.length c2, .slice a3 is.length c3, .slice a4 bs.length c4] 35)).alloc (.cells #[] 3)).cell? ⟨w.heap.size, 1, none⟩ = some (.slice a2 ys.length c2) := HL0.out.2.2.1.cell 1
  have z2 : ((w.alloc (.cells #[.slice a1 xs.length c1, .slice a2 ys.length c2, .slice a3 is.length c3, .slice a4 bs.length c4] 35)).alloc (.cells #[] 3)).cell? ⟨w.heap.size, 2, none⟩ = some (.slice a3 is.length c3) := HL0.out.2.2.1.cell 2
  have z3 : ((w.alloc (.cells #[.slice a1 xs.length c1, .slice a2 ys.length c2, .slice a3 is.length c3, .slice a4 bs.length c4] 35)).alloc (.cells #[] 3)).cell? ⟨w.heap.size, 3, none⟩ = some (.slice a4 bs.length c4) := HL0.out.2.2.1.cell 3
  have HRG : Hid (∀ i ∈ reachL is bs, 1 ≤ i ∧ i ≤ 8) := fun i hi => reach8 hi
  have HR8 := hide (reachL_len is bs)
  have HCU : Hid (∀ l, ((ptrL is l).map (·.2)).length ≤ l.length * 2) := curP_len hX.r
  have HP2 : Hid (∀ i, (ptrsAt is i).length ≤ 2) := ptrsAt_len hX.r
  have HPR : Hid (∀ i, ∀ p ∈ ptrsAt is i, 0 ≤ p ∧ p ≤ 16) := fun i p hp => hX.ptr hp
  have HFIN : Hid (hadL is bs = (ptrL is (reachL is bs)).map (·.2)) := rfl
  rw [HFIN.out]
  obtain ⟨RL, hRL⟩ : ∃ l, reachL is bs = l := ⟨_, rfl⟩
  rw [hRL] at CR HRG HR8 ⊢
  clear h hX hRL HFIN
  go_enter Tryz.func37, Tryz.ntmps37
  go_wp2_with fail
  refine CR.out.mono ?_
  rintro e w1 ⟨rv, rfl, R1, B1⟩
  have HB1 : Hid (Below w.heap.size w w1 ∧ AtC w1 w.heap.size 35 #[.slice a1 xs.length c1, .slice a2 ys.length c2, .slice a3 is.length c3, .slice a4 bs.length c4] ∧ w.heap.size + 2 ≤ w1.heap.size) := ⟨HL0.out.2.1.trans (B1.mono HL0.out.2.1.size), HL0.out.2.2.1.over B1, by have := B1.size; have := HL0.out.2.2.2; omega⟩
  have HO0 : Hid (Ho w w1 w1 (.slice (some ⟨w.heap.size + 1, 0, none⟩) 0 0) ((ptrL is (RL.take 0)).map (·.2))) := ⟨by simpa [ptrL] using HL0.out.1.below B1 (Nat.le_refl _), Chg.refl _ _, fun k hk => by simp [Value.ownBlock] at hk; exact .inl hk.symm⟩
  obtain ⟨ra, rc, rfl, -⟩ := R1.form
  rw [ic_length] at R1 ⊢
  have HCR : Hid (∀ wr sv cur, Ho w w1 wr sv cur → RInts wr (.slice ra RL.length rc) RL) := fun wr sv cur hh => (R1.of_heap fun k hk => hh.c.block k (R1.lt k hk).2 (fun e => by have h1 := (R1.lt k hk).1; rw [HL0.out.2.2.2] at h1; omega)).rints
  have HOB : Hid (∀ wr sv cur, Ho w w1 wr sv cur → Below w.heap.size w wr ∧ AtC wr w.heap.size 35 #[.slice a1 xs.length c1, .slice a2 ys.length c2, .slice a3 is.length c3, .slice a4 bs.length c4]) := fun wr sv cur hh => ⟨HB1.out.1.trans (hh.c.below HB1.out.1.size (fun k hk => by rw [hk]; omega)), (hh.c.block _ HB1.out.2.1.lt (fun e => by omega)).trans HB1.out.2.1⟩
  have r8 : RL.length ≤ 8 := HR8.out
  clear R1 B1 CR HL0 z0 z1 z2 z3
  go_wp2_with fail
  go_loopw [3, 5] (fun sv kv wr => ∃ (s' : Value) (q : Nat), s' = sv ∧ q ≤ RL.length ∧ kv = .int .i64 q ∧ Hid (Ho w w1 wr s' ((ptrL is (RL.take q)).map (·.2)))) (fun _ kv _ => RL.length - (intOf kv).toNat)
  case atStart => exact ⟨_, 0, rfl, Nat.zero_le _, rfl, HO0.out⟩
  case round =>
    obtain ⟨sv, q, hsv, hq, rfl, HQ⟩ := hrel
    subst hsv
    clear HO0
    obtain ⟨wo, hwo⟩ : ∃ W, W = wr := ⟨_, rfl⟩
    subst hwo
    have q0 : (0 : Int) ≤ (q : Int) := by omega
    by_cases hlt : q < RL.length
    rotate_left
    · have q1 : ¬ ((q : Int) < (RL.length : Int)) := by omega
      go_wp2
      go_ret
      have := HQ.out.o
      rw [List.take_of_length_le (by omega)] at this
      exact ⟨_, rfl, this.base_le (by omega), (HOB.out _ _ _ HQ.out).1⟩
    have q1 : (q : Int) < (RL.length : Int) := by omega
    obtain ⟨ca, cc, ec, hcr⟩ := HCR.out _ _ _ HQ.out
    simp only [Value.slice.injEq, true_and] at ec
    obtain ⟨rfl, rfl⟩ := ec
    obtain ⟨gr, orr, rfl, hgr, kr⟩ := hcr q hlt
    have hrg := HRG.out _ (List.getElem_mem hlt)
    have HSN := hide (ptrL_take is RL q hlt)
    have hcu := HCU.out (RL.take q)
    rw [List.length_take] at hcu
    obtain ⟨di, hdi⟩ : ∃ x, RL[q] = x := ⟨_, rfl⟩
    rw [hdi] at HSN
    rw [hdi] at kr hrg
    obtain ⟨j, rfl⟩ : ∃ j : Nat, di = (j : Int) + 1 := ⟨(di - 1).toNat, by omega⟩
    have hj8 : j < 8 := by omega
    have hj : j < is.length := by have := HL.out; omega
    have j0 : (0 : Int) ≤ (j : Int) := by omega
    have j1 : (j : Int) < (is.length : Int) := by omega
    have hwj : IntKind.i64.wrap (j : Int) = (j : Int) := wrap_small _ (by omega) (by omega)
    obtain ⟨g2, o2, sa, sc, rfl, hg2, y0, y1, y2, rr⟩ := DR.ino HH.out j hj
    have hp2 := HP2.out ((j : Int) + 1)
    have HPN := hide (HPR.out ((j : Int) + 1))
    unfold ptrI at HSN
    obtain ⟨ps, hps⟩ : ∃ X, ptrsAt is ((j : Int) + 1) = X := ⟨_, rfl⟩
    rw [hps] at y2 rr hp2 HSN HPN
    obtain ⟨pa, pc', pe, hcp⟩ := rr
    simp only [Value.slice.injEq, true_and] at pe
    obtain ⟨rfl, rfl⟩ := pe
    have HCP := hide hcp
    obtain ⟨kd, hkd⟩ : ∃ k, kindAt is ((j : Int) + 1) = k := ⟨_, rfl⟩
    obtain ⟨ln, hln⟩ : ∃ k, is[j].2.1 = k := ⟨_, rfl⟩
    rw [hkd] at y0
    rw [hln] at y1
    have HOW := hide (HOB.out _ _ _ HQ.out)
    have HW : Hid (∀ W, Below wo.heap.size wo W → AtC W w.heap.size 35 #[.slice a1 xs.length c1, .slice a2 ys.length c2, .slice (some ⟨g2, o2, none⟩) is.length c3, .slice a4 bs.length c4] ∧ W.cell? ⟨gr, orr + q, none⟩ = some (.int .i64 ((j : Int) + 1)) ∧ (W.cell? ⟨g2, o2 + j * 3, none⟩ = some (.int .i64 kd) ∧ W.cell? ⟨g2, o2 + j * 3 + 1, none⟩ = some (.int .i64 ln) ∧ W.cell? ⟨g2, o2 + j * 3 + 2, none⟩ = some (.slice sa ps.length sc))) := fun W b => by
      have b0 := HOW.out.1.trans (b.mono HOW.out.1.size)
      exact ⟨HOW.out.2.over b, (b.cell (p := ⟨gr, orr + q, none⟩) hgr).trans kr, ⟨(b0.cell (p := ⟨g2, o2 + j * 3, none⟩) hg2).trans y0, (b0.cell (p := ⟨g2, o2 + j * 3 + 1, none⟩) hg2).trans y1, (b0.cell (p := ⟨g2, o2 + j * 3 + 2, none⟩) hg2).trans y2⟩⟩
    obtain ⟨c0, hc0⟩ : ∃ c, (ptrL is (RL.take q)).map (·.2) = c := ⟨_, rfl⟩
    have HC1 : Hid ((ptrL is (RL.take (q + 1))).map (·.2) = c0 ++ (ptrT ((j : Int) + 1) ps).map (·.2)) := hide (by rw [HSN.out, List.map_append, hc0]; rfl)
    rw [hc0] at HQ hcu
    clear hdi kr y0 y1 y2 hkd hln hps hcp hc0 hcr HSN
    go_upto_region 6 with fail
    go_cut [6] from 11 to 46 (fun pv wx => ∃ xb : Nat, pv = .pointer (some ⟨xb, 0, none⟩) ∧ AtC wx xb 44 #[.int .i64 kd, .int .i64 ln, .slice sa ps.length sc] ∧ Below wo.heap.size wo wx ∧ wo.heap.size ≤ xb)
    case first =>
      refine wp_region_alt (by kernel_rfl) [0, 1, 2, 3, 4, 5, 6, 7, 8, 9] [10] [] (fun i => match i with | 0 => .const [] (.pointer (some ⟨w.heap.size, 2, none⟩)) | 1 => .const [0] (.slice (some ⟨g2, o2, none⟩) is.length c3) | 2 => .const [] (.slice (some ⟨gr, orr, none⟩) RL.length rc) | 3 => .const [] (.int .i64 (q : Int)) | 4 => .const [2, 3] (.pointer (some ⟨gr, orr + q, none⟩)) | 5 => .const [4] (.int .i64 ((j : Int) + 1)) | 6 => .const [5] (.int .i64 (j : Int)) | 7 => .const [1, 6] (.pointer (some ⟨g2, o2 + j * 3, none⟩)) | 8 => .const [7] (.agg #[.int .i64 kd, .int .i64 ln, .slice sa ps.length sc]) | 9 => MkW 44 #[.int .i64 0, .int .i64 0, .slice none 0 0] | _ => .triv) (fun x => ⟨#[Value.agg #[Value.slice a1 xs.length c1, Value.slice a2 ys.length c2, Value.slice (some { block := g2, off := o2 }) is.length c3, Value.slice a4 bs.length c4], Value.pointer (some { block := w.heap.size, off := 0 }), Value.slice none 0 0, sv, Value.slice (some { block := gr, off := orr }) RL.length rc, Value.int IntKind.i64 ↑q, x 9, u7, Value.slice (some { block := w.heap.size + 1, off := 0 }) 0 0, Value.agg #[Value.slice a1 xs.length c1, Value.slice a2 ys.length c2, Value.slice (some { block := g2, off := o2 }) is.length c3, Value.slice a4 bs.length c4], Value.slice (some { block := gr, off := orr }) RL.length rc, Value.int IntKind.i64 ↑q, Value.slice (some { block := gr, off := orr }) RL.length rc, Value.int IntKind.i64 ↑RL.length, Value.bool true, u15, u16, x 0, x 1, x 2, x 3, x 4, x 5, x 6, x 7, x 8, u26, u27, u28, u29, u30, u31, u32, u33, u34, u35, u36, u37, u38, u39, u40, u41, u42, u43, u44, u45, u46, undef], []⟩) (fun i => match i with | 0 => u17 | 1 => u18 | 2 => u19 | 3 => u20 | 4 => u21 | 5 => u22 | 6 => u23 | 7 => u24 | 8 => u25 | 9 => u6 | _ => undef) rfl (makersOk2_of (by kernel_rfl) (by kernel_rfl)) (by kernel_rfl) (by kernel_rfl) (by kernel_rfl) rfl ?_ ?_ (by intro q hq; cases hq)
      · intro jo hj so x iw W hd hp K hK
        simp only [List.mem_cons, List.not_mem_nil, or_false] at hj
        rcases hj with rfl | rfl | rfl | rfl | rfl | rfl | rfl | rfl | rfl | rfl
        · refine wpOp_step (o := _) rfl fun K' hK' => ?_
          have HK : Hid (∀ v W', Below W.heap.size W W' → ((Mk.const [] (.pointer (some ⟨w.heap.size, 2, none⟩)) : Mk)).P W.heap.size W'.heap.size W' v (upd x 0 v) → K' ⟨#[Value.agg #[Value.slice a1 xs.length c1, Value.slice a2 ys.length c2, Value.slice (some { block := g2, off := o2 }) is.length c3, Value.slice a4 bs.length c4], Value.pointer (some { block := w.heap.size, off := 0 }), Value.slice none 0 0, sv, Value.slice (some { block := gr, off := orr }) RL.length rc, Value.int IntKind.i64 ↑q, x 9, u7, Value.slice (some { block := w.heap.size + 1, off := 0 }) 0 0, Value.agg #[Value.slice a1 xs.length c1, Value.slice a2 ys.length c2, Value.slice (some { block := g2, off := o2 }) is.length c3, Value.slice a4 bs.length c4], Value.slice (some { block := gr, off := orr }) RL.length rc, Value.int IntKind.i64 ↑q, Value.slice (some { block := gr, off := orr }) RL.length rc, Value.int IntKind.i64 ↑RL.length, Value.bool true, u15, u16, v, x 1, x 2, x 3, x 4, x 5, x 6, x 7, x 8, u26, u27, u28, u29, u30, u31, u32, u33, u34, u35, u36, u37, u38, u39, u40, u41, u42, u43, u44, u45, u46, undef], []⟩ W') := fun v W' h1 h2 => hK' _ _ (hK v W' h1 h2)
          clear hK hK' hp hd
          go_simp
          exact HK.out _ _ (Below.refl _ _) rfl
        · refine wpOp_step (o := _) rfl fun K' hK' => ?_
          have HK : Hid (∀ v W', Below W.heap.size W W' → ((Mk.const [0] (.slice (some ⟨g2, o2, none⟩) is.length c3) : Mk)).P W.heap.size W'.heap.size W' v (upd x 1 v) → K' ⟨#[Value.agg #[Value.slice a1 xs.length c1, Value.slice a2 ys.length c2, Value.slice (some { block := g2, off := o2 }) is.length c3, Value.slice a4 bs.length c4], Value.pointer (some { block := w.heap.size, off := 0 }), Value.slice none 0 0, sv, Value.slice (some { block := gr, off := orr }) RL.length rc, Value.int IntKind.i64 ↑q, x 9, u7, Value.slice (some { block := w.heap.size + 1, off := 0 }) 0 0, Value.agg #[Value.slice a1 xs.length c1, Value.slice a2 ys.length c2, Value.slice (some { block := g2, off := o2 }) is.length c3, Value.slice a4 bs.length c4], Value.slice (some { block := gr, off := orr }) RL.length rc, Value.int IntKind.i64 ↑q, Value.slice (some { block := gr, off := orr }) RL.length rc, Value.int IntKind.i64 ↑RL.length, Value.bool true, u15, u16, x 0, v, x 2, x 3, x 4, x 5, x 6, x 7, x 8, u26, u27, u28, u29, u30, u31, u32, u33, u34, u35, u36, u37, u38, u39, u40, u41, u42, u43, u44, u45, u46, undef], []⟩ W') := fun v W' h1 h2 => hK' _ _ (hK v W' h1 h2)
          have e0 : x 0 = .pointer (some ⟨w.heap.size, 2, none⟩) := hp.post 0 (hd 0 (show 0 ∈ [0] from by decide))
          have bw := HW.out W (of_drew hp.bel)
          have k0 : W.cell? ⟨w.heap.size, 2, none⟩ = some (.slice (some ⟨g2, o2, none⟩) is.length c3) := bw.1.cell 2
          clear bw
          clear hK hK' hp hd
          simp only [e0] at HK ⊢
          go_simp
          exact HK.out _ _ (Below.refl _ _) rfl
        · refine wpOp_step (o := _) rfl fun K' hK' => ?_
          have HK : Hid (∀ v W', Below W.heap.size W W' → ((Mk.const [] (.slice (some ⟨gr, orr, none⟩) RL.length rc) : Mk)).P W.heap.size W'.heap.size W' v (upd x 2 v) → K' ⟨#[Value.agg #[Value.slice a1 xs.length c1, Value.slice a2 ys.length c2, Value.slice (some { block := g2, off := o2 }) is.length c3, Value.slice a4 bs.length c4], Value.pointer (some { block := w.heap.size, off := 0 }), Value.slice none 0 0, sv, Value.slice (some { block := gr, off := orr }) RL.length rc, Value.int IntKind.i64 ↑q, x 9, u7, Value.slice (some { block := w.heap.size + 1, off := 0 }) 0 0, Value.agg #[Value.slice a1 xs.length c1, Value.slice a2 ys.length c2, Value.slice (some { block := g2, off := o2 }) is.length c3, Value.slice a4 bs.length c4], Value.slice (some { block := gr, off := orr }) RL.length rc, Value.int IntKind.i64 ↑q, Value.slice (some { block := gr, off := orr }) RL.length rc, Value.int IntKind.i64 ↑RL.length, Value.bool true, u15, u16, x 0, x 1, v, x 3, x 4, x 5, x 6, x 7, x 8, u26, u27, u28, u29, u30, u31, u32, u33, u34, u35, u36, u37, u38, u39, u40, u41, u42, u43, u44, u45, u46, undef], []⟩ W') := fun v W' h1 h2 => hK' _ _ (hK v W' h1 h2)
          clear hK hK' hp hd
          go_simp
          exact HK.out _ _ (Below.refl _ _) rfl
        · refine wpOp_step (o := _) rfl fun K' hK' => ?_
          have HK : Hid (∀ v W', Below W.heap.size W W' → ((Mk.const [] (.int .i64 (q : Int)) : Mk)).P W.heap.size W'.heap.size W' v (upd x 3 v) → K' ⟨#[Value.agg #[Value.slice a1 xs.length c1, Value.slice a2 ys.length c2, Value.slice (some { block := g2, off := o2 }) is.length c3, Value.slice a4 bs.length c4], Value.pointer (some { block := w.heap.size, off := 0 }), Value.slice none 0 0, sv, Value.slice (some { block := gr, off := orr }) RL.length rc, Value.int IntKind.i64 ↑q, x 9, u7, Value.slice (some { block := w.heap.size + 1, off := 0 }) 0 0, Value.agg #[Value.slice a1 xs.length c1, Value.slice a2 ys.length c2, Value.slice (some { block := g2, off := o2 }) is.length c3, Value.slice a4 bs.length c4], Value.slice (some { block := gr, off := orr }) RL.length rc, Value.int IntKind.i64 ↑q, Value.slice (some { block := gr, off := orr }) RL.length rc, Value.int IntKind.i64 ↑RL.length, Value.bool true, u15, u16, x 0, x 1, x 2, v, x 4, x 5, x 6, x 7, x 8, u26, u27, u28, u29, u30, u31, u32, u33, u34, u35, u36, u37, u38, u39, u40, u41, u42, u43, u44, u45, u46, undef], []⟩ W') := fun v W' h1 h2 => hK' _ _ (hK v W' h1 h2)
          clear hK hK' hp hd
          go_simp
          exact HK.out _ _ (Below.refl _ _) rfl
        · refine wpOp_step (o := _) rfl fun K' hK' => ?_
          have HK : Hid (∀ v W', Below W.heap.size W W' → ((Mk.const [2, 3] (.pointer (some ⟨gr, orr + q, none⟩)) : Mk)).P W.heap.size W'.heap.size W' v (upd x 4 v) → K' ⟨#[Value.agg #[Value.slice a1 xs.length c1, Value.slice a2 ys.length c2, Value.slice (some { block := g2, off := o2 }) is.length c3, Value.slice a4 bs.length c4], Value.pointer (some { block := w.heap.size, off := 0 }), Value.slice none 0 0, sv, Value.slice (some { block := gr, off := orr }) RL.length rc, Value.int IntKind.i64 ↑q, x 9, u7, Value.slice (some { block := w.heap.size + 1, off := 0 }) 0 0, Value.agg #[Value.slice a1 xs.length c1, Value.slice a2 ys.length c2, Value.slice (some { block := g2, off := o2 }) is.length c3, Value.slice a4 bs.length c4], Value.slice (some { block := gr, off := orr }) RL.length rc, Value.int IntKind.i64 ↑q, Value.slice (some { block := gr, off := orr }) RL.length rc, Value.int IntKind.i64 ↑RL.length, Value.bool true, u15, u16, x 0, x 1, x 2, x 3, v, x 5, x 6, x 7, x 8, u26, u27, u28, u29, u30, u31, u32, u33, u34, u35, u36, u37, u38, u39, u40, u41, u42, u43, u44, u45, u46, undef], []⟩ W') := fun v W' h1 h2 => hK' _ _ (hK v W' h1 h2)
          have e2 : x 2 = .slice (some ⟨gr, orr, none⟩) RL.length rc := hp.post 2 (hd 2 (show 2 ∈ [2, 3] from by decide))
          have e3 : x 3 = .int .i64 (q : Int) := hp.post 3 (hd 3 (show 3 ∈ [2, 3] from by decide))
          clear hK hK' hp hd
          simp only [e2, e3] at HK ⊢
          go_simp
          exact HK.out _ _ (Below.refl _ _) rfl
        · refine wpOp_step (o := _) rfl fun K' hK' => ?_
          have HK : Hid (∀ v W', Below W.heap.size W W' → ((Mk.const [4] (.int .i64 ((j : Int) + 1)) : Mk)).P W.heap.size W'.heap.size W' v (upd x 5 v) → K' ⟨#[Value.agg #[Value.slice a1 xs.length c1, Value.slice a2 ys.length c2, Value.slice (some { block := g2, off := o2 }) is.length c3, Value.slice a4 bs.length c4], Value.pointer (some { block := w.heap.size, off := 0 }), Value.slice none 0 0, sv, Value.slice (some { block := gr, off := orr }) RL.length rc, Value.int IntKind.i64 ↑q, x 9, u7, Value.slice (some { block := w.heap.size + 1, off := 0 }) 0 0, Value.agg #[Value.slice a1 xs.length c1, Value.slice a2 ys.length c2, Value.slice (some { block := g2, off := o2 }) is.length c3, Value.slice a4 bs.length c4], Value.slice (some { block := gr, off := orr }) RL.length rc, Value.int IntKind.i64 ↑q, Value.slice (some { block := gr, off := orr }) RL.length rc, Value.int IntKind.i64 ↑RL.length, Value.bool true, u15, u16, x 0, x 1, x 2, x 3, x 4, v, x 6, x 7, x 8, u26, u27, u28, u29, u30, u31, u32, u33, u34, u35, u36, u37, u38, u39, u40, u41, u42, u43, u44, u45, u46, undef], []⟩ W') := fun v W' h1 h2 => hK' _ _ (hK v W' h1 h2)
          have e4 : x 4 = .pointer (some ⟨gr, orr + q, none⟩) := hp.post 4 (hd 4 (show 4 ∈ [4] from by decide))
          have bw := HW.out W (of_drew hp.bel)
          have k0 := bw.2.1
          clear bw
          clear hK hK' hp hd
          simp only [e4] at HK ⊢
          go_simp
          exact HK.out _ _ (Below.refl _ _) rfl
        · refine wpOp_step (o := _) rfl fun K' hK' => ?_
          have HK : Hid (∀ v W', Below W.heap.size W W' → ((Mk.const [5] (.int .i64 (j : Int)) : Mk)).P W.heap.size W'.heap.size W' v (upd x 6 v) → K' ⟨#[Value.agg #[Value.slice a1 xs.length c1, Value.slice a2 ys.length c2, Value.slice (some { block := g2, off := o2 }) is.length c3, Value.slice a4 bs.length c4], Value.pointer (some { block := w.heap.size, off := 0 }), Value.slice none 0 0, sv, Value.slice (some { block := gr, off := orr }) RL.length rc, Value.int IntKind.i64 ↑q, x 9, u7, Value.slice (some { block := w.heap.size + 1, off := 0 }) 0 0, Value.agg #[Value.slice a1 xs.length c1, Value.slice a2 ys.length c2, Value.slice (some { block := g2, off := o2 }) is.length c3, Value.slice a4 bs.length c4], Value.slice (some { block := gr, off := orr }) RL.length rc, Value.int IntKind.i64 ↑q, Value.slice (some { block := gr, off := orr }) RL.length rc, Value.int IntKind.i64 ↑RL.length, Value.bool true, u15, u16, x 0, x 1, x 2, x 3, x 4, x 5, v, x 7, x 8, u26, u27, u28, u29, u30, u31, u32, u33, u34, u35, u36, u37, u38, u39, u40, u41, u42, u43, u44, u45, u46, undef], []⟩ W') := fun v W' h1 h2 => hK' _ _ (hK v W' h1 h2)
          have e5 : x 5 = .int .i64 ((j : Int) + 1) := hp.post 5 (hd 5 (show 5 ∈ [5] from by decide))
          clear hK hK' hp hd
          simp only [e5] at HK ⊢
          go_simp
          exact HK.out _ _ (Below.refl _ _) rfl
        · refine wpOp_step (o := _) rfl fun K' hK' => ?_
          have HK : Hid (∀ v W', Below W.heap.size W W' → ((Mk.const [1, 6] (.pointer (some ⟨g2, o2 + j * 3, none⟩)) : Mk)).P W.heap.size W'.heap.size W' v (upd x 7 v) → K' ⟨#[Value.agg #[Value.slice a1 xs.length c1, Value.slice a2 ys.length c2, Value.slice (some { block := g2, off := o2 }) is.length c3, Value.slice a4 bs.length c4], Value.pointer (some { block := w.heap.size, off := 0 }), Value.slice none 0 0, sv, Value.slice (some { block := gr, off := orr }) RL.length rc, Value.int IntKind.i64 ↑q, x 9, u7, Value.slice (some { block := w.heap.size + 1, off := 0 }) 0 0, Value.agg #[Value.slice a1 xs.length c1, Value.slice a2 ys.length c2, Value.slice (some { block := g2, off := o2 }) is.length c3, Value.slice a4 bs.length c4], Value.slice (some { block := gr, off := orr }) RL.length rc, Value.int IntKind.i64 ↑q, Value.slice (some { block := gr, off := orr }) RL.length rc, Value.int IntKind.i64 ↑RL.length, Value.bool true, u15, u16, x 0, x 1, x 2, x 3, x 4, x 5, x 6, v, x 8, u26, u27, u28, u29, u30, u31, u32, u33, u34, u35, u36, u37, u38, u39, u40, u41, u42, u43, u44, u45, u46, undef], []⟩ W') := fun v W' h1 h2 => hK' _ _ (hK v W' h1 h2)
          have e1 : x 1 = .slice (some ⟨g2, o2, none⟩) is.length c3 := hp.post 1 (hd 1 (show 1 ∈ [1, 6] from by decide))
          have e6 : x 6 = .int .i64 (j : Int) := hp.post 6 (hd 6 (show 6 ∈ [1, 6] from by decide))
          clear hK hK' hp hd
          simp only [e1, e6] at HK ⊢
          go_simp
          exact HK.out _ _ (Below.refl _ _) rfl
        · refine wpOp_step (o := _) rfl fun K' hK' => ?_
          have HK : Hid (∀ v W', Below W.heap.size W W' → ((Mk.const [7] (.agg #[.int .i64 kd, .int .i64 ln, .slice sa ps.length sc]) : Mk)).P W.heap.size W'.heap.size W' v (upd x 8 v) → K' ⟨#[Value.agg #[Value.slice a1 xs.length c1, Value.slice a2 ys.length c2, Value.slice (some { block := g2, off := o2 }) is.length c3, Value.slice a4 bs.length c4], Value.pointer (some { block := w.heap.size, off := 0 }), Value.slice none 0 0, sv, Value.slice (some { block := gr, off := orr }) RL.length rc, Value.int IntKind.i64 ↑q, x 9, u7, Value.slice (some { block := w.heap.size + 1, off := 0 }) 0 0, Value.agg #[Value.slice a1 xs.length c1, Value.slice a2 ys.length c2, Value.slice (some { block := g2, off := o2 }) is.length c3, Value.slice a4 bs.length c4], Value.slice (some { block := gr, off := orr }) RL.length rc, Value.int IntKind.i64 ↑q, Value.slice (some { block := gr, off := orr }) RL.length rc, Value.int IntKind.i64 ↑RL.length, Value.bool true, u15, u16, x 0, x 1, x 2, x 3, x 4, x 5, x 6, x 7, v, u26, u27, u28, u29, u30, u31, u32, u33, u34, u35, u36, u37, u38, u39, u40, u41, u42, u43, u44, u45, u46, undef], []⟩ W') := fun v W' h1 h2 => hK' _ _ (hK v W' h1 h2)
          have e7 : x 7 = .pointer (some ⟨g2, o2 + j * 3, none⟩) := hp.post 7 (hd 7 (show 7 ∈ [7] from by decide))
          have bw := HW.out W (of_drew hp.bel)
          obtain ⟨k0, k1, k2⟩ := bw.2.2
          clear bw
          clear hK hK' hp hd
          simp only [e7] at HK ⊢
          go_simp
          exact HK.out _ _ (Below.refl _ _) rfl
        · refine wpOp_step (o := _) rfl fun K' hK' => ?_
          have HK : Hid (∀ v W', Below W.heap.size W W' → (MkW 44 #[.int .i64 0, .int .i64 0, .slice none 0 0]).P W.heap.size W'.heap.size W' v (upd x 9 v) → K' ⟨#[Value.agg #[Value.slice a1 xs.length c1, Value.slice a2 ys.length c2, Value.slice (some { block := g2, off := o2 }) is.length c3, Value.slice a4 bs.length c4], Value.pointer (some { block := w.heap.size, off := 0 }), Value.slice none 0 0, sv, Value.slice (some { block := gr, off := orr }) RL.length rc, Value.int IntKind.i64 ↑q, v, u7, Value.slice (some { block := w.heap.size + 1, off := 0 }) 0 0, Value.agg #[Value.slice a1 xs.length c1, Value.slice a2 ys.length c2, Value.slice (some { block := g2, off := o2 }) is.length c3, Value.slice a4 bs.length c4], Value.slice (some { block := gr, off := orr }) RL.length rc, Value.int IntKind.i64 ↑q, Value.slice (some { block := gr, off := orr }) RL.length rc, Value.int IntKind.i64 ↑RL.length, Value.bool true, u15, u16, x 0, x 1, x 2, x 3, x 4, x 5, x 6, x 7, x 8, u26, u27, u28, u29, u30, u31, u32, u33, u34, u35, u36, u37, u38, u39, u40, u41, u42, u43, u44, u45, u46, undef], []⟩ W') := fun v W' h1 h2 => hK' _ _ (hK v W' h1 h2)
          clear hK hK' hp hd
          go_simp
          exact HK.out _ _ ((Below.refl _ W).alloc (Nat.le_refl _) _) ⟨rfl, by simp, AtC.new W 44 _⟩
      · intro x iw W hp
        have e8 : x 8 = .agg #[.int .i64 kd, .int .i64 ln, .slice sa ps.length sc] := hp.post 8 (by decide)
        obtain ⟨e9, z9, A9⟩ := hp.post 9 (by decide)
        have l9 := hp.lo 9 (by decide)
        have bel := of_drew hp.bel
        have hb9 : wo.heap.size ≤ (iw 9).1 := l9.1
        have y0 : W.cell? ⟨(iw 9).1, 0, none⟩ = some (.int .i64 0) := A9.cell 0
        have y1 : W.cell? ⟨(iw 9).1, 1, none⟩ = some (.int .i64 0) := A9.cell 1
        have y2 : W.cell? ⟨(iw 9).1, 2, none⟩ = some (.slice none 0 0) := A9.cell 2
        have f0 := A9.frozen 0
        have f1 := A9.frozen 1
        have f2 := A9.frozen 2
        have HFI : Hid (AtC W (iw 9).1 44 #[.int .i64 0, .int .i64 0, .slice none 0 0] ∧ Below wo.heap.size wo W ∧ wo.heap.size ≤ (iw 9).1) := ⟨A9, bel, hb9⟩
        clear hp A9 bel l9 z9 hb9
        simp only [e8, e9] at *
        generalize (iw 9).1 = bw at *
        go_wp2_with fail
        try rw [List.filterMap_nil]
        try go_wp2_with fail
        go_meet
        exact ⟨bw, rfl, ((HFI.out.1.set 0 _).set 1 _).set 2 _, ((HFI.out.2.1.setCell (p := ⟨bw, 0, none⟩) HFI.out.2.2 _).setCell (p := ⟨bw, 1, none⟩) HFI.out.2.2 _).setCell (p := ⟨bw, 2, none⟩) HFI.out.2.2 _, HFI.out.2.2⟩
    case rest =>
      obtain ⟨xb, rfl, hAx, hB2, hxb⟩ := hcut
      have HX2 : Hid (Ho w w1 wc sv (c0 ++ (ptrT ((j : Int) + 1) (ps.take 0)).map (·.2)) ∧ AtC wc xb 44 #[.int .i64 kd, .int .i64 ln, .slice sa ps.length sc] ∧ (∀ k, sv.ownBlock = some k → k ≠ xb)) := ⟨by have := HQ.out.below hB2; simpa [ptrT] using this, hAx, fun k hk e => by have := (HQ.out.o.lt k hk).2; omega⟩
      clear hAx hB2 hxb HW HQ HOW
      go_wp2_with fail
      go_loopw [3, 7] (fun sv kv wr => ∃ (s' : Value) (t : Nat), s' = sv ∧ t ≤ ps.length ∧ kv = .int .i64 t ∧ Hid (Ho w w1 wr s' (c0 ++ (ptrT ((j : Int) + 1) (ps.take t)).map (·.2)) ∧ AtC wr xb 44 #[.int .i64 kd, .int .i64 ln, .slice sa ps.length sc] ∧ (∀ k, s'.ownBlock = some k → k ≠ xb))) (fun _ kv _ => ps.length - (intOf kv).toNat)
      case atStart => exact ⟨_, 0, rfl, Nat.zero_le _, rfl, HX2.out⟩
      case round =>
        obtain ⟨sv', t, hsv, ht, rfl, HT⟩ := hrel
        subst hsv
        clear HX2
        have t0 : (0 : Int) ≤ (t : Int) := by omega
        have x7 : wr.cell? ⟨xb, 2, none⟩ = some (.slice sa ps.length sc) := HT.out.2.1.cell 2
        by_cases htl : t < ps.length
        rotate_left
        · have t1 : ¬ ((t : Int) < (ps.length : Int)) := by omega
          have HE : Hid (Ho w w1 wr sv' ((ptrL is (RL.take (q + 1))).map (·.2))) := by
            have := HT.out.1
            rw [List.take_of_length_le (show ps.length ≤ t by omega)] at this
            show Ho _ _ _ _ _
            rw [HC1.out]
            exact this
          go_wp2
          go_roundw
          case rel => exact ⟨sv', q + 1, rfl, by omega, by go_num, HE.out⟩
          case measure => simp [intOf]; omega
        have t1 : (t : Int) < (ps.length : Int) := by omega
        obtain ⟨gp, op, rfl, hgp, kp⟩ := HCP.out t htl
        replace kp := ((HOB.out _ _ _ HT.out.1).1.cell (p := ⟨gp, op + t, none⟩) hgp).trans kp
        have HTT := hide (ptrT_take ((j : Int) + 1) ps t htl)
        have htn := ptrT_len ((j : Int) + 1) (ps.take t)
        rw [List.length_take] at htn
        have hpr := HPN.out _ (List.getElem_mem htl)
        obtain ⟨Pn, hPn⟩ : ∃ x, ps[t] = x := ⟨_, rfl⟩
        rw [hPn] at kp HTT hpr
        clear hPn
        by_cases hp0 : 0 < Pn
        rotate_left
        · have HF : Hid (ptrT ((j : Int) + 1) (ps.take (t + 1)) = ptrT ((j : Int) + 1) (ps.take t)) := hide (by
            have := HTT.out
            have e : inB Pn 1 16 = false := by simp [inB]; omega
            rw [e] at this
            simpa using this)
          have hg : decide (Pn > 0) = false := decide_eq_false hp0
          go_wp2
          go_roundw
          case rel => exact ⟨sv', t + 1, rfl, by omega, by go_num, by rw [HF.out]; exact HT.out⟩
          case measure => simp [intOf]; omega
        have HF : Hid (ic (c0 ++ (ptrT ((j : Int) + 1) (ps.take t)).map (·.2)) ++ [.int .i64 Pn] = ic (c0 ++ (ptrT ((j : Int) + 1) (ps.take (t + 1))).map (·.2))) := hide (by
          have := HTT.out
          have e : inB Pn 1 16 = true := by simp [inB]; omega
          rw [e, if_pos rfl] at this
          rw [this]
          simp [ic])
        have HAL : Hid (Ho w w1 (wr.alloc (.cells #[.int .i64 Pn] 3)) sv' (c0 ++ (ptrT ((j : Int) + 1) (ps.take t)).map (·.2)) ∧ AtC (wr.alloc (.cells #[.int .i64 Pn] 3)) xb 44 #[.int .i64 kd, .int .i64 ln, .slice (some ⟨gp, op, none⟩) ps.length sc] ∧ (wr.alloc (.cells #[.int .i64 Pn] 3)).cell? ⟨wr.heap.size, 0, none⟩ = some (.int .i64 Pn) ∧ w.heap.size + 1 ≤ (wr.alloc (.cells #[.int .i64 Pn] 3)).heap.size) := ⟨HT.out.1.below ((Below.refl _ wr).alloc (Nat.le_refl _) _), HT.out.2.1.alloc _, (AtC.new wr 3 #[.int .i64 Pn]).cell 0, by have := HT.out.1.c.size; have := HB1.out.2.2; simp; omega⟩
        have HTL : Hid ((ic (c0 ++ (ptrT ((j : Int) + 1) (ps.take t)).map (·.2))).length ≤ 100000000000) := by show _ ≤ _; rw [ic_length, List.length_append, List.length_map]; omega
        have HXB := hide (And.intro HT.out.2.2 HT.out.2.1.lt)
        clear HT HTT
        go_wp2_with (at_builtin; refine wpList_step fun K' hK' => ?_; refine step_append_one _ rfl (.tmp 39) (.tmp 45) 42 rfl (w.heap.size + 1) 3 Tryz.u42 _ 8 Tryz.i3 rfl (by decide) sv' _ rfl HAL.out.1.o HAL.out.2.2.2 wr.heap.size (.int .i64 Pn) rfl HAL.out.2.2.1 rfl HTL.out ?_; intro v9 w9 T9 G9 V9; refine hK' _ _ ?_; rw [HF.out] at T9; have HR9 := hide (And.intro (HAL.out.1.app T9 G9 V9) (And.intro (HAL.out.2.1.grown G9 (fun e => HXB.out.1 _ e rfl)) (fun k (hk : v9.ownBlock = some k) => (V9 k hk).elim (HXB.out.1 k) (fun e => by have := HXB.out.2; simp at e; omega)))); clear T9 G9 V9 hK')
        go_roundw
        case rel => exact ⟨v9, t + 1, rfl, by omega, by go_num, HR9.out⟩
        case measure => simp [intOf]; omega
end Go.Proofs.YtljooldjcefkoaaGreat
/- What is exact, as a plain function. No Go function is spoken of. -/
namespace Go.Proofs.YtljooldjcefkoaaGreat
open Go.RowKit Kit
/-- What is asked of an inode. -/
noncomputable def inoS (ys : List Bool) (is : List Ino) (bs : List Blk) (j : Nat) : Bool := decide (((reachL is bs).contains ((j : Int) + 1) = true ∨ kindAt is ((j : Int) + 1) = 0) ∧ ys.getD j false = (reachL is bs).contains ((j : Int) + 1) ∧ (j = 0 → lnkAt is j = 1 ∧ linksN is bs ((j : Int) + 1) = 0) ∧ (¬ j = 0 → ((reachL is bs).contains ((j : Int) + 1) = true → lnkAt is j = (linksN is bs ((j : Int) + 1) : Int)) ∧ (kindAt is ((j : Int) + 1) = 2 → linksN is bs ((j : Int) + 1) = 1)))
noncomputable def bitS (xs : List Bool) (is : List Ino) (bs : List Blk) (p : Nat) : Bool := decide (xs.getD p false = (hadL is bs).contains ((p : Int) + 1))
noncomputable def exactS (xs ys : List Bool) (is : List Ino) (bs : List Blk) : Bool := (List.range 8).all (inoS ys is bs) && (List.range 16).all (bitS xs is bs)
noncomputable def exactB (xs ys : List Bool) (is : List Ino) (bs : List Blk) : Bool := safeB xs ys is bs && exactS xs ys is bs
theorem exactS_ino {xs ys : List Bool} {is : List Ino} {bs : List Blk} {j : Nat} (hj : j < 8) (h : inoS ys is bs j = false) : exactS xs ys is bs = false := by
  unfold exactS
  have : (List.range 8).all (inoS ys is bs) = false := by
    rw [List.all_eq_false]
    exact ⟨j, List.mem_range.2 hj, by rw [h]; decide⟩
  rw [this]
  rfl
theorem exactS_bit {xs ys : List Bool} {is : List Ino} {bs : List Blk} {p : Nat} (hp : p < 16) (h : bitS xs is bs p = false) : exactS xs ys is bs = false := by
  unfold exactS
  have : (List.range 16).all (bitS xs is bs) = false := by
    rw [List.all_eq_false]
    exact ⟨p, List.mem_range.2 hp, by rw [h]; decide⟩
  rw [this, Bool.and_false]
theorem exactS_yes {xs ys : List Bool} {is : List Ino} {bs : List Blk} (h1 : ∀ j, j < 8 → inoS ys is bs j = true) (h2 : ∀ p, p < 16 → bitS xs is bs p = true) : exactS xs ys is bs = true := by
  unfold exactS
  rw [Bool.and_eq_true, List.all_eq_true, List.all_eq_true]
  exact ⟨fun j hj => h1 j (List.mem_range.1 hj), fun p hp => h2 p (List.mem_range.1 hp)⟩
end Go.Proofs.YtljooldjcefkoaaGreat
/- Of the specification: Shared by its contract. -/
namespace Go.Proofs.YtljooldjcefkoaaGreat
open Go.RowKit Kit
def shrC (l : List Int) : Nat := shrQ l l.length
theorem shrC_snoc (l : List Int) (p : Int) : shrC (l ++ [p]) = shrC l + if l.contains p = true then 1 else 0 := by
  unfold shrC shrQ
  rw [List.length_append, List.length_singleton, List.range_succ, List.countP_append, List.countP_cons, List.countP_nil, Nat.zero_add]
  congr 1
  · apply List.countP_congr
    intro k hk
    rw [List.mem_range] at hk
    rw [List.take_append_of_le_length (by omega), List.getD_eq_getElem?_getD, List.getElem?_append_left hk, ← List.getD_eq_getElem?_getD]
  · have e : (l ++ [p]).getD l.length 0 = p := by simp
    have e2 : (l ++ [p]).take l.length = l := by simp
    rw [e, e2]
    by_cases hp : p ∈ l
    · simp [hp]
    · simp [hp]
/-- The blocks of pointers of the first inodes. -/
def curJ (is : List Ino) (j : Nat) : List Int := (ptrL is (kndQ is j)).map (·.2)
theorem curJ_succ (is : List Ino) (j : Nat) : curJ is (j + 1) = if kindAt is ((j : Int) + 1) = 0 then curJ is j else curJ is j ++ (ptrT ((j : Int) + 1) (ptrsAt is ((j : Int) + 1))).map (·.2) := by
  unfold curJ
  rw [kndQ_succ]
  split
  · rw [List.append_nil]
  · unfold ptrL
    rw [List.flatMap_append, List.map_append, List.flatMap_cons, List.flatMap_nil, List.append_nil]
    rfl
theorem curJ_len {is : List Ino} {bs : List Blk} (h : RD is bs) (j : Nat) : (curJ is j).length ≤ j * 2 := by
  unfold curJ
  rw [List.length_map]
  have h1 := ptrL_len h (kndQ is j)
  have h2 := kndQ_len is j
  omega
theorem shrC_le (l : List Int) : shrC l ≤ l.length := by
  unfold shrC shrQ
  exact Nat.le_trans List.countP_le_length (by rw [List.length_range]; exact Nat.le_refl _)
set_option maxRecDepth 100000 in
set_option maxHeartbeats 3200000 in
theorem specShr_any (dx dy iv bv : Value) (xs ys : List Bool) (is : List Ino) (bs : List Blk) (w : World) (h : DR w dx dy iv bv xs ys is bs) (hX : RX xs ys is bs) :
    Calls Tryz.prog 17 #[.agg #[dx, dy, iv, bv]] w fun e w' => e = .returned (.int .i64 (sharedN is)) ∧ Below w.heap.size w w' := by
  obtain ⟨a1, c1, a2, c2, a3, c3, a4, c4, rfl, rfl, rfl, rfl⟩ := h.form
  have HH := hide h
  have HX := hide hX
  have HI8 := hide hX.r.hi
  have HQ0 : Hid (ROwns ((w.alloc (.cells #[.slice a1 xs.length c1, .slice a2 ys.length c2, .slice a3 is.length c3, .slice a4 bs.length c4] 35)).alloc (.cells #[] 3)) (w.heap.size + 1) 3 (.slice (some ⟨w.heap.size + 1, 0, none⟩) 0 0) (ic (curJ is 0)) ∧ Below w.heap.size w ((w.alloc (.cells #[.slice a1 xs.length c1, .slice a2 ys.length c2, .slice a3 is.length c3, .slice a4 bs.length c4] 35)).alloc (.cells #[] 3)) ∧ AtC ((w.alloc (.cells #[.slice a1 xs.length c1, .slice a2 ys.length c2, .slice a3 is.length c3, .slice a4 bs.length c4] 35)).alloc (.cells #[] 3)) w.heap.size 35 #[.slice a1 xs.length c1, .slice a2 ys.length c2, .slice a3 is.length c3, .slice a4 bs.length c4]) := by
    have l0 := ROwns.lit0 (w.alloc (.cells #[.slice a1 xs.length c1, .slice a2 ys.length c2, .slice a3 is.length c3, .slice a4 bs.length c4] 35)) (w.heap.size + 1) 3 (by simp)
    have e0 : (w.alloc (.cells #[.slice a1 xs.length c1, .slice a2 ys.length c2, .slice a3 is.length c3, .slice a4 bs.length c4] 35)).heap.size = w.heap.size + 1 := by simp
    rw [e0] at l0
    exact ⟨l0, ((Below.refl _ w).alloc (Nat.le_refl _) _).alloc (by simp) _, (AtC.new w 35 _).alloc _⟩
  clear h hX
  go_enter Tryz.func17, Tryz.ntmps17
  go_wp2_with fail
  go_loopw [3, 4, 5] (fun nv sv kv wr => ∃ (s' : Value) (j : Nat), s' = sv ∧ j ≤ is.length ∧ nv = .int .i64 ((shrC (curJ is j) : Nat) : Int) ∧ kv = .int .i64 j ∧ Hid (ROwns wr (w.heap.size + 1) 3 s' (ic (curJ is j)) ∧ Below w.heap.size w wr ∧ AtC wr w.heap.size 35 #[.slice a1 xs.length c1, .slice a2 ys.length c2, .slice a3 is.length c3, .slice a4 bs.length c4])) (fun _ _ kv _ => is.length - (intOf kv).toNat)
  case atStart => exact ⟨_, 0, rfl, Nat.zero_le _, rfl, rfl, HQ0.out⟩
  case round =>
    obtain ⟨sv, j, hsv, hj, rfl, rfl, HQ⟩ := hrel
    subst hsv
    clear HQ0
    have j0 : (0 : Int) ≤ (j : Int) := by omega
    have x2 : wr.cell? ⟨w.heap.size, 2, none⟩ = some (.slice a3 is.length c3) := HQ.out.2.2.cell 2
    by_cases hlt : j < is.length
    rotate_left
    · have j1 : ¬ ((j : Int) < (is.length : Int)) := by omega
      have HE : Hid (shrC (curJ is j) = sharedN is) := by
        obtain rfl : j = 8 := by have := HI8.out; omega
        rfl
      rw [HE.out]
      go_wp2
      go_ret
      exact ⟨rfl, HQ.out.2.1⟩
    have j1 : (j : Int) < (is.length : Int) := by omega
    have hj8 : j < 8 := by have := HI8.out; omega
    obtain ⟨g2, o2, sa, sc, rfl, hg2, y0, -, y2, rr⟩ := DR.ino HH.out j hlt
    have HY : Hid (∀ W, Below w.heap.size w W → W.cell? ⟨g2, o2 + j * 3, none⟩ = some (.int .i64 (kindAt is ((j : Int) + 1))) ∧ W.cell? ⟨g2, o2 + j * 3 + 2, none⟩ = some (.slice sa (ptrsAt is ((j : Int) + 1)).length sc)) := fun W b => ⟨(b.cell (p := ⟨g2, o2 + j * 3, none⟩) hg2).trans y0, (b.cell (p := ⟨g2, o2 + j * 3 + 2, none⟩) hg2).trans y2⟩
    have HCS := hide (curJ_succ is j)
    have hcl := curJ_len HX.out.r j
    have hp2 := ptrsAt_len HX.out.r ((j : Int) + 1)
    have HPR : Hid (∀ p ∈ ptrsAt is ((j : Int) + 1), 0 ≤ p ∧ p ≤ 16) := fun p hp => HX.out.ptr hp
    obtain ⟨kd, hkd⟩ : ∃ k, kindAt is ((j : Int) + 1) = k := ⟨_, rfl⟩
    obtain ⟨ps, hps⟩ : ∃ X, ptrsAt is ((j : Int) + 1) = X := ⟨_, rfl⟩
    rw [hkd, hps] at HY
    rw [hkd, hps] at HCS
    rw [hps] at rr hp2 HPR
    obtain ⟨pa, pc', pe, hcp⟩ := rr
    simp only [Value.slice.injEq, true_and] at pe
    obtain ⟨rfl, rfl⟩ := pe
    have HCP := hide hcp
    clear hkd hps hcp y0 y2
    have y0 := (HY.out wr HQ.out.2.1).1
    have y2 := (HY.out wr HQ.out.2.1).2
    by_cases hk0 : kd = 0
    · subst hk0
      have HE : Hid (curJ is (j + 1) = curJ is j) := hide (by have := HCS.out; simpa using this)
      by_cases hn0 : ps.length = 0
      · have n1 : ¬ ((0 : Int) < (ps.length : Int)) := by omega
        go_wp2_with fail
        go_rounds 1
        go_roundw
        case rel => exact ⟨sv, j + 1, rfl, by omega, by rw [HE.out], by go_num, by rw [HE.out]; exact HQ.out⟩
        case measure => simp [intOf]; omega
      · have n1 : (0 : Int) < (ps.length : Int) := by omega
        go_wp2_with fail
        go_rounds 1
        go_roundw
        case rel => exact ⟨sv, j + 1, rfl, by omega, by rw [HE.out], by go_num, by rw [HE.out]; exact HQ.out⟩
        case measure => simp [intOf]; omega
    have hkb : (kd != 0) = true := by simp [hk0]
    have HE : Hid (curJ is (j + 1) = curJ is j ++ (ptrT ((j : Int) + 1) ps).map (·.2)) := hide (by have := HCS.out; rwa [if_neg hk0] at this)
    obtain ⟨c0, hc0⟩ : ∃ c, curJ is j = c := ⟨_, rfl⟩
    rw [hc0] at HQ HE hcl ⊢
    have HQ1 : Hid (ROwns wr (w.heap.size + 1) 3 sv (ic (c0 ++ (ptrT ((j : Int) + 1) (ps.take 0)).map (·.2))) ∧ Below w.heap.size w wr ∧ AtC wr w.heap.size 35 #[.slice a1 xs.length c1, .slice a2 ys.length c2, .slice (some ⟨g2, o2, none⟩) is.length c3, .slice a4 bs.length c4]) := hide (by have := HQ.out; simpa [ptrT] using this)
    have hn0 : shrC c0 = shrC (c0 ++ (ptrT ((j : Int) + 1) (ps.take 0)).map (·.2)) := by simp [ptrT]
    clear hc0 HQ HCS
    rw [hn0]
    clear hn0
    go_wp2_with fail
    go_loopw [3, 4, 6] (fun nv sv kv wr => ∃ (s' : Value) (t : Nat), s' = sv ∧ t ≤ ps.length ∧ nv = .int .i64 ((shrC (c0 ++ (ptrT ((j : Int) + 1) (ps.take t)).map (·.2)) : Nat) : Int) ∧ kv = .int .i64 t ∧ Hid (ROwns wr (w.heap.size + 1) 3 s' (ic (c0 ++ (ptrT ((j : Int) + 1) (ps.take t)).map (·.2))) ∧ Below w.heap.size w wr ∧ AtC wr w.heap.size 35 #[.slice a1 xs.length c1, .slice a2 ys.length c2, .slice (some ⟨g2, o2, none⟩) is.length c3, .slice a4 bs.length c4])) (fun _ _ kv _ => ps.length - (intOf kv).toNat)
    case atStart => exact ⟨_, 0, rfl, Nat.zero_le _, rfl, rfl, HQ1.out⟩
    case round =>
      obtain ⟨sv', t, hsv, ht, rfl, rfl, HT⟩ := hrel
      subst hsv
      clear HQ1 x2 y0 y2
      have t0 : (0 : Int) ≤ (t : Int) := by omega
      have x2 : wr.cell? ⟨w.heap.size, 2, none⟩ = some (.slice (some ⟨g2, o2, none⟩) is.length c3) := HT.out.2.2.cell 2
      have y0 := (HY.out wr HT.out.2.1).1
      have y2 := (HY.out wr HT.out.2.1).2
      by_cases htl : t < ps.length
      rotate_left
      · have t1 : ¬ ((t : Int) < (ps.length : Int)) := by omega
        have HF : Hid (c0 ++ (ptrT ((j : Int) + 1) (ps.take t)).map (·.2) = curJ is (j + 1)) := by
          show _ = _
          rw [HE.out, List.take_of_length_le (show ps.length ≤ t by omega)]
        rw [HF.out]
        have HT' := hide HT.out
        rw [HF.out] at HT'
        go_wp2
        go_roundw
        case rel => exact ⟨sv', j + 1, rfl, by omega, rfl, by go_num, HT'.out⟩
        case measure => simp [intOf]; omega
      have t1 : (t : Int) < (ps.length : Int) := by omega
      obtain ⟨gp, op, rfl, hgp, kp⟩ := HCP.out t htl
      replace kp := (HT.out.2.1.cell (p := ⟨gp, op + t, none⟩) hgp).trans kp
      have HTT := hide (ptrT_take ((j : Int) + 1) ps t htl)
      have htn := ptrT_len ((j : Int) + 1) (ps.take t)
      rw [List.length_take] at htn
      have hpr := HPR.out _ (List.getElem_mem htl)
      obtain ⟨Pn, hPn⟩ : ∃ x, ps[t] = x := ⟨_, rfl⟩
      rw [hPn] at kp HTT hpr
      clear hPn
      by_cases hp0 : Pn ≤ 0
      · have HF : Hid (ptrT ((j : Int) + 1) (ps.take (t + 1)) = ptrT ((j : Int) + 1) (ps.take t)) := hide (by
          have := HTT.out
          have e : inB Pn 1 16 = false := by simp [inB]; omega
          rw [e] at this
          simpa using this)
        go_wp2
        go_roundw
        case rel => exact ⟨sv', t + 1, rfl, by omega, by rw [HF.out], by go_num, by rw [HF.out]; exact HT.out⟩
        case measure => simp [intOf]; omega
      have HF : Hid (c0 ++ (ptrT ((j : Int) + 1) (ps.take (t + 1))).map (·.2) = (c0 ++ (ptrT ((j : Int) + 1) (ps.take t)).map (·.2)) ++ [Pn]) := hide (by
        have := HTT.out
        have e : inB Pn 1 16 = true := by simp [inB]; omega
        rw [e, if_pos rfl] at this
        rw [this]
        simp)
      have hcu : (c0 ++ (ptrT ((j : Int) + 1) (ps.take t)).map (·.2)).length ≤ 100 := by rw [List.length_append, List.length_map]; omega
      obtain ⟨cu, hcu'⟩ : ∃ c, c0 ++ (ptrT ((j : Int) + 1) (ps.take t)).map (·.2) = c := ⟨_, rfl⟩
      rw [hcu'] at HF HT hcu ⊢
      have hsl := shrC_le cu
      have HSN := hide (shrC_snoc cu Pn)
      have CH := hide (has10_any sv' cu Pn wr HT.out.1.rints (by omega))
      obtain ⟨sva, svc, rfl, -⟩ := HT.out.1.form
      obtain ⟨m, hm⟩ : ∃ m, (ic cu).length = m := ⟨_, rfl⟩
      rw [hm] at HT CH ⊢
      have HAL : Hid (ROwns (wr.alloc (.cells #[.int .i64 Pn] 3)) (w.heap.size + 1) 3 (.slice sva m svc) (ic cu) ∧ Below w.heap.size w (wr.alloc (.cells #[.int .i64 Pn] 3)) ∧ AtC (wr.alloc (.cells #[.int .i64 Pn] 3)) w.heap.size 35 #[.slice a1 xs.length c1, .slice a2 ys.length c2, .slice (some ⟨g2, o2, none⟩) is.length c3, .slice a4 bs.length c4] ∧ (wr.alloc (.cells #[.int .i64 Pn] 3)).cell? ⟨wr.heap.size, 0, none⟩ = some (.int .i64 Pn) ∧ w.heap.size + 1 ≤ (wr.alloc (.cells #[.int .i64 Pn] 3)).heap.size) := ⟨HT.out.1.alloc _, HT.out.2.1.alloc HT.out.2.1.size _, HT.out.2.2.alloc _, (AtC.new wr 3 #[.int .i64 Pn]).cell 0, by have := HT.out.2.2.lt; simp; omega⟩
      have HTL : Hid ((ic cu).length ≤ 100000000000) := by show _ ≤ _; rw [ic_length]; omega
      have HIC : Hid (ic cu ++ [.int .i64 Pn] = ic (c0 ++ (ptrT ((j : Int) + 1) (ps.take (t + 1))).map (·.2))) := by show _ = ic _; rw [HF.out]; simp [ic]
      have HRL : Hid (∀ v9 w9, ROwns w9 (w.heap.size + 1) 3 v9 (ic cu ++ [.int .i64 Pn]) → (wr.alloc (.cells #[.int .i64 Pn] 3)).grownBy w9 (Value.slice sva m svc).ownBlock → ROwns w9 (w.heap.size + 1) 3 v9 (ic (c0 ++ (ptrT ((j : Int) + 1) (ps.take (t + 1))).map (·.2))) ∧ Below w.heap.size w w9 ∧ AtC w9 w.heap.size 35 #[.slice a1 xs.length c1, .slice a2 ys.length c2, .slice (some ⟨g2, o2, none⟩) is.length c3, .slice a4 bs.length c4]) := fun v9 w9 T9 G9 => ⟨by rw [← HIC.out]; exact T9, HAL.out.2.1.grown G9 HAL.out.2.1.size (fun k hk => by have := (HAL.out.1.lt k hk).1; omega), HAL.out.2.2.1.grown G9 (fun e => by have := (HAL.out.1.lt _ e).1; omega)⟩
      rw [← HF.out] at HSN
      clear hcu' hm HT
      cases hhas : cu.contains Pn with
      | true =>
        rw [hhas] at CH HSN
        have HN : Hid (shrC (c0 ++ (ptrT ((j : Int) + 1) (ps.take (t + 1))).map (·.2)) = shrC cu + 1) := hide (by have := HSN.out; simpa using this)
        clear hhas
        go_wp2_with fail
        refine CH.out.mono ?_
        rintro e w7 ⟨rfl, rfl⟩
        go_wp2_with (at_builtin; refine wpList_step fun K' hK' => ?_; refine step_append_one _ rfl (.tmp 52) (.tmp 54) 42 rfl (w.heap.size + 1) 3 Tryz.u42 _ 8 Tryz.i3 rfl (by decide) (.slice sva m svc) (ic cu) rfl HAL.out.1 HAL.out.2.2.2.2 w7.heap.size (.int .i64 Pn) rfl HAL.out.2.2.2.1 rfl HTL.out ?_; intro v9 w9 T9 G9 V9; refine hK' _ _ ?_; have HR9 := hide (HRL.out v9 w9 T9 G9); clear T9 G9 V9 hK')
        go_roundw
        case rel => exact ⟨v9, t + 1, rfl, by omega, by rw [HN.out]; go_num, by go_num, HR9.out⟩
        case measure => simp [intOf]; omega
      | false =>
        rw [hhas] at CH HSN
        have HN : Hid (shrC (c0 ++ (ptrT ((j : Int) + 1) (ps.take (t + 1))).map (·.2)) = shrC cu) := hide (by have := HSN.out; simpa using this)
        clear hhas
        go_wp2_with fail
        refine CH.out.mono ?_
        rintro e w7 ⟨rfl, rfl⟩
        go_wp2_with (at_builtin; refine wpList_step fun K' hK' => ?_; refine step_append_one _ rfl (.tmp 52) (.tmp 54) 42 rfl (w.heap.size + 1) 3 Tryz.u42 _ 8 Tryz.i3 rfl (by decide) (.slice sva m svc) (ic cu) rfl HAL.out.1 HAL.out.2.2.2.2 w7.heap.size (.int .i64 Pn) rfl HAL.out.2.2.2.1 rfl HTL.out ?_; intro v9 w9 T9 G9 V9; refine hK' _ _ ?_; have HR9 := hide (HRL.out v9 w9 T9 G9); clear T9 G9 V9 hK')
        go_roundw
        case rel => exact ⟨v9, t + 1, rfl, by omega, by rw [HN.out], by go_num, HR9.out⟩
        case measure => simp [intOf]; omega
end Go.Proofs.YtljooldjcefkoaaGreat
