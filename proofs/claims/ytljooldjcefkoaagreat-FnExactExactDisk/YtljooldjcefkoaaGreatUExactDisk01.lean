/- Texts of the proof, bundled: Eh, Ed, Ep. -/
import Derived.Test.YtljooldjcefkoaaGreatU15
import Derived.Test.YtljooldjcefkoaaGreatU12
import Derived.Test.YtljooldjcefkoaaGreatU18
/- Of the specification: l15Had by its contract. -/
namespace Go.Proofs.YtljooldjcefkoaaGreat
open Go.RowKit Kit
/-- The blocks that reached inodes have. -/
def hadL (is : List Ino) (bs : List Blk) : List Int := (ptrL is (reachL is bs)).map (·.2)
/-- A list under way: of old only its first block changes. -/
structure Ho (w w1 wr : World) (sv : Value) (cur : List Int) : Prop where
  o : ROwns wr (w.heap.size + 1) 3 sv (ic cur)
  c : Chg (fun k => k = w.heap.size + 1) w1 wr
  n : ∀ k, sv.ownBlock = some k → k = w.heap.size + 1 ∨ w1.heap.size ≤ k
theorem Ho.below {w w1 wr wr' : World} {sv : Value} {cur : List Int} (h : Ho w w1 wr sv cur) (hb : Below wr.heap.size wr wr') : Ho w w1 wr' sv cur := ⟨h.o.below hb (Nat.le_refl _), h.c.trans (Chg.of_below hb), h.n⟩
theorem Ho.app {w w1 W w9 : World} {sv v9 : Value} {cur new : List Int} (h : Ho w w1 W sv cur) (h9 : ROwns w9 (w.heap.size + 1) 3 v9 (ic new)) (G9 : W.grownBy w9 sv.ownBlock) (V9 : ∀ k, v9.ownBlock = some k → sv.ownBlock = some k ∨ W.heap.size ≤ k) : Ho w w1 w9 v9 new :=
  ⟨h9, ⟨G9.os.trans h.c.os, G9.tape.trans h.c.tape, G9.output.trans h.c.output, Nat.le_trans h.c.size G9.size, fun k hk hn => (G9.block k (Nat.lt_of_lt_of_le hk h.c.size) (fun e => by rcases h.n k e.symm with e | e; exact hn e; omega)).trans (h.c.block k hk hn)⟩, fun k hk => (V9 k hk).elim (h.n k) (fun e => .inr (Nat.le_trans h.c.size e))⟩
theorem curP_len {is : List Ino} {bs : List Blk} (h : RD is bs) (l : List Int) : ((ptrL is l).map (·.2)).length ≤ l.length * 2 := by rw [List.length_map]; exact ptrL_len h l
set_option maxRecDepth 100000 in
set_option maxHeartbeats 6400000 in
theorem had_any (dx dy iv bv : Value) (xs ys : List Bool) (is : List Ino) (bs : List Blk) (w : World) (h : DR w dx dy iv bv xs ys is bs) (hX : RX xs ys is bs) :
    Calls Tryz.prog 37 #[.agg #[dx, dy, iv, bv]] w fun e w' => ∃ v, e = .returned v ∧ ROwns w' w.heap.size 3 v (ic (hadL is bs)) ∧ Below w.heap.size w w' := by
  obtain ⟨a1, c1, a2, c2, a3, c3, a4, c4, rfl, rfl, rfl, rfl⟩ := h.form
  have HL : Hid (is.length = 8) := hX.r.hi
  have HH := hide h
  have HL0 : Hid (ROwns ((w.alloc (.cells #[.slice a1 xs.length c1, .slice a2 ys.length c2, .slice a3 is.length c3, .slice a4 bs.length c4] 35)).alloc (.cells #[] 3)) (w.heap.size + 1) 3 (.slice (some ⟨w.heap.size + 1, 0, none⟩) 0 0) (ic []) ∧ Below w.heap.size w ((w.alloc (.cells #[.slice a1 xs.length c1, .slice a2 ys.length c2, .slice a3 is.length c3, .slice a4 bs.length c4] 35)).alloc (.cells #[] 3)) ∧ AtC ((w.alloc (.cells #[.slice a1 xs.length c1, .slice a2 ys.length c2, .slice a3 is.length c3, .slice a4 bs.length c4] 35)).alloc (.cells #[] 3)) w.heap.size 35 #[.slice a1 xs.length c1, .slice a2 ys.length c2, .slice a3 is.length c3, .slice a4 bs.length c4] ∧ ((w.alloc (.cells #[.slice a1 xs.length c1, .slice a2 ys.length c2, .slice a3 is.length c3, .slice a4 bs.length c4] 35)).alloc (.cells #[] 3)).heap.size = w.heap.size + 2) := by
    have l0 := ROwns.lit0 (w.alloc (.cells #[.slice a1 xs.length c1, .slice a2 ys.length c2, .slice a3 is.length c3, .slice a4 bs.length c4] 35)) (w.heap.size + 1) 3 (by simp)
    have e0 : (w.alloc (.cells #[.slice a1 xs.length c1, .slice a2 ys.length c2, .slice a3 is.length c3, .slice a4 bs.length c4] 35)).heap.size = w.heap.size + 1 := by simp
    rw [e0] at l0
    exact ⟨l0, ((Below.refl _ w).alloc (Nat.le_refl _) _).alloc (by simp) _, (AtC.new w 35 _).alloc _, by simp⟩
  have CR := hide (specReach_any (.slice a1 xs.length c1) (.slice a2 ys.length c2) (.slice a3 is.length c3) (.slice a4 bs.length c4) xs ys is bs ((w.alloc (.cells #[.slice a1 xs.length c1, .slice a2 ys.length c2, .slice a3 is.length c3, .slice a4 bs.length c4] 35)).alloc (.cells #[] 3)) (h.below HL0.out.2.1 (Nat.le_refl _)) hX.r)
  have z0 : ((w.alloc (.cells #[.slice a1 xs.length c1, .slice a2 ys.length c2, .slice a3 is.length c3, .slice a4 bs.length c4] 35)).alloc (.cells #[] 3)).cell? ⟨w.heap.size, 0, none⟩ = some (.slice a1 xs.length c1) := HL0.out.2.2.1.cell 0
  have z1 : ((w.alloc (.cells #[.slice a1 xs.length c1, .slice a2 ys.length c2, .slice a3 is.length c3, .slice a4 bs.length c4] 35)).alloc (.cells #[] 3)).cell? ⟨w.heap.size, 1, none⟩ = some (.slice a2 ys.length c2) := HL0.out.2.2.1.cell 1
  have z2 : ((w.alloc (.cells #[.slice a1 xs.length c1, .slice a2 ys.length c2, .slice a3 is.length c3, .slice a4 bs.length c4] 35)).alloc (.cells #[] 3)).cell? ⟨w.heap.size, 2, none⟩ = some (.slice a3 is.length c3) := HL0.out.2.2.1.cell 2
  have z3 : ((w.alloc (.cells #[.slice a1 xs.length c1, .slice a2 ys.length c2, .slice a3 is.length c3, .slice a4 bs.length c4] 35)).alloc (.cells #[] 3)).cell? ⟨w.heap.size, 3, none⟩ = some (.slice a4 bs.length c4) := HL0.out.2.2.1.cell 3
  have HRG : Hid (∀ i ∈ reachL is bs, 1 ≤ i ∧ i ≤ 8) := fun i hi => reach8 hi
  have HR8 := hide (reachL_len is bs)
  have HCU : Hid (∀ l, ((ptrL is l).map (·.2)).length ≤ l.length * 2) := curP_len hX.r
  have HP2 : Hid (∀ i, (ptrsAt is i).length ≤ 2) := ptrsAt_len hX.r
  have HPR : Hid (∀ i, ∀ p ∈ ptrsAt is i, 0 ≤ p ∧ p ≤ 16) := fun i p hp => hX.ptr hp
  have HFIN : Hid (hadL is bs = (ptrL is (reachL is bs)).map (·.2)) := rfl
  rw [HFIN.out]
  obtain ⟨RL, hRL⟩ : ∃ l, reachL is bs = l := ⟨_, rfl⟩
  rw [hRL] at CR HRG HR8 ⊢
  clear h hX hRL HFIN
  go_enter Tryz.func37, Tryz.ntmps37
  go_wp2_with fail
  refine CR.out.mono ?_
  rintro e w1 ⟨rv, rfl, R1, B1⟩
  have HB1 : Hid (Below w.heap.size w w1 ∧ AtC w1 w.heap.size 35 #[.slice a1 xs.length c1, .slice a2 ys.length c2, .slice a3 is.length c3, .slice a4 bs.length c4] ∧ w.heap.size + 2 ≤ w1.heap.size) := ⟨HL0.out.2.1.trans (B1.mono HL0.out.2.1.size), HL0.out.2.2.1.over B1, by have := B1.size; have := HL0.out.2.2.2; omega⟩
  have HO0 : Hid (Ho w w1 w1 (.slice (some ⟨w.heap.size + 1, 0, none⟩) 0 0) ((ptrL is (RL.take 0)).map (·.2))) := ⟨by simpa [ptrL] using HL0.out.1.below B1 (Nat.le_refl _), Chg.refl _ _, fun k hk => by simp [Value.ownBlock] at hk; exact .inl hk.symm⟩
  obtain ⟨ra, rc, rfl, -⟩ := R1.form
  rw [ic_length] at R1 ⊢
  have HCR : Hid (∀ wr sv cur, Ho w w1 wr sv cur → RInts wr (.slice ra RL.length rc) RL) := fun wr sv cur hh => (R1.of_heap fun k hk => hh.c.block k (R1.lt k hk).2 (fun e => by have h1 := (R1.lt k hk).1; rw [HL0.out.2.2.2] at h1; omega)).rints
  have HOB : Hid (∀ wr sv cur, Ho w w1 wr sv cur → Below w.heap.size w wr ∧ AtC wr w.heap.size 35 #[.slice a1 xs.length c1, .slice a2 ys.length c2, .slice a3 is.length c3, .slice a4 bs.length c4]) := fun wr sv cur hh => ⟨HB1.out.1.trans (hh.c.below HB1.out.1.size (fun k hk => by rw [hk]; omega)), (hh.c.block _ HB1.out.2.1.lt (fun e => by omega)).trans HB1.out.2.1⟩
  have r8 : RL.length ≤ 8 := HR8.out
  clear R1 B1 CR HL0 z0 z1 z2 z3
  go_wp2_with fail
  go_loopw [3, 5] (fun sv kv wr => ∃ (s' : Value) (q : Nat), s' = sv ∧ q ≤ RL.length ∧ kv = .int .i64 q ∧ Hid (Ho w w1 wr s' ((ptrL is (RL.take q)).map (·.2)))) (fun _ kv _ => RL.length - (intOf kv).toNat)
  case atStart => exact ⟨_, 0, rfl, Nat.zero_le _, rfl, HO0.out⟩
  case round =>
    obtain ⟨sv, q, hsv, hq, rfl, HQ⟩ := hrel
    subst hsv
    clear HO0
    obtain ⟨wo, hwo⟩ : ∃ W, W = wr := ⟨_, rfl⟩
    subst hwo
    have q0 : (0 : Int) ≤ (q : Int) := by omega
    by_cases hlt : q < RL.length
    rotate_left
    · have q1 : ¬ ((q : Int) < (RL.length : Int)) := by omega
      go_wp2
      go_ret
      have := HQ.out.o
      rw [List.take_of_length_le (by omega)] at this
      exact ⟨_, rfl, this.base_le (by omega), (HOB.out _ _ _ HQ.out).1⟩
    have q1 : (q : Int) < (RL.length : Int) := by omega
    obtain ⟨ca, cc, ec, hcr⟩ := HCR.out _ _ _ HQ.out
    simp only [Value.slice.injEq, true_and] at ec
    obtain ⟨rfl, rfl⟩ := ec
    obtain ⟨gr, orr, rfl, hgr, kr⟩ := hcr q hlt
    have hrg := HRG.out _ (List.getElem_mem hlt)
    have HSN := hide (ptrL_take is RL q hlt)
    have hcu := HCU.out (RL.take q)
    rw [List.length_take] at hcu
    obtain ⟨di, hdi⟩ : ∃ x, RL[q] = x := ⟨_, rfl⟩
    rw [hdi] at HSN
    rw [hdi] at kr hrg
    obtain ⟨j, rfl⟩ : ∃ j : Nat, di = (j : Int) + 1 := ⟨(di - 1).toNat, by omega⟩
    have hj8 : j < 8 := by omega
    have hj : j < is.length := by have := HL.out; omega
    have j0 : (0 : Int) ≤ (j : Int) := by omega
    have j1 : (j : Int) < (is.length : Int) := by omega
    have hwj : IntKind.i64.wrap (j : Int) = (j : Int) := wrap_small _ (by omega) (by omega)
    obtain ⟨g2, o2, sa, sc, rfl, hg2, y0, y1, y2, rr⟩ := DR.ino HH.out j hj
    have hp2 := HP2.out ((j : Int) + 1)
    have HPN := hide (HPR.out ((j : Int) + 1))
    unfold ptrI at HSN
    obtain ⟨ps, hps⟩ : ∃ X, ptrsAt is ((j : Int) + 1) = X := ⟨_, rfl⟩
    rw [hps] at y2 rr hp2 HSN HPN
    obtain ⟨pa, pc', pe, hcp⟩ := rr
    simp only [Value.slice.injEq, true_and] at pe
    obtain ⟨rfl, rfl⟩ := pe
    have HCP := hide hcp
    obtain ⟨kd, hkd⟩ : ∃ k, kindAt is ((j : Int) + 1) = k := ⟨_, rfl⟩
    obtain ⟨ln, hln⟩ : ∃ k, is[j].2.1 = k := ⟨_, rfl⟩
    rw [hkd] at y0
    rw [hln] at y1
    have HOW := hide (HOB.out _ _ _ HQ.out)
    have HW : Hid (∀ W, Below wo.heap.size wo W → AtC W w.heap.size 35 #[.slice a1 xs.length c1, .slice a2 ys.length c2, .slice (some ⟨g2, o2, none⟩) is.length c3, .slice a4 bs.length c4] ∧ W.cell? ⟨gr, orr + q, none⟩ = some (.int .i64 ((j : Int) + 1)) ∧ (W.cell? ⟨g2, o2 + j * 3, none⟩ = some (.int .i64 kd) ∧ W.cell? ⟨g2, o2 + j * 3 + 1, none⟩ = some (.int .i64 ln) ∧ W.cell? ⟨g2, o2 + j * 3 + 2, none⟩ = some (.slice sa ps.length sc))) := fun W b => by
      have b0 := HOW.out.1.trans (b.mono HOW.out.1.size)
      exact ⟨HOW.out.2.over b, (b.cell (p := ⟨gr, orr + q, none⟩) hgr).trans kr, ⟨(b0.cell (p := ⟨g2, o2 + j * 3, none⟩) hg2).trans y0, (b0.cell (p := ⟨g2, o2 + j * 3 + 1, none⟩) hg2).trans y1, (b0.cell (p := ⟨g2, o2 + j * 3 + 2, none⟩) hg2).trans y2⟩⟩
    obtain ⟨c0, hc0⟩ : ∃ c, (ptrL is (RL.take q)).map (·.2) = c := ⟨_, rfl⟩
    have HC1 : Hid ((ptrL is (RL.take (q + 1))).map (·.2) = c0 ++ (ptrT ((j : Int) + 1) ps).map (·.2)) := hide (by rw [HSN.out, List.map_append, hc0]; rfl)
    rw [hc0] at HQ hcu
    clear hdi kr y0 y1 y2 hkd hln hps hcp hc0 hcr HSN
    go_upto_region 6 with fail
    go_cut [6] from 11 to 46 (fun pv wx => ∃ xb : Nat, pv = .pointer (some ⟨xb, 0, none⟩) ∧ AtC wx xb 44 #[.int .i64 kd, .int .i64 ln, .slice sa ps.length sc] ∧ Below wo.heap.size wo wx ∧ wo.heap.size ≤ xb)
    case first =>
      refine wp_region_alt (by kernel_rfl) [0, 1, 2, 3, 4, 5, 6, 7, 8, 9] [10] [] (fun i => match i with | 0 => .const [] (.pointer (some ⟨w.heap.size, 2, none⟩)) | 1 => .const [0] (.slice (some ⟨g2, o2, none⟩) is.length c3) | 2 => .const [] (.slice (some ⟨gr, orr, none⟩) RL.length rc) | 3 => .const [] (.int .i64 (q : Int)) | 4 => .const [2, 3] (.pointer (some ⟨gr, orr + q, none⟩)) | 5 => .const [4] (.int .i64 ((j : Int) + 1)) | 6 => .const [5] (.int .i64 (j : Int)) | 7 => .const [1, 6] (.pointer (some ⟨g2, o2 + j * 3, none⟩)) | 8 => .const [7] (.agg #[.int .i64 kd, .int .i64 ln, .slice sa ps.length sc]) | 9 => MkW 44 #[.int .i64 0, .int .i64 0, .slice none 0 0] | _ => .triv) (fun x => ⟨#[Value.agg #[Value.slice a1 xs.length c1, Value.slice a2 ys.length c2, Value.slice (some { block := g2, off := o2 }) is.length c3, Value.slice a4 bs.length c4], Value.pointer (some { block := w.heap.size, off := 0 }), Value.slice none 0 0, sv, Value.slice (some { block := gr, off := orr }) RL.length rc, Value.int IntKind.i64 ↑q, x 9, u7, Value.slice (some { block := w.heap.size + 1, off := 0 }) 0 0, Value.agg #[Value.slice a1 xs.length c1, Value.slice a2 ys.length c2, Value.slice (some { block := g2, off := o2 }) is.length c3, Value.slice a4 bs.length c4], Value.slice (some { block := gr, off := orr }) RL.length rc, Value.int IntKind.i64 ↑q, Value.slice (some { block := gr, off := orr }) RL.length rc, Value.int IntKind.i64 ↑RL.length, Value.bool true, u15, u16, x 0, x 1, x 2, x 3, x 4, x 5, x 6, x 7, x 8, u26, u27, u28, u29, u30, u31, u32, u33, u34, u35, u36, u37, u38, u39, u40, u41, u42, u43, u44, u45, u46, undef], []⟩) (fun i => match i with | 0 => u17 | 1 => u18 | 2 => u19 | 3 => u20 | 4 => u21 | 5 => u22 | 6 => u23 | 7 => u24 | 8 => u25 | 9 => u6 | _ => undef) rfl (makersOk2_of (by kernel_rfl) (by kernel_rfl)) (by kernel_rfl) (by kernel_rfl) (by kernel_rfl) rfl ?_ ?_ (by intro q hq; cases hq)
      · intro jo hj so x iw W hd hp K hK
        simp only [List.mem_cons, List.not_mem_nil, or_false] at hj
        rcases hj with rfl | rfl | rfl | rfl | rfl | rfl | rfl | rfl | rfl | rfl
        · refine wpOp_step (o := _) rfl fun K' hK' => ?_
          have HK : Hid (∀ v W', Below W.heap.size W W' → ((Mk.const [] (.pointer (some ⟨w.heap.size, 2, none⟩)) : Mk)).P W.heap.size W'.heap.size W' v (upd x 0 v) → K' ⟨#[Value.agg #[Value.slice a1 xs.length c1, Value.slice a2 ys.length c2, Value.slice (some { block := g2, off := o2 }) is.length c3, Value.slice a4 bs.length c4], Value.pointer (some { block := w.heap.size, off := 0 }), Value.slice none 0 0, sv, Value.slice (some { block := gr, off := orr }) RL.length rc, Value.int IntKind.i64 ↑q, x 9, u7, Value.slice (some { block := w.heap.size + 1, off := 0 }) 0 0, Value.agg #[Value.slice a1 xs.length c1, Value.slice a2 ys.length c2, Value.slice (some { block := g2, off := o2 }) is.length c3, Value.slice a4 bs.length c4], Value.slice (some { block := gr, off := orr }) RL.length rc, Value.int IntKind.i64 ↑q, Value.slice (some { block := gr, off := orr }) RL.length rc, Value.int IntKind.i64 ↑RL.length, Value.bool true, u15, u16, v, x 1, x 2, x 3, x 4, x 5, x 6, x 7, x 8, u26, u27, u28, u29, u30, u31, u32, u33, u34, u35, u36, u37, u38, u39, u40, u41, u42, u43, u44, u45, u46, undef], []⟩ W') := fun v W' h1 h2 => hK' _ _ (hK v W' h1 h2)
          clear hK hK' hp hd
          go_simp
          exact HK.out _ _ (Below.refl _ _) rfl
        · refine wpOp_step (o := _) rfl fun K' hK' => ?_
          have HK : Hid (∀ v W', Below W.heap.size W W' → ((Mk.const [0] (.slice (some ⟨g2, o2, none⟩) is.length c3) : Mk)).P W.heap.size W'.heap.size W' v (upd x 1 v) → K' ⟨#[Value.agg #[Value.slice a1 xs.length c1, Value.slice a2 ys.length c2, Value.slice (some { block := g2, off := o2 }) is.length c3, Value.slice a4 bs.length c4], Value.pointer (some { block := w.heap.size, off := 0 }), Value.slice none 0 0, sv, Value.slice (some { block := gr, off := orr }) RL.length rc, Value.int IntKind.i64 ↑q, x 9, u7, Value.slice (some { block := w.heap.size + 1, off := 0 }) 0 0, Value.agg #[Value.slice a1 xs.length c1, Value.slice a2 ys.length c2, Value.slice (some { block := g2, off := o2 }) is.length c3, Value.slice a4 bs.length c4], Value.slice (some { block := gr, off := orr }) RL.length rc, Value.int IntKind.i64 ↑q, Value.slice (some { block := gr, off := orr }) RL.length rc, Value.int IntKind.i64 ↑RL.length, Value.bool true, u15, u16, x 0, v, x 2, x 3, x 4, x 5, x 6, x 7, x 8, u26, u27, u28, u29, u30, u31, u32, u33, u34, u35, u36, u37, u38, u39, u40, u41, u42, u43, u44, u45, u46, undef], []⟩ W') := fun v W' h1 h2 => hK' _ _ (hK v W' h1 h2)
          have e0 : x 0 = .pointer (some ⟨w.heap.size, 2, none⟩) := hp.post 0 (hd 0 (show 0 ∈ [0] from by decide))
          have bw := HW.out W (of_drew hp.bel)
          have k0 : W.cell? ⟨w.heap.size, 2, none⟩ = some (.slice (some ⟨g2, o2, none⟩) is.length c3) := bw.1.cell 2
          clear bw
          clear hK hK' hp hd
          simp only [e0] at HK ⊢
          go_simp
          exact HK.out _ _ (Below.refl _ _) rfl
        · refine wpOp_step (o := _) rfl fun K' hK' => ?_
          have HK : Hid (∀ v W', Below W.heap.size W W' → ((Mk.const [] (.slice (some ⟨gr, orr, none⟩) RL.length rc) : Mk)).P W.heap.size W'.heap.size W' v (upd x 2 v) → K' ⟨#[Value.agg #[Value.slice a1 xs.length c1, Value.slice a2 ys.length c2, Value.slice (some { block := g2, off := o2 }) is.length c3, Value.slice a4 bs.length c4], Value.pointer (some { block := w.heap.size, off := 0 }), Value.slice none 0 0, sv, Value.slice (some { block := gr, off := orr }) RL.length rc, Value.int IntKind.i64 ↑q, x 9, u7, Value.slice (some { block := w.heap.size + 1, off := 0 }) 0 0, Value.agg #[Value.slice a1 xs.length c1, Value.slice a2 ys.length c2, Value.slice (some { block := g2, off := o2 }) is.length c3, Value.slice a4 bs.length c4], Value.slice (some { block := gr, off := orr }) RL.length rc, Value.int IntKind.i64 ↑q, Value.slice (some { block := gr, off := orr }) RL.length rc, Value.int IntKind.i64 ↑RL.length, Value.bool true, u15, u16, x 0, x 1, v, x 3, x 4, x 5, x 6, x 7, x 8, u26, u27, u28, u29, u30, u31, u32, u33, u34, u35, u36, u37, u38, u39, u40, u41, u42, u43, u44, u45, u46, undef], []⟩ W') := fun v W' h1 h2 => hK' _ _ (hK v W' h1 h2)
          clear hK hK' hp hd
          go_simp
          exact HK.out _ _ (Below.refl _ _) rfl
        · refine wpOp_step (o := _) rfl fun K' hK' => ?_
          have HK : Hid (∀ v W', Below W.heap.size W W' → ((Mk.const [] (.int .i64 (q : Int)) : Mk)).P W.heap.size W'.heap.size W' v (upd x 3 v) → K' ⟨#[Value.agg #[Value.slice a1 xs.length c1, Value.slice a2 ys.length c2, Value.slice (some { block := g2, off := o2 }) is.length c3, Value.slice a4 bs.length c4], Value.pointer (some { block := w.heap.size, off := 0 }), Value.slice none 0 0, sv, Value.slice (some { block := gr, off := orr }) RL.length rc, Value.int IntKind.i64 ↑q, x 9, u7, Value.slice (some { block := w.heap.size + 1, off := 0 }) 0 0, Value.agg #[Value.slice a1 xs.length c1, Value.slice a2 ys.length c2, Value.slice (some { block := g2, off := o2 }) is.length c3, Value.slice a4 bs.length c4], Value.slice (some { block := gr, off := orr }) RL.length rc, Value.int IntKind.i64 ↑q, Value.slice (some { block := gr, off := orr }) RL.length rc, Value.int IntKind.i64 ↑RL.length, Value.bool true, u15, u16, x 0, x 1, x 2, v, x 4, x 5, x 6, x 7, x 8, u26, u27, u28, u29, u30, u31, u32, u33, u34, u35, u36, u37, u38, u39, u40, u41, u42, u43, u44, u45, u46, undef], []⟩ W') := fun v W' h1 h2 => hK' _ _ (hK v W' h1 h2)
          clear hK hK' hp hd
          go_simp
          exact HK.out _ _ (Below.refl _ _) rfl
        · refine wpOp_step (o := _) rfl fun K' hK' => ?_
          have HK : Hid (∀ v W', Below W.heap.size W W' → ((Mk.const [2, 3] (.pointer (some ⟨gr, orr + q, none⟩)) : Mk)).P W.heap.size W'.heap.size W' v (upd x 4 v) → K' ⟨#[Value.agg #[Value.slice a1 xs.length c1, Value.slice a2 ys.length c2, Value.slice (some { block := g2, off := o2 }) is.length c3, Value.slice a4 bs.length c4], Value.pointer (some { block := w.heap.size, off := 0 }), Value.slice none 0 0, sv, Value.slice (some { block := gr, off := orr }) RL.length rc, Value.int IntKind.i64 ↑q, x 9, u7, Value.slice (some { block := w.heap.size + 1, off := 0 }) 0 0, Value.agg #[Value.slice a1 xs.length c1, Value.slice a2 ys.length c2, Value.slice (some { block := g2, off := o2 }) is.length c3, Value.slice a4 bs.length c4], Value.slice (some { block := gr, off := orr }) RL.length rc, Value.int IntKind.i64 ↑q, Value.slice (some { block := gr, off := orr }) RL.length rc, Value.int IntKind.i64 ↑RL.length, Value.bool true, u15, u16, x 0, x 1, x 2, x 3, v, x 5, x 6, x 7, x 8, u26, u27, u28, u29, u30, u31, u32, u33, u34, u35, u36, u37, u38, u39, u40, u41, u42, u43, u44, u45, u46, undef], []⟩ W') := fun v W' h1 h2 => hK' _ _ (hK v W' h1 h2)
          have e2 : x 2 = .slice (some ⟨gr, orr, none⟩) RL.length rc := hp.post 2 (hd 2 (show 2 ∈ [2, 3] from by decide))
          have e3 : x 3 = .int .i64 (q : Int) := hp.post 3 (hd 3 (show 3 ∈ [2, 3] from by decide))
          clear hK hK' hp hd
          simp only [e2, e3] at HK ⊢
          go_simp
          exact HK.out _ _ (Below.refl _ _) rfl
        · refine wpOp_step (o := _) rfl fun K' hK' => ?_
          have HK : Hid (∀ v W', Below W.heap.size W W' → ((Mk.const [4] (.int .i64 ((j : Int) + 1)) : Mk)).P W.heap.size W'.heap.size W' v (upd x 5 v) → K' ⟨#[Value.agg #[Value.slice a1 xs.length c1, Value.slice a2 ys.length c2, Value.slice (some { block := g2, off := o2 }) is.length c3, Value.slice a4 bs.length c4], Value.pointer (some { block := w.heap.size, off := 0 }), Value.slice none 0 0, sv, Value.slice (some { block := gr, off := orr }) RL.length rc, Value.int IntKind.i64 ↑q, x 9, u7, Value.slice (some { block := w.heap.size + 1, off := 0 }) 0 0, Value.agg #[Value.slice a1 xs.length c1, Value.slice a2 ys.length c2, Value.slice (some { block := g2, off := o2 }) is.length c3, Value.slice a4 bs.length c4], Value.slice (some { block := gr, off := orr }) RL.length rc, Value.int IntKind.i64 ↑q, Value.slice (some { block := gr, off := orr }) RL.length rc, Value.int IntKind.i64 ↑RL.length, Value.bool true, u15, u16, x 0, x 1, x 2, x 3, x 4, v, x 6, x 7, x 8, u26, u27, u28, u29, u30, u31, u32, u33, u34, u35, u36, u37, u38, u39, u40, u41, u42, u43, u44, u45, u46, undef], []⟩ W') := fun v W' h1 h2 => hK' _ _ (hK v W' h1 h2)
          have e4 : x 4 = .pointer (some ⟨gr, orr + q, none⟩) := hp.post 4 (hd 4 (show 4 ∈ [4] from by decide))
          have bw := HW.out W (of_drew hp.bel)
          have k0 := bw.2.1
          clear bw
          clear hK hK' hp hd
          simp only [e4] at HK ⊢
          go_simp
          exact HK.out _ _ (Below.refl _ _) rfl
        · refine wpOp_step (o := _) rfl fun K' hK' => ?_
          have HK : Hid (∀ v W', Below W.heap.size W W' → ((Mk.const [5] (.int .i64 (j : Int)) : Mk)).P W.heap.size W'.heap.size W' v (upd x 6 v) → K' ⟨#[Value.agg #[Value.slice a1 xs.length c1, Value.slice a2 ys.length c2, Value.slice (some { block := g2, off := o2 }) is.length c3, Value.slice a4 bs.length c4], Value.pointer (some { block := w.heap.size, off := 0 }), Value.slice none 0 0, sv, Value.slice (some { block := gr, off := orr }) RL.length rc, Value.int IntKind.i64 ↑q, x 9, u7, Value.slice (some { block := w.heap.size + 1, off := 0 }) 0 0, Value.agg #[Value.slice a1 xs.length c1, Value.slice a2 ys.length c2, Value.slice (some { block := g2, off := o2 }) is.length c3, Value.slice a4 bs.length c4], Value.slice (some { block := gr, off := orr }) RL.length rc, Value.int IntKind.i64 ↑q, Value.slice (some { block := gr, off := orr }) RL.length rc, Value.int IntKind.i64 ↑RL.length, Value.bool true, u15, u16, x 0, x 1, x 2, x 3, x 4, x 5, v, x 7, x 8, u26, u27, u28, u29, u30, u31, u32, u33, u34, u35, u36, u37, u38, u39, u40, u41, u42, u43, u44, u45, u46, undef], []⟩ W') := fun v W' h1 h2 => hK' _ _ (hK v W' h1 h2)
          have e5 : x 5 = .int .i64 ((j : Int) + 1) := hp.post 5 (hd 5 (show 5 ∈ [5] from by decide))
          clear hK hK' hp hd
          simp only [e5] at HK ⊢
          go_simp
          exact HK.out _ _ (Below.refl _ _) rfl
        · refine wpOp_step (o := _) rfl fun K' hK' => ?_
          have HK : Hid (∀ v W', Below W.heap.size W W' → ((Mk.const [1, 6] (.pointer (some ⟨g2, o2 + j * 3, none⟩)) : Mk)).P W.heap.size W'.heap.size W' v (upd x 7 v) → K' ⟨#[Value.agg #[Value.slice a1 xs.length c1, Value.slice a2 ys.length c2, Value.slice (some { block := g2, off := o2 }) is.length c3, Value.slice a4 bs.length c4], Value.pointer (some { block := w.heap.size, off := 0 }), Value.slice none 0 0, sv, Value.slice (some { block := gr, off := orr }) RL.length rc, Value.int IntKind.i64 ↑q, x 9, u7, Value.slice (some { block := w.heap.size + 1, off := 0 }) 0 0, Value.agg #[Value.slice a1 xs.length c1, Value.slice a2 ys.length c2, Value.slice (some { block := g2, off := o2 }) is.length c3, Value.slice a4 bs.length c4], Value.slice (some { block := gr, off := orr }) RL.length rc, Value.int IntKind.i64 ↑q, Value.slice (some { block := gr, off := orr }) RL.length rc, Value.int IntKind.i64 ↑RL.length, Value.bool true, u15, u16, x 0, x 1, x 2, x 3, x 4, x 5, x 6, v, x 8, u26, u27, u28, u29, u30, u31, u32, u33, u34, u35, u36, u37, u38, u39, u40, u41, u42, u43, u44, u45, u46, undef], []⟩ W') := fun v W' h1 h2 => hK' _ _ (hK v W' h1 h2)
          have e1 : x 1 = .slice (some ⟨g2, o2, none⟩) is.length c3 := hp.post 1 (hd 1 (show 1 ∈ [1, 6] from by decide))
          have e6 : x 6 = .int .i64 (j : Int) := hp.post 6 (hd 6 (show 6 ∈ [1, 6] from by decide))
          clear hK hK' hp hd
          simp only [e1, e6] at HK ⊢
          go_simp
          exact HK.out _ _ (Below.refl _ _) rfl
        · refine wpOp_step (o := _) rfl fun K' hK' => ?_
          have HK : Hid (∀ v W', Below W.heap.size W W' → ((Mk.const [7] (.agg #[.int .i64 kd, .int .i64 ln, .slice sa ps.length sc]) : Mk)).P W.heap.size W'.heap.size W' v (upd x 8 v) → K' ⟨#[Value.agg #[Value.slice a1 xs.length c1, Value.slice a2 ys.length c2, Value.slice (some { block := g2, off := o2 }) is.length c3, Value.slice a4 bs.length c4], Value.pointer (some { block := w.heap.size, off := 0 }), Value.slice none 0 0, sv, Value.slice (some { block := gr, off := orr }) RL.length rc, Value.int IntKind.i64 ↑q, x 9, u7, Value.slice (some { block := w.heap.size + 1, off := 0 }) 0 0, Value.agg #[Value.slice a1 xs.length c1, Value.slice a2 ys.length c2, Value.slice (some { block := g2, off := o2 }) is.length c3, Value.slice a4 bs.length c4], Value.slice (some { block := gr, off := orr }) RL.length rc, Value.int IntKind.i64 ↑q, Value.slice (some { block := gr, off := orr }) RL.length rc, Value.int IntKind.i64 ↑RL.length, Value.bool true, u15, u16, x 0, x 1, x 2, x 3, x 4, x 5, x 6, x 7, v, u26, u27, u28, u29, u30, u31, u32, u33, u34, u35, u36, u37, u38, u39, u40, u41, u42, u43, u44, u45, u46, undef], []⟩ W') := fun v W' h1 h2 => hK' _ _ (hK v W' h1 h2)
          have e7 : x 7 = .pointer (some ⟨g2, o2 + j * 3, none⟩) := hp.post 7 (hd 7 (show 7 ∈ [7] from by decide))
          have bw := HW.out W (of_drew hp.bel)
          obtain ⟨k0, k1, k2⟩ := bw.2.2
          clear bw
          clear hK hK' hp hd
          simp only [e7] at HK ⊢
          go_simp
          exact HK.out _ _ (Below.refl _ _) rfl
        · refine wpOp_step (o := _) rfl fun K' hK' => ?_
          have HK : Hid (∀ v W', Below W.heap.size W W' → (MkW 44 #[.int .i64 0, .int .i64 0, .slice none 0 0]).P W.heap.size W'.heap.size W' v (upd x 9 v) → K' ⟨#[Value.agg #[Value.slice a1 xs.length c1, Value.slice a2 ys.length c2, Value.slice (some { block := g2, off := o2 }) is.length c3, Value.slice a4 bs.length c4], Value.pointer (some { block := w.heap.size, off := 0 }), Value.slice none 0 0, sv, Value.slice (some { block := gr, off := orr }) RL.length rc, Value.int IntKind.i64 ↑q, v, u7, Value.slice (some { block := w.heap.size + 1, off := 0 }) 0 0, Value.agg #[Value.slice a1 xs.length c1, Value.slice a2 ys.length c2, Value.slice (some { block := g2, off := o2 }) is.length c3, Value.slice a4 bs.length c4], Value.slice (some { block := gr, off := orr }) RL.length rc, Value.int IntKind.i64 ↑q, Value.slice (some { block := gr, off := orr }) RL.length rc, Value.int IntKind.i64 ↑RL.length, Value.bool true, u15, u16, x 0, x 1, x 2, x 3, x 4, x 5, x 6, x 7, x 8, u26, u27, u28, u29, u30, u31, u32, u33, u34, u35, u36, u37, u38, u39, u40, u41, u42, u43, u44, u45, u46, undef], []⟩ W') := fun v W' h1 h2 => hK' _ _ (hK v W' h1 h2)
          clear hK hK' hp hd
          go_simp
          exact HK.out _ _ ((Below.refl _ W).alloc (Nat.le_refl _) _) ⟨rfl, by simp, AtC.new W 44 _⟩
      · intro x iw W hp
        have e8 : x 8 = .agg #[.int .i64 kd, .int .i64 ln, .slice sa ps.length sc] := hp.post 8 (by decide)
        obtain ⟨e9, z9, A9⟩ := hp.post 9 (by decide)
        have l9 := hp.lo 9 (by decide)
        have bel := of_drew hp.bel
        have hb9 : wo.heap.size ≤ (iw 9).1 := l9.1
        have y0 : W.cell? ⟨(iw 9).1, 0, none⟩ = some (.int .i64 0) := A9.cell 0
        have y1 : W.cell? ⟨(iw 9).1, 1, none⟩ = some (.int .i64 0) := A9.cell 1
        have y2 : W.cell? ⟨(iw 9).1, 2, none⟩ = some (.slice none 0 0) := A9.cell 2
        have f0 := A9.frozen 0
        have f1 := A9.frozen 1
        have f2 := A9.frozen 2
        have HFI : Hid (AtC W (iw 9).1 44 #[.int .i64 0, .int .i64 0, .slice none 0 0] ∧ Below wo.heap.size wo W ∧ wo.heap.size ≤ (iw 9).1) := ⟨A9, bel, hb9⟩
        clear hp A9 bel l9 z9 hb9
        simp only [e8, e9] at *
        generalize (iw 9).1 = bw at *
        go_wp2_with fail
        try rw [List.filterMap_nil]
        try go_wp2_with fail
        go_meet
        exact ⟨bw, rfl, ((HFI.out.1.set 0 _).set 1 _).set 2 _, ((HFI.out.2.1.setCell (p := ⟨bw, 0, none⟩) HFI.out.2.2 _).setCell (p := ⟨bw, 1, none⟩) HFI.out.2.2 _).setCell (p := ⟨bw, 2, none⟩) HFI.out.2.2 _, HFI.out.2.2⟩
    case rest =>
      obtain ⟨xb, rfl, hAx, hB2, hxb⟩ := hcut
      have HX2 : Hid (Ho w w1 wc sv (c0 ++ (ptrT ((j : Int) + 1) (ps.take 0)).map (·.2)) ∧ AtC wc xb 44 #[.int .i64 kd, .int .i64 ln, .slice sa ps.length sc] ∧ (∀ k, sv.ownBlock = some k → k ≠ xb)) := ⟨by have := HQ.out.below hB2; simpa [ptrT] using this, hAx, fun k hk e => by have := (HQ.out.o.lt k hk).2; omega⟩
      clear hAx hB2 hxb HW HQ HOW
      go_wp2_with fail
      go_loopw [3, 7] (fun sv kv wr => ∃ (s' : Value) (t : Nat), s' = sv ∧ t ≤ ps.length ∧ kv = .int .i64 t ∧ Hid (Ho w w1 wr s' (c0 ++ (ptrT ((j : Int) + 1) (ps.take t)).map (·.2)) ∧ AtC wr xb 44 #[.int .i64 kd, .int .i64 ln, .slice sa ps.length sc] ∧ (∀ k, s'.ownBlock = some k → k ≠ xb))) (fun _ kv _ => ps.length - (intOf kv).toNat)
      case atStart => exact ⟨_, 0, rfl, Nat.zero_le _, rfl, HX2.out⟩
      case round =>
        obtain ⟨sv', t, hsv, ht, rfl, HT⟩ := hrel
        subst hsv
        clear HX2
        have t0 : (0 : Int) ≤ (t : Int) := by omega
        have x7 : wr.cell? ⟨xb, 2, none⟩ = some (.slice sa ps.length sc) := HT.out.2.1.cell 2
        by_cases htl : t < ps.length
        rotate_left
        · have t1 : ¬ ((t : Int) < (ps.length : Int)) := by omega
          have HE : Hid (Ho w w1 wr sv' ((ptrL is (RL.take (q + 1))).map (·.2))) := by
            have := HT.out.1
            rw [List.take_of_length_le (show ps.length ≤ t by omega)] at this
            show Ho _ _ _ _ _
            rw [HC1.out]
            exact this
          go_wp2
          go_roundw
          case rel => exact ⟨sv', q + 1, rfl, by omega, by go_num, HE.out⟩
          case measure => simp [intOf]; omega
        have t1 : (t : Int) < (ps.length : Int) := by omega
        obtain ⟨gp, op, rfl, hgp, kp⟩ := HCP.out t htl
        replace kp := ((HOB.out _ _ _ HT.out.1).1.cell (p := ⟨gp, op + t, none⟩) hgp).trans kp
        have HTT := hide (ptrT_take ((j : Int) + 1) ps t htl)
        have htn := ptrT_len ((j : Int) + 1) (ps.take t)
        rw [List.length_take] at htn
        have hpr := HPN.out _ (List.getElem_mem htl)
        obtain ⟨Pn, hPn⟩ : ∃ x, ps[t] = x := ⟨_, rfl⟩
        rw [hPn] at kp HTT hpr
        clear hPn
        by_cases hp0 : 0 < Pn
        rotate_left
        · have HF : Hid (ptrT ((j : Int) + 1) (ps.take (t + 1)) = ptrT ((j : Int) + 1) (ps.take t)) := hide (by
            have := HTT.out
            have e : inB Pn 1 16 = false := by simp [inB]; omega
            rw [e] at this
            simpa using this)
          have hg : decide (Pn > 0) = false := decide_eq_false hp0
          go_wp2
          go_roundw
          case rel => exact ⟨sv', t + 1, rfl, by omega, by go_num, by rw [HF.out]; exact HT.out⟩
          case measure => simp [intOf]; omega
        have HF : Hid (ic (c0 ++ (ptrT ((j : Int) + 1) (ps.take t)).map (·.2)) ++ [.int .i64 Pn] = ic (c0 ++ (ptrT ((j : Int) + 1) (ps.take (t + 1))).map (·.2))) := hide (by
          have := HTT.out
          have e : inB Pn 1 16 = true := by simp [inB]; omega
          rw [e, if_pos rfl] at this
          rw [this]
          simp [ic])
        have HAL : Hid (Ho w w1 (wr.alloc (.cells #[.int .i64 Pn] 3)) sv' (c0 ++ (ptrT ((j : Int) + 1) (ps.take t)).map (·.2)) ∧ AtC (wr.alloc (.cells #[.int .i64 Pn] 3)) xb 44 #[.int .i64 kd, .int .i64 ln, .slice (some ⟨gp, op, none⟩) ps.length sc] ∧ (wr.alloc (.cells #[.int .i64 Pn] 3)).cell? ⟨wr.heap.size, 0, none⟩ = some (.int .i64 Pn) ∧ w.heap.size + 1 ≤ (wr.alloc (.cells #[.int .i64 Pn] 3)).heap.size) := ⟨HT.out.1.below ((Below.refl _ wr).alloc (Nat.le_refl _) _), HT.out.2.1.alloc _, (AtC.new wr 3 #[.int .i64 Pn]).cell 0, by have := HT.out.1.c.size; have := HB1.out.2.2; simp; omega⟩
        have HTL : Hid ((ic (c0 ++ (ptrT ((j : Int) + 1) (ps.take t)).map (·.2))).length ≤ 100000000000) := by show _ ≤ _; rw [ic_length, List.length_append, List.length_map]; omega
        have HXB := hide (And.intro HT.out.2.2 HT.out.2.1.lt)
        clear HT HTT
        go_wp2_with (at_builtin; refine wpList_step fun K' hK' => ?_; refine step_append_one _ rfl (.tmp 39) (.tmp 45) 42 rfl (w.heap.size + 1) 3 Tryz.u42 _ 8 Tryz.i3 rfl (by decide) sv' _ rfl HAL.out.1.o HAL.out.2.2.2 wr.heap.size (.int .i64 Pn) rfl HAL.out.2.2.1 rfl HTL.out ?_; intro v9 w9 T9 G9 V9; refine hK' _ _ ?_; rw [HF.out] at T9; have HR9 := hide (And.intro (HAL.out.1.app T9 G9 V9) (And.intro (HAL.out.2.1.grown G9 (fun e => HXB.out.1 _ e rfl)) (fun k (hk : v9.ownBlock = some k) => (V9 k hk).elim (HXB.out.1 k) (fun e => by have := HXB.out.2; simp at e; omega)))); clear T9 G9 V9 hK')
        go_roundw
        case rel => exact ⟨v9, t + 1, rfl, by omega, by go_num, HR9.out⟩
        case measure => simp [intOf]; omega
end Go.Proofs.YtljooldjcefkoaaGreat
/- What is exact, as a plain function. No Go function is spoken of. -/
namespace Go.Proofs.YtljooldjcefkoaaGreat
open Go.RowKit Kit
/-- What is asked of an inode. -/
def inoS (ys : List Bool) (is : List Ino) (bs : List Blk) (j : Nat) : Bool := decide (((reachL is bs).contains ((j : Int) + 1) = true ∨ kindAt is ((j : Int) + 1) = 0) ∧ ys.getD j false = (reachL is bs).contains ((j : Int) + 1) ∧ (j = 0 → lnkAt is j = 1 ∧ linksN is bs ((j : Int) + 1) = 0) ∧ (¬ j = 0 → ((reachL is bs).contains ((j : Int) + 1) = true → lnkAt is j = (linksN is bs ((j : Int) + 1) : Int)) ∧ (kindAt is ((j : Int) + 1) = 2 → linksN is bs ((j : Int) + 1) = 1)))
def bitS (xs : List Bool) (is : List Ino) (bs : List Blk) (p : Nat) : Bool := decide (xs.getD p false = (hadL is bs).contains ((p : Int) + 1))
def exactS (xs ys : List Bool) (is : List Ino) (bs : List Blk) : Bool := (List.range 8).all (inoS ys is bs) && (List.range 16).all (bitS xs is bs)
def exactB (xs ys : List Bool) (is : List Ino) (bs : List Blk) : Bool := safeB xs ys is bs && exactS xs ys is bs
theorem exactS_ino {xs ys : List Bool} {is : List Ino} {bs : List Blk} {j : Nat} (hj : j < 8) (h : inoS ys is bs j = false) : exactS xs ys is bs = false := by
  unfold exactS
  have : (List.range 8).all (inoS ys is bs) = false := by
    rw [List.all_eq_false]
    exact ⟨j, List.mem_range.2 hj, by rw [h]; decide⟩
  rw [this]
  rfl
theorem exactS_bit {xs ys : List Bool} {is : List Ino} {bs : List Blk} {p : Nat} (hp : p < 16) (h : bitS xs is bs p = false) : exactS xs ys is bs = false := by
  unfold exactS
  have : (List.range 16).all (bitS xs is bs) = false := by
    rw [List.all_eq_false]
    exact ⟨p, List.mem_range.2 hp, by rw [h]; decide⟩
  rw [this, Bool.and_false]
theorem exactS_yes {xs ys : List Bool} {is : List Ino} {bs : List Blk} (h1 : ∀ j, j < 8 → inoS ys is bs j = true) (h2 : ∀ p, p < 16 → bitS xs is bs p = true) : exactS xs ys is bs = true := by
  unfold exactS
  rw [Bool.and_eq_true, List.all_eq_true, List.all_eq_true]
  exact ⟨fun j hj => h1 j (List.mem_range.1 hj), fun p hp => h2 p (List.mem_range.1 hp)⟩
end Go.Proofs.YtljooldjcefkoaaGreat
/- Of the specification: ExactDisk by its contract. -/
namespace Go.Proofs.YtljooldjcefkoaaGreat
open Go.RowKit Kit
set_option maxRecDepth 100000 in
set_option maxHeartbeats 12800000 in
theorem specExact_any (dx dy iv bv : Value) (xs ys : List Bool) (is : List Ino) (bs : List Blk) (w : World) (h : DR w dx dy iv bv xs ys is bs) (hG : Big 1048576 xs ys is bs) :
    Calls Tryz.prog 10 #[.agg #[dx, dy, iv, bv]] w fun e w' => e = .returned (.bool (exactB xs ys is bs)) ∧ Below w.heap.size w w' := by
  obtain ⟨a1, c1, a2, c2, a3, c3, a4, c4, rfl, rfl, rfl, rfl⟩ := h.form
  have HB0 : Hid (Below w.heap.size w (w.alloc (.cells #[.slice a1 xs.length c1, .slice a2 ys.length c2, .slice a3 is.length c3, .slice a4 bs.length c4] 35))) := (Below.refl _ w).alloc (Nat.le_refl _) _
  have HA0 := hide (AtC.new w 35 #[.slice a1 xs.length c1, .slice a2 ys.length c2, .slice a3 is.length c3, .slice a4 bs.length c4])
  have CS := hide (specSafe_any (.slice a1 xs.length c1) (.slice a2 ys.length c2) (.slice a3 is.length c3) (.slice a4 bs.length c4) xs ys is bs (w.alloc (.cells #[.slice a1 xs.length c1, .slice a2 ys.length c2, .slice a3 is.length c3, .slice a4 bs.length c4] 35)) (h.alloc _) hG)
  cases hsf : safeB xs ys is bs with
  | false =>
    rw [hsf] at CS
    have HFX : Hid (exactB xs ys is bs = false) := hide (by unfold exactB; rw [hsf]; rfl)
    clear h hG hsf
    go_enter Tryz.func10, Tryz.ntmps10
    go_wp2_with fail
    refine CS.out.mono ?_
    rintro e w1 ⟨rfl, B1⟩
    have HB1 := hide (HB0.out.trans (B1.mono HB0.out.size))
    clear B1
    go_wp2
    go_ret
    exact ⟨by rw [HFX.out]; rfl, HB1.out⟩
  | true =>
  rw [hsf] at CS
  have hok : diskOk xs ys is bs = true := by
    unfold safeB at hsf
    rw [Bool.and_eq_true] at hsf
    exact hsf.1
  have hX := RX.of_ok hok
  have HEX : Hid (exactB xs ys is bs = exactS xs ys is bs) := hide (by unfold exactB; rw [hsf, Bool.true_and])
  obtain ⟨gx, ox, rfl, hgx, hbx⟩ := bits_base h.a (by rw [hX.bx]; decide)
  obtain ⟨gy, oy, rfl, hgy, hby⟩ := bits_base h.b (by rw [hX.y8]; decide)
  obtain ⟨g2, o2, -, -, rfl, hg2, -, -, -, -⟩ := DR.ino h 0 (by rw [hX.r.hi]; decide)
  have HBX : Hid (∀ (W : World) (j : Nat), Below w.heap.size w W → j < 16 → W.cell? ⟨gx, ox + j, none⟩ = some (.bool (xs.getD j false))) := fun W j b hj => (b.cell (p := ⟨gx, ox + j, none⟩) hgx).trans (hbx j (by rw [hX.bx]; exact hj))
  have HBY : Hid (∀ (W : World) (j : Nat), Below w.heap.size w W → j < 8 → W.cell? ⟨gy, oy + j, none⟩ = some (.bool (ys.getD j false))) := fun W j b hj => (b.cell (p := ⟨gy, oy + j, none⟩) hgy).trans (hby j (by rw [hX.y8]; exact hj))
  have HL : Hid (xs.length = 16 ∧ ys.length = 8 ∧ is.length = 8) := ⟨hX.bx, hX.y8, hX.r.hi⟩
  have HKD : Hid (∀ i, kindAt is i = 0 ∨ kindAt is i = 1 ∨ kindAt is i = 2) := hX.r.kind
  have HII : Hid (∀ (W : World) (j : Nat), Below w.heap.size w W → j < 8 → ∃ (sa : Option Addr) (n c : Nat), W.cell? ⟨g2, o2 + j * 3, none⟩ = some (.int .i64 (kindAt is ((j : Int) + 1))) ∧ W.cell? ⟨g2, o2 + j * 3 + 1, none⟩ = some (.int .i64 (lnkAt is j)) ∧ W.cell? ⟨g2, o2 + j * 3 + 2, none⟩ = some (.slice sa n c)) := fun W j b hj => by
    have hj' : j < is.length := by rw [hX.r.hi]; exact hj
    obtain ⟨g', o', sa, sc, e, -, y0, y1, y2, -⟩ := DR.ino h j hj'
    simp only [Option.some.injEq, Addr.mk.injEq, and_true] at e
    obtain ⟨rfl, rfl⟩ := e
    have el : lnkAt is j = is[j].2.1 := by unfold lnkAt; simp [hj']
    exact ⟨sa, _, sc, (b.cell (p := ⟨g2, o2 + j * 3, none⟩) hg2).trans y0, by rw [el]; exact (b.cell (p := ⟨g2, o2 + j * 3 + 1, none⟩) hg2).trans y1, (b.cell (p := ⟨g2, o2 + j * 3 + 2, none⟩) hg2).trans y2⟩
  have CR := hide (fun (W : World) (hb : Below w.heap.size w W) => specReach_any (.slice (some ⟨gx, ox, none⟩) xs.length c1) (.slice (some ⟨gy, oy, none⟩) ys.length c2) (.slice (some ⟨g2, o2, none⟩) is.length c3) (.slice a4 bs.length c4) xs ys is bs W (h.below hb (Nat.le_refl _)) hX.r)
  have CL := hide (fun (x : Int) (W : World) (hb : Below w.heap.size w W) => specLinks_any x (.slice (some ⟨gx, ox, none⟩) xs.length c1) (.slice (some ⟨gy, oy, none⟩) ys.length c2) (.slice (some ⟨g2, o2, none⟩) is.length c3) (.slice a4 bs.length c4) xs ys is bs W (h.below hb (Nat.le_refl _)) hX)
  have CH := hide (fun (W : World) (hb : Below w.heap.size w W) => had_any (.slice (some ⟨gx, ox, none⟩) xs.length c1) (.slice (some ⟨gy, oy, none⟩) ys.length c2) (.slice (some ⟨g2, o2, none⟩) is.length c3) (.slice a4 bs.length c4) xs ys is bs W (h.below hb (Nat.le_refl _)) hX)
  have HLN : Hid (∀ i, linksN is bs i ≤ 64) := linksN_le hX.r
  have HR8 := hide (reachL_len is bs)
  have HH16 : Hid ((hadL is bs).length ≤ 16) := by show _ ≤ _; unfold hadL; rw [List.length_map]; have h1 := ptrL_len hX.r (reachL is bs); have h2 := reachL_len is bs; omega
  have HINS : Hid (∀ j : Nat, inoS ys is bs j = decide (((reachL is bs).contains ((j : Int) + 1) = true ∨ kindAt is ((j : Int) + 1) = 0) ∧ ys.getD j false = (reachL is bs).contains ((j : Int) + 1) ∧ (j = 0 → lnkAt is j = 1 ∧ linksN is bs ((j : Int) + 1) = 0) ∧ (¬ j = 0 → ((reachL is bs).contains ((j : Int) + 1) = true → lnkAt is j = (linksN is bs ((j : Int) + 1) : Int)) ∧ (kindAt is ((j : Int) + 1) = 2 → linksN is bs ((j : Int) + 1) = 1)))) := fun _ => rfl
  clear h hG hsf hok hX hbx hby
  go_enter Tryz.func10, Tryz.ntmps10
  go_wp2_with fail
  refine CS.out.mono ?_
  rintro e w0 ⟨rfl, B0⟩
  have HW0 : Hid (Below w.heap.size w w0 ∧ AtC w0 w.heap.size 35 #[.slice (some ⟨gx, ox, none⟩) xs.length c1, .slice (some ⟨gy, oy, none⟩) ys.length c2, .slice (some ⟨g2, o2, none⟩) is.length c3, .slice a4 bs.length c4]) := ⟨HB0.out.trans (B0.mono HB0.out.size), HA0.out.over B0⟩
  have z0 : w0.cell? ⟨w.heap.size, 0, none⟩ = some (.slice (some ⟨gx, ox, none⟩) xs.length c1) := HW0.out.2.cell 0
  have z1 : w0.cell? ⟨w.heap.size, 1, none⟩ = some (.slice (some ⟨gy, oy, none⟩) ys.length c2) := HW0.out.2.cell 1
  have z2 : w0.cell? ⟨w.heap.size, 2, none⟩ = some (.slice (some ⟨g2, o2, none⟩) is.length c3) := HW0.out.2.cell 2
  have z3 : w0.cell? ⟨w.heap.size, 3, none⟩ = some (.slice a4 bs.length c4) := HW0.out.2.cell 3
  have CR1 := hide (CR.out w0 HW0.out.1)
  clear B0 CS HB0 HA0
  go_wp2_with fail
  refine CR1.out.mono ?_
  rintro e w1 ⟨rv, rfl, R1, B1⟩
  have HW1 : Hid (Below w.heap.size w w1 ∧ AtC w1 w.heap.size 35 #[.slice (some ⟨gx, ox, none⟩) xs.length c1, .slice (some ⟨gy, oy, none⟩) ys.length c2, .slice (some ⟨g2, o2, none⟩) is.length c3, .slice a4 bs.length c4]) := ⟨HW0.out.1.trans (B1.mono HW0.out.1.size), HW0.out.2.over B1⟩
  obtain ⟨ra, rc, rfl, -⟩ := R1.form
  rw [ic_length] at R1 ⊢
  have HRI := hide R1.rints
  clear R1 B1 CR CR1 z0 z1 z2 z3 HW0
  obtain ⟨RN, hRN⟩ : ∃ n, (reachL is bs).length = n := ⟨_, rfl⟩
  rw [hRN] at HRI ⊢
  go_wp2_with fail
  go_loopw [4] (fun kv wr => ∃ (j : Nat), j ≤ 8 ∧ kv = .int .i64 ((j : Int) + 1) ∧ Hid ((∀ k, k < j → inoS ys is bs k = true) ∧ Below w1.heap.size w1 wr)) (fun kv _ => 9 - (intOf kv).toNat)
  case atStart => exact ⟨0, Nat.zero_le _, rfl, (fun k hk => by omega), Below.refl _ _⟩
  case round =>
    obtain ⟨j, hj, rfl, HJ⟩ := hrel
    have HBW0 : Hid (Below w.heap.size w wr ∧ AtC wr w.heap.size 35 #[.slice (some ⟨gx, ox, none⟩) xs.length c1, .slice (some ⟨gy, oy, none⟩) ys.length c2, .slice (some ⟨g2, o2, none⟩) is.length c3, .slice a4 bs.length c4]) := ⟨HW1.out.1.trans (HJ.out.2.mono HW1.out.1.size), HW1.out.2.over HJ.out.2⟩
    have z0 : wr.cell? ⟨w.heap.size, 0, none⟩ = some (.slice (some ⟨gx, ox, none⟩) xs.length c1) := HBW0.out.2.cell 0
    have z1 : wr.cell? ⟨w.heap.size, 1, none⟩ = some (.slice (some ⟨gy, oy, none⟩) ys.length c2) := HBW0.out.2.cell 1
    have z2 : wr.cell? ⟨w.heap.size, 2, none⟩ = some (.slice (some ⟨g2, o2, none⟩) is.length c3) := HBW0.out.2.cell 2
    have z3 : wr.cell? ⟨w.heap.size, 3, none⟩ = some (.slice a4 bs.length c4) := HBW0.out.2.cell 3
    by_cases hj8 : j < 8
    rotate_left
    · obtain rfl : j = 8 := by omega
      have j1 : ¬ (((8 : Nat) : Int) + 1 ≤ (is.length : Int)) := by have := HL.out; omega
      have CH1 := hide (CH.out wr HBW0.out.1)
      go_wp2_with fail
      refine CH1.out.mono ?_
      rintro e w2 ⟨hv, rfl, R2, B2⟩
      have HW2 : Hid (Below w.heap.size w w2 ∧ AtC w2 w.heap.size 35 #[.slice (some ⟨gx, ox, none⟩) xs.length c1, .slice (some ⟨gy, oy, none⟩) ys.length c2, .slice (some ⟨g2, o2, none⟩) is.length c3, .slice a4 bs.length c4]) := ⟨HBW0.out.1.trans (B2.mono HBW0.out.1.size), HBW0.out.2.over B2⟩
      obtain ⟨ha, hc, rfl, -⟩ := R2.form
      rw [ic_length] at R2 ⊢
      have HHI := hide R2.rints
      clear R2 B2 CH CH1 z0 z1 z2 z3
      go_wp2_with fail
      go_loopw [9] (fun kv wr => ∃ (p : Nat), p ≤ 16 ∧ kv = .int .i64 ((p : Int) + 1) ∧ Hid ((∀ k, k < p → bitS xs is bs k = true) ∧ Below w2.heap.size w2 wr)) (fun kv _ => 17 - (intOf kv).toNat)
      case atStart => exact ⟨0, Nat.zero_le _, rfl, (fun k hk => by omega), Below.refl _ _⟩
      case round =>
        obtain ⟨p, hp, rfl, HP⟩ := hrel
        have HBP : Hid (Below w.heap.size w wr ∧ AtC wr w.heap.size 35 #[.slice (some ⟨gx, ox, none⟩) xs.length c1, .slice (some ⟨gy, oy, none⟩) ys.length c2, .slice (some ⟨g2, o2, none⟩) is.length c3, .slice a4 bs.length c4]) := ⟨HW2.out.1.trans (HP.out.2.mono HW2.out.1.size), HW2.out.2.over HP.out.2⟩
        have x0 : wr.cell? ⟨w.heap.size, 0, none⟩ = some (.slice (some ⟨gx, ox, none⟩) xs.length c1) := HBP.out.2.cell 0
        by_cases hp16 : p < 16
        rotate_left
        · obtain rfl : p = 16 := by omega
          have p1 : ¬ (((16 : Nat) : Int) + 1 ≤ (xs.length : Int)) := by have := HL.out; omega
          have HFX : Hid (exactB xs ys is bs = true) := hide (by rw [HEX.out]; exact exactS_yes HJ.out.1 HP.out.1)
          go_wp2
          go_ret
          exact ⟨by rw [HFX.out]; rfl, HBP.out.1⟩
        have p0 : (0 : Int) ≤ (p : Int) := by omega
        have p1 : (p : Int) + 1 ≤ (xs.length : Int) := by have := HL.out; omega
        have p2 : (p : Int) < (xs.length : Int) := by have := HL.out; omega
        have hwp : IntKind.i64.wrap (p : Int) = (p : Int) := wrap_small _ (by omega) (by omega)
        have kx := HBX.out wr p HBP.out.1 hp16
        have CC := hide (fun (n : Nat) => has10_any (.slice ha (hadL is bs).length hc) (hadL is bs) ((p : Int) + 1) (wr.drewN n) ((HHI.out.below HP.out.2 (Nat.le_refl _)).below (below_drewN (Below.refl _ _) n) (Nat.le_refl _)) (by have := HH16.out; omega))
        have HBS : Hid (bitS xs is bs p = decide (xs.getD p false = (hadL is bs).contains ((p : Int) + 1))) := rfl
        obtain ⟨bx, hbx⟩ : ∃ b, xs.getD p false = b := ⟨_, rfl⟩
        obtain ⟨hb, hhb⟩ : ∃ b, (hadL is bs).contains ((p : Int) + 1) = b := ⟨_, rfl⟩
        rw [hbx] at kx HBS
        rw [hhb] at HBS
        simp only [hhb] at CC
        clear hbx hhb
        go_upto_region 18 with fail
        go_quiet ((go_at_call 35; exact Calls.quiet_of_same (CC.out _)))
        by_cases hbb : bx = hb
        · subst hbb
          have HNX : Hid (bitS xs is bs p = true) := hide (by rw [HBS.out]; simp)
          cases bx
          all_goals
            go_wp2
            go_roundw
            case rel => exact ⟨p + 1, by omega, by go_num, (fun k hk => by by_cases e : k = p; rw [e]; exact HNX.out; exact HP.out.1 k (by omega)), below_drewN HP.out.2 _⟩
            case measure => simp [intOf]; omega
        · have HNX : Hid (bitS xs is bs p = false) := hide (by rw [HBS.out]; simp [hbb])
          have HFX : Hid (exactB xs ys is bs = false) := hide (by rw [HEX.out]; exact exactS_bit hp16 HNX.out)
          cases bx <;> cases hb
          case false.false => exact absurd rfl hbb
          case true.true => exact absurd rfl hbb
          all_goals
            clear hbb
            go_wp2
            go_ret
            exact ⟨by rw [HFX.out]; rfl, below_drewN HBP.out.1 _⟩
    have j0 : (0 : Int) ≤ (j : Int) := by omega
    have j1 : (j : Int) + 1 ≤ (is.length : Int) := by have := HL.out; omega
    have j2 : (j : Int) < (is.length : Int) := by have := HL.out; omega
    have j3 : (j : Int) < (ys.length : Int) := by have := HL.out; omega
    have hwj : IntKind.i64.wrap (j : Int) = (j : Int) := wrap_small _ (by omega) (by omega)
    obtain ⟨sa, sn, sc, y0, y1, y2⟩ := HII.out wr j HBW0.out.1 hj8
    have HIN := hide (HINS.out j)
    have hkd3 := HKD.out ((j : Int) + 1)
    have hln := HLN.out ((j : Int) + 1)
    have CC : Hid (∀ (W : World), Below w1.heap.size w1 W → Calls Tryz.prog 35 #[.slice ra RN rc, .int .i64 ((j : Int) + 1)] W fun e w' => e = .returned (.bool ((reachL is bs).contains ((j : Int) + 1))) ∧ w' = W) := fun W b => has10_any (.slice ra RN rc) (reachL is bs) ((j : Int) + 1) W (HRI.out.below b (Nat.le_refl _)) (by have := HR8.out; omega)
    have CL1 := hide (CL.out ((j : Int) + 1))
    obtain ⟨kd, hkd⟩ : ∃ n, kindAt is ((j : Int) + 1) = n := ⟨_, rfl⟩
    obtain ⟨lk, hlk⟩ : ∃ n, lnkAt is j = n := ⟨_, rfl⟩
    obtain ⟨ln, hln'⟩ : ∃ n, linksN is bs ((j : Int) + 1) = n := ⟨_, rfl⟩
    obtain ⟨r, hr⟩ : ∃ b, (reachL is bs).contains ((j : Int) + 1) = b := ⟨_, rfl⟩
    obtain ⟨yb, hyb⟩ : ∃ b, ys.getD j false = b := ⟨_, rfl⟩
    simp only [hkd, hlk, hln', hr, hyb] at HIN
    rw [hkd] at y0 hkd3
    rw [hlk] at y1
    rw [hln'] at hln
    simp only [hr] at CC
    simp only [hln'] at CL1
    have ky := HBY.out
    have HKY : Hid (∀ (W : World), Below w.heap.size w W → W.cell? ⟨gy, oy + j, none⟩ = some (.bool yb)) := fun W b => (HBY.out W j b hj8).trans (by rw [hyb])
    clear ky hkd hlk hln' hr hyb
    obtain ⟨W1, hW1⟩ : ∃ W, wr.alloc (.cells #[.int .i64 kd, .int .i64 lk, .slice sa sn sc] 44) = W := ⟨_, rfl⟩
    have HX1 : Hid (Below w1.heap.size w1 W1 ∧ AtC W1 wr.heap.size 44 #[.int .i64 kd, .int .i64 lk, .slice sa sn sc] ∧ Below w.heap.size w W1 ∧ AtC W1 w.heap.size 35 #[.slice (some ⟨gx, ox, none⟩) xs.length c1, .slice (some ⟨gy, oy, none⟩) ys.length c2, .slice (some ⟨g2, o2, none⟩) is.length c3, .slice a4 bs.length c4]) := by
      rw [← hW1]
      exact ⟨HJ.out.2.alloc HJ.out.2.size _, AtC.new _ _ _, HBW0.out.1.alloc HBW0.out.1.size _, HBW0.out.2.alloc _⟩
    have CC1 := hide (CC.out W1 HX1.out.1)
    have CL2 := hide (CL1.out W1 HX1.out.2.2.1)
    go_upto_region 8 with fail
    clear hW1 y0 y1 y2 z0 z1 z2 z3
    have z0 : W1.cell? ⟨w.heap.size, 0, none⟩ = some (.slice (some ⟨gx, ox, none⟩) xs.length c1) := HX1.out.2.2.2.cell 0
    have z1 : W1.cell? ⟨w.heap.size, 1, none⟩ = some (.slice (some ⟨gy, oy, none⟩) ys.length c2) := HX1.out.2.2.2.cell 1
    have z2 : W1.cell? ⟨w.heap.size, 2, none⟩ = some (.slice (some ⟨g2, o2, none⟩) is.length c3) := HX1.out.2.2.2.cell 2
    have z3 : W1.cell? ⟨w.heap.size, 3, none⟩ = some (.slice a4 bs.length c4) := HX1.out.2.2.2.cell 3
    go_wp2_with fail
    refine CC1.out.mono ?_
    rintro e w3 ⟨rfl, rfl⟩
    go_wp2_with fail
    refine CL2.out.mono ?_
    rintro e w4 ⟨rfl, B4⟩
    have HB3 := hide (HX1.out.1.trans (B4.mono HX1.out.1.size))
    have HBW := hide (HX1.out.2.2.1.trans (B4.mono HX1.out.2.2.1.size))
    have x1 : w4.cell? ⟨w.heap.size, 1, none⟩ = some (.slice (some ⟨gy, oy, none⟩) ys.length c2) := (HX1.out.2.2.2.over B4).cell 1
    have k0 : w4.cell? ⟨wr.heap.size, 0, none⟩ = some (.int .i64 kd) := (HX1.out.2.1.over B4).cell 0
    have k1 : w4.cell? ⟨wr.heap.size, 1, none⟩ = some (.int .i64 lk) := (HX1.out.2.1.over B4).cell 1
    have ky := HKY.out w4 HBW.out
    clear B4 CC CC1 CL CL1 CL2 z0 z1 z2 z3 HX1 HBW0
    cases r with
    | false =>
      by_cases hk0 : kd = 0
      rotate_left
      · have hkb : (kd != 0) = true := by simp [hk0]
        have HF : Hid (exactS xs ys is bs = false) := hide (exactS_ino hj8 (by rw [HIN.out]; simp [hk0]))
        have HFX : Hid (exactB xs ys is bs = false) := hide (by unfold exactB; rw [HF.out, Bool.and_false])
        go_wp2
        go_ret
        exact ⟨by rw [HFX.out]; rfl, HBW.out⟩

      subst hk0
      cases yb with
      | true =>
        have HF : Hid (exactS xs ys is bs = false) := hide (exactS_ino hj8 (by rw [HIN.out]; simp))
        have HFX : Hid (exactB xs ys is bs = false) := hide (by unfold exactB; rw [HF.out, Bool.and_false])
        go_wp2
        go_ret
        exact ⟨by rw [HFX.out]; rfl, HBW.out⟩

      | false =>
      by_cases hj0 : j = 0
      · have jb : ((j : Int) + 1 == 1) = true := by simp [hj0]
        have jg2 : ¬ ((1 : Int) < (j : Int) + 1) := by omega
        have HJ0 := hide hj0
        clear hj0
        by_cases hl1 : lk = 1
        rotate_left
        · have hlb : (lk != 1) = true := by simp [hl1]
          have HF : Hid (exactS xs ys is bs = false) := hide (exactS_ino hj8 (by rw [HIN.out]; simp [HJ0.out, hl1]))
          have HFX : Hid (exactB xs ys is bs = false) := hide (by unfold exactB; rw [HF.out, Bool.and_false])
          go_wp2
          go_ret
          exact ⟨by rw [HFX.out]; rfl, HBW.out⟩

        subst hl1
        by_cases hn0 : ln = 0
        rotate_left
        · have hnb : ((ln : Int) != 0) = true := by simp; omega
          have HF : Hid (exactS xs ys is bs = false) := hide (exactS_ino hj8 (by rw [HIN.out]; simp [HJ0.out, hn0]))
          have HFX : Hid (exactB xs ys is bs = false) := hide (by unfold exactB; rw [HF.out, Bool.and_false])
          go_wp2
          go_ret
          exact ⟨by rw [HFX.out]; rfl, HBW.out⟩

        subst hn0
        have HNX : Hid (inoS ys is bs j = true) := hide (by rw [HIN.out]; simp [HJ0.out])
        go_wp2
        go_roundw
        case rel => exact ⟨j + 1, by omega, by go_num, (fun k hk => by by_cases e : k = j; rw [e]; exact HNX.out; exact HJ.out.1 k (by omega)), HB3.out⟩
        case measure => simp [intOf]; omega

      · have ji : ¬ ((j : Int) + 1 = 1) := by omega
        have jb : ((j : Int) + 1 == 1) = false := by simp; omega
        have jg : decide ((j : Int) + 1 > 1) = true := by simp; omega
        have jg2 : (1 : Int) < (j : Int) + 1 := by omega
        have HNX : Hid (inoS ys is bs j = true) := hide (by rw [HIN.out]; simp [hj0])
        go_wp2
        go_roundw
        case rel => exact ⟨j + 1, by omega, by go_num, (fun k hk => by by_cases e : k = j; rw [e]; exact HNX.out; exact HJ.out.1 k (by omega)), HB3.out⟩
        case measure => simp [intOf]; omega

    | true =>
      cases yb with
      | false =>
        have HF : Hid (exactS xs ys is bs = false) := hide (exactS_ino hj8 (by rw [HIN.out]; simp))
        have HFX : Hid (exactB xs ys is bs = false) := hide (by unfold exactB; rw [HF.out, Bool.and_false])
        go_wp2
        go_ret
        exact ⟨by rw [HFX.out]; rfl, HBW.out⟩

      | true =>
      by_cases hj0 : j = 0
      · have jb : ((j : Int) + 1 == 1) = true := by simp [hj0]
        have jg2 : ¬ ((1 : Int) < (j : Int) + 1) := by omega
        have HJ0 := hide hj0
        clear hj0
        by_cases hl1 : lk = 1
        rotate_left
        · have hlb : (lk != 1) = true := by simp [hl1]
          have HF : Hid (exactS xs ys is bs = false) := hide (exactS_ino hj8 (by rw [HIN.out]; simp [HJ0.out, hl1]))
          have HFX : Hid (exactB xs ys is bs = false) := hide (by unfold exactB; rw [HF.out, Bool.and_false])
          go_wp2
          go_ret
          exact ⟨by rw [HFX.out]; rfl, HBW.out⟩

        subst hl1
        by_cases hn0 : ln = 0
        rotate_left
        · have hnb : ((ln : Int) != 0) = true := by simp; omega
          have HF : Hid (exactS xs ys is bs = false) := hide (exactS_ino hj8 (by rw [HIN.out]; simp [HJ0.out, hn0]))
          have HFX : Hid (exactB xs ys is bs = false) := hide (by unfold exactB; rw [HF.out, Bool.and_false])
          go_wp2
          go_ret
          exact ⟨by rw [HFX.out]; rfl, HBW.out⟩

        subst hn0
        have HNX : Hid (inoS ys is bs j = true) := hide (by rw [HIN.out]; simp [HJ0.out])
        go_wp2
        go_roundw
        case rel => exact ⟨j + 1, by omega, by go_num, (fun k hk => by by_cases e : k = j; rw [e]; exact HNX.out; exact HJ.out.1 k (by omega)), HB3.out⟩
        case measure => simp [intOf]; omega

      · have ji : ¬ ((j : Int) + 1 = 1) := by omega
        have jb : ((j : Int) + 1 == 1) = false := by simp; omega
        have jg2 : (1 : Int) < (j : Int) + 1 := by omega
        by_cases hll : lk = (ln : Int)
        rotate_left
        · have hlb : (lk != (ln : Int)) = true := by simp [hll]
          have HF : Hid (exactS xs ys is bs = false) := hide (exactS_ino hj8 (by rw [HIN.out]; simp [hj0, hll]))
          have HFX : Hid (exactB xs ys is bs = false) := hide (by unfold exactB; rw [HF.out, Bool.and_false])
          go_wp2
          go_ret
          exact ⟨by rw [HFX.out]; rfl, HBW.out⟩

        subst hll
        by_cases hk2 : kd = 2
        · subst hk2
          by_cases hn1 : ln = 1
          · subst hn1
            have HNX : Hid (inoS ys is bs j = true) := hide (by rw [HIN.out]; simp [hj0])
            go_wp2
            go_roundw
            case rel => exact ⟨j + 1, by omega, by go_num, (fun k hk => by by_cases e : k = j; rw [e]; exact HNX.out; exact HJ.out.1 k (by omega)), HB3.out⟩
            case measure => simp [intOf]; omega

          · have hnb : ((ln : Int) != 1) = true := by simp; omega
            have HF : Hid (exactS xs ys is bs = false) := hide (exactS_ino hj8 (by rw [HIN.out]; simp [hj0, hn1]))
            have HFX : Hid (exactB xs ys is bs = false) := hide (by unfold exactB; rw [HF.out, Bool.and_false])
            go_wp2
            go_ret
            exact ⟨by rw [HFX.out]; rfl, HBW.out⟩

        · have hkb : (kd == 2) = false := by simp [hk2]
          have HNX : Hid (inoS ys is bs j = true) := hide (by rw [HIN.out]; simp [hj0, hk2])
          go_wp2
          go_roundw
          case rel => exact ⟨j + 1, by omega, by go_num, (fun k hk => by by_cases e : k = j; rw [e]; exact HNX.out; exact HJ.out.1 k (by omega)), HB3.out⟩
          case measure => simp [intOf]; omega

end Go.Proofs.YtljooldjcefkoaaGreat
