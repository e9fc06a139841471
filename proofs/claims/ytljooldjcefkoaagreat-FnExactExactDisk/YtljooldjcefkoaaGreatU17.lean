/- Texts of the proof, bundled: Su. -/
import Derived.Test.YtljooldjcefkoaaGreatU15
import Derived.Test.YtljooldjcefkoaaGreatU14
/- Of the specification: Unmarked by its contract. -/
namespace Go.Proofs.YtljooldjcefkoaaGreat
open Go.RowKit Kit
theorem bits_base {w : World} {a : Option Addr} {n c : Nat} {zs : List Bool} (h : RFl w (.slice a n c) zs) (h0 : 0 < zs.length) :
    ∃ g o, a = some ⟨g, o, none⟩ ∧ g < w.heap.size ∧ ∀ j : Nat, j < zs.length → w.cell? ⟨g, o + j, none⟩ = some (.bool (zs.getD j false)) := by
  obtain ⟨g, o, e, hg, -⟩ := DR.bit h 0 h0
  refine ⟨g, o, e, hg, fun j hj => ?_⟩
  obtain ⟨g', o', e', -, k⟩ := DR.bit h j hj
  rw [e] at e'
  simp only [Option.some.injEq, Addr.mk.injEq, and_true] at e'
  obtain ⟨rfl, rfl⟩ := e'
  rw [k, getD_at false hj]
/-- What is told free among the first q. -/
def unmQ (xs ys : List Bool) (is : List Ino) (l : List Int) : Nat := l.countP (fun i : Int => !(ys.getD (i - 1).toNat false)) + (ptrL is l).countP (fun s : Pr => !(xs.getD (s.2 - 1).toNat false))
theorem unmQ_le {is : List Ino} {bs : List Blk} (h : RD is bs) (xs ys : List Bool) (l : List Int) : unmQ xs ys is l ≤ l.length * 3 := by
  have h1 := ptrL_len h l
  have h2 : l.countP (fun i : Int => !(ys.getD (i - 1).toNat false)) ≤ l.length := List.countP_le_length
  have h3 : (ptrL is l).countP (fun s : Pr => !(xs.getD (s.2 - 1).toNat false)) ≤ (ptrL is l).length := List.countP_le_length
  unfold unmQ
  omega
theorem unmQ_snoc (xs ys : List Bool) (is : List Ino) (l : List Int) (i : Int) : unmQ xs ys is (l ++ [i]) = unmQ xs ys is l + (if ys.getD (i - 1).toNat false = true then 0 else 1) + (ptrT i (ptrsAt is i)).countP (fun s : Pr => !(xs.getD (s.2 - 1).toNat false)) := by
  unfold unmQ ptrL
  rw [List.countP_append, List.flatMap_append, List.countP_append, List.countP_cons, List.countP_nil, List.flatMap_cons, List.flatMap_nil, List.append_nil]
  have : ptrI is i = ptrT i (ptrsAt is i) := rfl
  rw [this]
  cases ys.getD (i - 1).toNat false <;> simp <;> omega
set_option maxRecDepth 100000 in
set_option maxHeartbeats 3200000 in
theorem specUnm_any (dx dy iv bv : Value) (xs ys : List Bool) (is : List Ino) (bs : List Blk) (w : World) (h : DR w dx dy iv bv xs ys is bs) (hX : RX xs ys is bs) :
    Calls Tryz.prog 18 #[.agg #[dx, dy, iv, bv]] w fun e w' => e = .returned (.int .i64 ((unmP xs is bs : Int) + (unmI ys is bs : Int))) ∧ Below w.heap.size w w' := by
  obtain ⟨a1, c1, a2, c2, a3, c3, a4, c4, rfl, rfl, rfl, rfl⟩ := h.form
  obtain ⟨gx, ox, rfl, hgx, hbx⟩ := bits_base h.a (by rw [hX.bx]; decide)
  obtain ⟨gy, oy, rfl, hgy, hby⟩ := bits_base h.b (by rw [hX.y8]; decide)
  have HBX : Hid (∀ (W : World) (j : Nat), Below w.heap.size w W → j < 16 → W.cell? ⟨gx, ox + j, none⟩ = some (.bool (xs.getD j false))) := fun W j b hj => (b.cell (p := ⟨gx, ox + j, none⟩) hgx).trans (hbx j (by rw [hX.bx]; exact hj))
  have HBY : Hid (∀ (W : World) (j : Nat), Below w.heap.size w W → j < 8 → W.cell? ⟨gy, oy + j, none⟩ = some (.bool (ys.getD j false))) := fun W j b hj => (b.cell (p := ⟨gy, oy + j, none⟩) hgy).trans (hby j (by rw [hX.y8]; exact hj))
  have HL : Hid (xs.length = 16 ∧ ys.length = 8 ∧ is.length = 8) := ⟨hX.bx, hX.y8, hX.r.hi⟩
  have HH := hide h
  have HB0 : Hid (Below w.heap.size w (w.alloc (.cells #[.slice (some ⟨gx, ox, none⟩) xs.length c1, .slice (some ⟨gy, oy, none⟩) ys.length c2, .slice a3 is.length c3, .slice a4 bs.length c4] 35))) := (Below.refl _ w).alloc (Nat.le_refl _) _
  have HA0 := hide (AtC.new w 35 #[.slice (some ⟨gx, ox, none⟩) xs.length c1, .slice (some ⟨gy, oy, none⟩) ys.length c2, .slice a3 is.length c3, .slice a4 bs.length c4])
  have CR := hide (specReach_any (.slice (some ⟨gx, ox, none⟩) xs.length c1) (.slice (some ⟨gy, oy, none⟩) ys.length c2) (.slice a3 is.length c3) (.slice a4 bs.length c4) xs ys is bs (w.alloc (.cells #[.slice (some ⟨gx, ox, none⟩) xs.length c1, .slice (some ⟨gy, oy, none⟩) ys.length c2, .slice a3 is.length c3, .slice a4 bs.length c4] 35)) (h.alloc _) hX.r)
  have HRG : Hid (∀ i ∈ reachL is bs, 1 ≤ i ∧ i ≤ 8) := fun i hi => reach8 hi
  have HR8 := hide (reachL_len is bs)
  have HUL : Hid (∀ l, unmQ xs ys is l ≤ l.length * 3) := unmQ_le hX.r xs ys
  have HP2 : Hid (∀ i, (ptrsAt is i).length ≤ 2) := ptrsAt_len hX.r
  obtain ⟨RL, hRL⟩ : ∃ l, reachL is bs = l := ⟨_, rfl⟩
  have HFIN : Hid ((unmP xs is bs : Int) + (unmI ys is bs : Int) = ((unmQ xs ys is RL : Nat) : Int)) := by
    show _ = _
    unfold unmP unmI unmQ
    rw [hRL]
    omega
  rw [HFIN.out]
  rw [hRL] at CR HRG HR8
  clear h hX hRL HFIN hbx hby
  go_enter Tryz.func18, Tryz.ntmps18
  go_wp2_with fail
  refine CR.out.mono ?_
  rintro e w1 ⟨rv, rfl, R1, B1⟩
  have HB1 := hide (HB0.out.trans (B1.mono HB0.out.size))
  have HA1 := hide (HA0.out.over B1)
  obtain ⟨ra, rc, rfl, hcr⟩ := R1.rints
  have HCR := hide hcr
  have r8 : RL.length ≤ 8 := HR8.out
  clear R1 B1 CR HB0 HA0 hcr
  go_wp2_with fail
  go_loopw [3, 5] (fun nv kv wr => ∃ (q : Nat), q ≤ RL.length ∧ nv = .int .i64 ((unmQ xs ys is (RL.take q) : Nat) : Int) ∧ kv = .int .i64 q ∧ Hid (Below w1.heap.size w1 wr)) (fun _ kv _ => RL.length - (intOf kv).toNat)
  case atStart => exact ⟨0, Nat.zero_le _, rfl, rfl, Below.refl _ _⟩
  case round =>
    obtain ⟨q, hq, rfl, rfl, HQ⟩ := hrel
    have q0 : (0 : Int) ≤ (q : Int) := by omega
    by_cases hlt : q < RL.length
    rotate_left
    · have q1 : ¬ ((q : Int) < (RL.length : Int)) := by omega
      rw [List.take_of_length_le (by omega)]
      go_wp2
      go_ret
      exact ⟨rfl, HB1.out.trans (HQ.out.mono HB1.out.size)⟩
    have q1 : (q : Int) < (RL.length : Int) := by omega
    obtain ⟨gr, orr, rfl, hgr, kr⟩ := HCR.out q hlt
    replace kr := (HQ.out.cell (p := ⟨gr, orr + q, none⟩) hgr).trans kr
    have hrg := HRG.out _ (List.getElem_mem hlt)
    have HSN : Hid (unmQ xs ys is (RL.take (q + 1)) = unmQ xs ys is (RL.take q) + (if ys.getD (RL[q] - 1).toNat false = true then 0 else 1) + (ptrT RL[q] (ptrsAt is RL[q])).countP (fun s : Pr => !(xs.getD (s.2 - 1).toNat false))) := by
      show _ = _
      rw [List.take_succ_eq_append_getElem hlt, unmQ_snoc]
    have hul := HUL.out (RL.take q)
    rw [List.length_take] at hul
    obtain ⟨u0, hu0⟩ : ∃ c, unmQ xs ys is (RL.take q) = c := ⟨_, rfl⟩
    obtain ⟨di, hdi⟩ : ∃ x, RL[q] = x := ⟨_, rfl⟩
    rw [hu0, hdi] at HSN
    rw [hu0] at hul ⊢
    rw [hdi] at kr hrg
    obtain ⟨j, rfl⟩ : ∃ j : Nat, di = (j : Int) + 1 := ⟨(di - 1).toNat, by omega⟩
    rw [show ((j : Int) + 1 - 1).toNat = j by omega] at HSN
    have hj8 : j < 8 := by omega
    have hj : j < is.length := by have := HL.out; omega
    have j0 : (0 : Int) ≤ (j : Int) := by omega
    have j1 : (j : Int) < (is.length : Int) := by omega
    have jy1 : (j : Int) < (ys.length : Int) := by have := HL.out; omega
    have jy2 : (j : Int) + 1 ≤ (ys.length : Int) := by have := HL.out; omega
    have hwj : IntKind.i64.wrap (j : Int) = (j : Int) := wrap_small _ (by omega) (by omega)
    have HBW := hide (HB1.out.trans (HQ.out.mono HB1.out.size))
    have HAW := hide (HA1.out.over HQ.out)
    obtain ⟨g2, o2, sa, sc, rfl, hg2, y0, y1, y2, rr⟩ := DR.ino HH.out j hj
    replace y0 := (HBW.out.cell (p := ⟨g2, o2 + j * 3, none⟩) hg2).trans y0
    replace y1 := (HBW.out.cell (p := ⟨g2, o2 + j * 3 + 1, none⟩) hg2).trans y1
    replace y2 := (HBW.out.cell (p := ⟨g2, o2 + j * 3 + 2, none⟩) hg2).trans y2
    have kb := HBY.out wr j HBW.out hj8
    have x1 : wr.cell? ⟨w.heap.size, 1, none⟩ = some (.slice (some ⟨gy, oy, none⟩) ys.length c2) := HAW.out.cell 1
    have x2 : wr.cell? ⟨w.heap.size, 2, none⟩ = some (.slice (some ⟨g2, o2, none⟩) is.length c3) := HAW.out.cell 2
    have hp2 := HP2.out ((j : Int) + 1)
    obtain ⟨ps, hps⟩ : ∃ X, ptrsAt is ((j : Int) + 1) = X := ⟨_, rfl⟩
    rw [hps] at y2 rr hp2 HSN
    obtain ⟨pa, pc', pe, hcp⟩ := rr
    simp only [Value.slice.injEq, true_and] at pe
    obtain ⟨rfl, rfl⟩ := pe
    have HCP := hide hcp
    obtain ⟨kd, hkd⟩ : ∃ k, kindAt is ((j : Int) + 1) = k := ⟨_, rfl⟩
    obtain ⟨ln, hln⟩ : ∃ k, is[j].2.1 = k := ⟨_, rfl⟩
    rw [hkd] at y0
    rw [hln] at y1
    obtain ⟨bi, hbi⟩ : ∃ b, ys.getD j false = b := ⟨_, rfl⟩
    rw [hbi] at kb HSN
    obtain ⟨W1, hW1⟩ : ∃ W, wr.alloc (.cells #[.int .i64 kd, .int .i64 ln, .slice sa ps.length sc] 44) = W := ⟨_, rfl⟩
    have HW1 : Hid (Below w1.heap.size w1 W1 ∧ AtC W1 wr.heap.size 44 #[.int .i64 kd, .int .i64 ln, .slice sa ps.length sc]) := by
      rw [← hW1]
      exact ⟨HQ.out.alloc HQ.out.size _, AtC.new _ _ _⟩
    have hg2w : ¬ g2 = wr.heap.size := by have := HBW.out.size; omega
    clear hu0 hdi hps hcp hkd hln hbi
    have hgo : ∃ u1 : Nat, u1 ≤ u0 + 1 ∧ Hid (unmQ xs ys is (RL.take (q + 1)) = u1 + (ptrT ((j : Int) + 1) ps).countP (fun s : Pr => !(xs.getD (s.2 - 1).toNat false))) ∧ u1 = u0 + (if bi = true then 0 else 1) := ⟨u0 + (if bi = true then 0 else 1), by split <;> omega, hide HSN.out, rfl⟩
    obtain ⟨u1, hu1, HU1, heu⟩ := hgo
    go_upto_if 36 with fail
    go_cut [3] from 11 to 77 (fun nv wz => nv = .int .i64 (u1 : Int) ∧ wz = wr)
    case first =>
      cases bi with
      | true =>
        have e : u1 = u0 := by simpa using heu
        clear heu
        subst e
        go_wp2
        go_meet
        exact ⟨rfl, rfl⟩
      | false =>
        have e : u1 = u0 + 1 := by simpa using heu
        clear heu
        subst e
        go_wp2
        go_meet
        exact ⟨by go_num, rfl⟩
    case rest =>
      obtain ⟨rfl, rfl⟩ := hcut
      clear heu HSN x1 kb kr
      obtain ⟨wb, hwb⟩ : ∃ W, W = wc := ⟨_, rfl⟩
      subst hwb
      go_upto_region 10 with fail
      clear hW1 y0 y1 y2 x2
      go_wp2_with fail
      go_loopw [3, 8] (fun nv kv wr => ∃ (t : Nat), t ≤ ps.length ∧ nv = .int .i64 (((u1 + (ptrT ((j : Int) + 1) (ps.take t)).countP (fun s : Pr => !(xs.getD (s.2 - 1).toNat false)) : Nat)) : Int) ∧ kv = .int .i64 t ∧ Hid (Below W1.heap.size W1 wr)) (fun _ kv _ => ps.length - (intOf kv).toNat)
      case atStart => exact ⟨0, Nat.zero_le _, by simp [ptrT], rfl, Below.refl _ _⟩
      case round =>
        obtain ⟨t, ht, rfl, rfl, HT⟩ := hrel
        have t0 : (0 : Int) ≤ (t : Int) := by omega
        have HBZ : Hid (Below w1.heap.size w1 wr ∧ Below w.heap.size w wr) := by
          have b := HW1.out.1.trans (HT.out.mono HW1.out.1.size)
          exact ⟨b, HB1.out.trans (b.mono HB1.out.size)⟩
        have x7 : wr.cell? ⟨wb.heap.size, 2, none⟩ = some (.slice sa ps.length sc) := (HW1.out.2.over HT.out).cell 2
        have x0 : wr.cell? ⟨w.heap.size, 0, none⟩ = some (.slice (some ⟨gx, ox, none⟩) xs.length c1) := (HA1.out.over HBZ.out.1).cell 0
        by_cases htl : t < ps.length
        rotate_left
        · have t1 : ¬ ((t : Int) < (ps.length : Int)) := by omega
          have HE : Hid (unmQ xs ys is (RL.take (q + 1)) = u1 + (ptrT ((j : Int) + 1) (ps.take t)).countP (fun s : Pr => !(xs.getD (s.2 - 1).toNat false))) := by
            show _ = _
            rw [HU1.out, List.take_of_length_le (show ps.length ≤ t by omega)]
          go_wp2
          go_roundw
          case rel => exact ⟨q + 1, by omega, by rw [HE.out], by go_num, HBZ.out.1⟩
          case measure => simp [intOf]; omega
        have t1 : (t : Int) < (ps.length : Int) := by omega
        obtain ⟨gp, op, rfl, hgp, kp⟩ := HCP.out t htl
        replace kp := (HBZ.out.2.cell (p := ⟨gp, op + t, none⟩) hgp).trans kp
        have HTT := hide (congrArg (List.countP (fun s : Pr => !(xs.getD (s.2 - 1).toNat false))) (ptrT_take ((j : Int) + 1) ps t htl))
        have hle : (ptrT ((j : Int) + 1) (ps.take t)).countP (fun s : Pr => !(xs.getD (s.2 - 1).toNat false)) ≤ 2 := Nat.le_trans List.countP_le_length (Nat.le_trans (ptrT_len _ _) (by rw [List.length_take]; omega))
        obtain ⟨Pn, hPn⟩ : ∃ x, ps[t] = x := ⟨_, rfl⟩
        rw [hPn, List.countP_append] at HTT
        rw [hPn] at kp
        obtain ⟨v0, hv0⟩ : ∃ c, (ptrT ((j : Int) + 1) (ps.take t)).countP (fun s : Pr => !(xs.getD (s.2 - 1).toNat false)) = c := ⟨_, rfl⟩
        rw [hv0] at HTT hle ⊢
        have CI := hide (fun (W : World) => l01In_any Pn 1 (xs.length : Int) W)
        have hx16 : (xs.length : Int) = 16 := by have := HL.out; omega
        have hxe : inB Pn 1 (xs.length : Int) = inB Pn 1 16 := by rw [hx16]
        rw [hxe] at CI
        clear hPn hv0
        cases hin : inB Pn 1 16 with
        | false =>
          rw [hin] at CI HTT
          have HE : Hid ((ptrT ((j : Int) + 1) (ps.take (t + 1))).countP (fun s : Pr => !(xs.getD (s.2 - 1).toNat false)) = v0) := hide (by have := HTT.out; simpa using this)
          clear hin hx16 hxe
          go_upto_region 13 with fail
          go_quiet ((go_at_call 51; exact Calls.quiet_of_same (CI.out _)))
          go_wp2
          go_roundw
          case rel => exact ⟨t + 1, by omega, by rw [HE.out], by go_num, below_drewN HT.out _⟩
          case measure => simp [intOf]; omega
        | true =>
          rw [hin] at CI HTT
          obtain ⟨hp1, hp2'⟩ := inB_true hin
          obtain ⟨p, rfl⟩ : ∃ p : Nat, Pn = (p : Int) + 1 := ⟨(Pn - 1).toNat, by omega⟩
          have kx := HBX.out wr p HBZ.out.2 (by omega)
          have p0 : (0 : Int) ≤ (p : Int) := by omega
          have pl : (p : Int) < (xs.length : Int) := by omega
          have hwp : IntKind.i64.wrap (p : Int) = (p : Int) := wrap_small _ (by omega) (by omega)
          have HTT2 : Hid ((ptrT ((j : Int) + 1) (ps.take (t + 1))).countP (fun s : Pr => !(xs.getD (s.2 - 1).toNat false)) = v0 + if xs.getD p false = true then 0 else 1) := hide (by
            have := HTT.out
            rw [this, if_pos rfl, List.countP_cons, List.countP_nil]
            have e : ((p : Int) + 1 - 1).toNat = p := by omega
            simp only [e]
            cases xs.getD p false <;> simp)
          obtain ⟨bx, hbx⟩ : ∃ b, xs.getD p false = b := ⟨_, rfl⟩
          rw [hbx] at kx HTT2
          clear hbx hin hx16 hxe hp1 hp2' HTT
          go_upto_region 13 with fail
          go_quiet ((go_at_call 51; exact Calls.quiet_of_same (CI.out _)))
          cases bx with
          | true =>
            have HE : Hid ((ptrT ((j : Int) + 1) (ps.take (t + 1))).countP (fun s : Pr => !(xs.getD (s.2 - 1).toNat false)) = v0) := hide (by have := HTT2.out; simpa using this)
            go_wp2
            go_roundw
            case rel => exact ⟨t + 1, by omega, by rw [HE.out], by go_num, below_drewN HT.out _⟩
            case measure => simp [intOf]; omega
          | false =>
            have HE : Hid ((ptrT ((j : Int) + 1) (ps.take (t + 1))).countP (fun s : Pr => !(xs.getD (s.2 - 1).toNat false)) = v0 + 1) := hide (by have := HTT2.out; simpa using this)
            go_wp2
            go_roundw
            case rel => exact ⟨t + 1, by omega, by rw [HE.out]; go_num, by go_num, below_drewN HT.out _⟩
            case measure => simp [intOf]; omega
end Go.Proofs.YtljooldjcefkoaaGreat
