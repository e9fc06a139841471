/- Texts of the proof, bundled: Lk, Rx, Ck, Pt, Pu. -/
import Derived.Laws.EntriesVeiled
import Derived.BigQuiet
import Derived.Deep.RegionWith
import Derived.Test.YtljooldjcefkoaaGreatU12
/- impl.reachedSlots and impl.LinksOf by their contracts. -/
namespace Go.Proofs.YtljooldjcefkoaaGreat
open Go.RowKit Kit
set_option maxRecDepth 100000 in
set_option maxHeartbeats 3200000 in
theorem rSlots_any (dx dy iv bv : Value) (xs ys : List Bool) (is : List Ino) (bs : List Blk) (w : World) (h : DR w dx dy iv bv xs ys is bs) (hR : RD is bs) :
    Calls Tryz.prog 60 #[.agg #[dx, dy, iv, bv]] w fun e w' => ∃ v, e = .returned v ∧ SOwns w' w.heap.size 77 v (slotsR is bs) ∧ Below w.heap.size w w' := by
  obtain ⟨a1, c1, a2, c2, a3, c3, a4, c4, rfl, rfl, rfl, rfl⟩ := h.form
  have HB0 : Hid (Below w.heap.size w (w.alloc (.cells #[.slice a1 xs.length c1, .slice a2 ys.length c2, .slice a3 is.length c3, .slice a4 bs.length c4] 35))) := (Below.refl _ w).alloc (Nat.le_refl _) _
  have HA0 := hide (AtC.new w 35 #[.slice a1 xs.length c1, .slice a2 ys.length c2, .slice a3 is.length c3, .slice a4 bs.length c4])
  have CR := hide (implReach_any (.slice a1 xs.length c1) (.slice a2 ys.length c2) (.slice a3 is.length c3) (.slice a4 bs.length c4) xs ys is bs (w.alloc (.cells #[.slice a1 xs.length c1, .slice a2 ys.length c2, .slice a3 is.length c3, .slice a4 bs.length c4] 35)) (h.alloc _) hR)
  have CN := hide (fun (x : Int) (W : World) (hb : Below w.heap.size w W) => namedI_any x (.slice a1 xs.length c1) (.slice a2 ys.length c2) (.slice a3 is.length c3) (.slice a4 bs.length c4) xs ys is bs W (h.below hb (Nat.le_refl _)) hR)
  have HL8 : Hid (∀ x, (named is bs x).length ≤ 8) := hR.named8
  have HLT : Hid (∀ q, (((reachL is bs).take q).flatMap (named is bs)).length ≤ 64) := fun q => by
    have h1 := flatN_len hR ((reachL is bs).take q)
    have h2 := reachL_len is bs
    rw [List.length_take] at h1
    omega
  have HR8 := hide (reachL_len is bs)
  have HFT := hide (fun q hq => flat_take (reachL is bs) (named is bs) q hq)
  obtain ⟨RL, hRL⟩ : ∃ l, reachL is bs = l := ⟨_, rfl⟩
  have HRES : Hid (slotsR is bs = RL.flatMap (named is bs)) := by show slotsR is bs = _; unfold slotsR; rw [hRL]
  rw [HRES.out]
  rw [hRL] at CR HLT HR8 HFT
  clear h hR hRL HRES
  go_enter Tryz.func60, Tryz.ntmps60
  go_wp2_with fail
  refine CR.out.mono ?_
  rintro e w1 ⟨rv, rfl, R1, B1⟩
  have HB1 := hide (HB0.out.trans (B1.mono HB0.out.size))
  have HA1 := hide (HA0.out.over B1)
  obtain ⟨ra, rc, rfl, hcr⟩ := R1.rints
  have HCR := hide hcr
  have r8 : RL.length ≤ 8 := HR8.out
  clear R1 B1 CR HB0 HA0 hcr
  go_wp2_with fail
  go_loopw [3, 9] (fun sv kv wr => ∃ (s' : Value) (q : Nat), s' = sv ∧ q ≤ RL.length ∧ kv = .int .i64 q ∧ Hid (SOwns wr w1.heap.size 77 s' ((RL.take q).flatMap (named is bs)) ∧ Below w1.heap.size w1 wr)) (fun _ kv _ => RL.length - (intOf kv).toNat)
  case atStart => exact ⟨_, 0, rfl, Nat.zero_le _, rfl, by simpa using SOwns.nil w1 w1.heap.size 77, Below.refl _ _⟩
  case round =>
    obtain ⟨sv, q, hsv, hq, rfl, HQ⟩ := hrel
    subst hsv
    have q0 : (0 : Int) ≤ (q : Int) := by omega
    by_cases hlt : q < RL.length
    rotate_left
    · have q1 : ¬ ((q : Int) < (RL.length : Int)) := by omega
      go_wp2
      go_ret
      have := HQ.out.1
      rw [List.take_of_length_le (by omega)] at this
      exact ⟨_, rfl, this.base_le HB1.out.size, HB1.out.trans (HQ.out.2.mono HB1.out.size)⟩
    have q1 : (q : Int) < (RL.length : Int) := by omega
    obtain ⟨gr, orr, rfl, hgr, kr⟩ := HCR.out q hlt
    replace kr := (HQ.out.2.cell (p := ⟨gr, orr + q, none⟩) hgr).trans kr
    have HF1 := hide (HFT.out q hlt)
    obtain ⟨di, hdi⟩ : ∃ x, RL[q] = x := ⟨_, rfl⟩
    rw [hdi] at kr HF1
    have HB2 := hide (HB1.out.trans (HQ.out.2.mono HB1.out.size))
    have HA2 := hide (HA1.out.over HQ.out.2)
    have z0 : wr.cell? ⟨w.heap.size, 0, none⟩ = some (.slice a1 xs.length c1) := HA2.out.cell 0
    have z1 : wr.cell? ⟨w.heap.size, 1, none⟩ = some (.slice a2 ys.length c2) := HA2.out.cell 1
    have z2 : wr.cell? ⟨w.heap.size, 2, none⟩ = some (.slice a3 is.length c3) := HA2.out.cell 2
    have z3 : wr.cell? ⟨w.heap.size, 3, none⟩ = some (.slice a4 bs.length c4) := HA2.out.cell 3
    have CN1 := hide (CN.out di wr HB2.out)
    clear hdi
    go_wp2_with fail
    refine CN1.out.mono ?_
    rintro e w2 ⟨nv, rfl, S2, B2⟩
    obtain ⟨na, nc, rfl, -⟩ := S2.form
    have HS2 : Hid (SOwns w2 w1.heap.size 77 sv ((RL.take q).flatMap (named is bs)) ∧ RSl w2 (.slice na (named is bs di).length nc) (named is bs di) ∧ w1.heap.size ≤ w2.heap.size ∧ Below w1.heap.size w1 w2) := ⟨HQ.out.1.below B2 (Nat.le_refl _), S2.rsl, Nat.le_trans HQ.out.2.size B2.size, HQ.out.2.trans (B2.mono HQ.out.2.size)⟩
    have HLN : Hid (((RL.take q).flatMap (named is bs)).length ≤ 100000000000 ∧ (named is bs di).length ≤ 100000000) := ⟨by have := HLT.out q; omega, by have := HL8.out di; omega⟩
    clear S2 B2 CN1 z0 z1 z2 z3 kr
    go_wp2_with (at_builtin; refine wpList_step fun K' hK' => ?_; refine step_append_sls _ rfl (.tmp 13) (.tmp 16) rfl w1.heap.size sv _ rfl HS2.out.1 HS2.out.2.2.1 _ _ rfl HS2.out.2.1 HLN.out.1 HLN.out.2 ?_; intro v9 w9 T9 G9 V9; refine hK' _ _ ?_; rw [← HF1.out] at T9; have HR9 := hide (And.intro T9 (HS2.out.2.2.2.grown G9 HS2.out.2.2.1 (fun k hk => (HS2.out.1.lt k hk).1))); clear T9 G9 V9 hK')
    go_roundw
    case rel => exact ⟨v9, q + 1, rfl, by omega, by go_num, HR9.out⟩
    case measure => simp [intOf]; omega
set_option maxRecDepth 100000 in
set_option maxHeartbeats 3200000 in
theorem implLinks_any (x : Int) (dx dy iv bv : Value) (xs ys : List Bool) (is : List Ino) (bs : List Blk) (w : World) (h : DR w dx dy iv bv xs ys is bs) (hR : RD is bs) :
    Calls Tryz.prog 72 #[.agg #[dx, dy, iv, bv], .int .i64 x] w fun e w' => e = .returned (.int .i64 (linksN is bs x)) ∧ Below w.heap.size w w' := by
  obtain ⟨a1, c1, a2, c2, a3, c3, a4, c4, rfl, rfl, rfl, rfl⟩ := h.form
  have HB0 : Hid (Below w.heap.size w (w.alloc (.cells #[.slice a1 xs.length c1, .slice a2 ys.length c2, .slice a3 is.length c3, .slice a4 bs.length c4] 35))) := (Below.refl _ w).alloc (Nat.le_refl _) _
  have CR := hide (rSlots_any (.slice a1 xs.length c1) (.slice a2 ys.length c2) (.slice a3 is.length c3) (.slice a4 bs.length c4) xs ys is bs (w.alloc (.cells #[.slice a1 xs.length c1, .slice a2 ys.length c2, .slice a3 is.length c3, .slice a4 bs.length c4] 35)) (h.alloc _) hR)
  have HS6 := hide (slotsR_len hR)
  obtain ⟨SL, hSL⟩ : ∃ l, slotsR is bs = l := ⟨_, rfl⟩
  have HRES : Hid (linksN is bs x = SL.countP fun s => decide (s.2 = x)) := by show linksN is bs x = _; unfold linksN; rw [hSL]
  rw [HRES.out]
  rw [hSL] at CR HS6
  clear h hR hSL HRES
  go_enter Tryz.func72, Tryz.ntmps72
  go_wp2_with fail
  refine CR.out.mono ?_
  rintro e w1 ⟨rv, rfl, R1, B1⟩
  have HB1 := hide (HB0.out.trans (B1.mono HB0.out.size))
  obtain ⟨ra, rc, rfl, -, hcr⟩ := R1.rsl
  have HCR := hide hcr
  have r8 : SL.length ≤ 64 := HS6.out
  clear R1 B1 CR HB0 hcr
  go_wp2_with fail
  go_loopw [5, 11] (fun nv kv wr => ∃ (q : Nat), q ≤ SL.length ∧ nv = .int .i64 (((SL.take q).countP fun s => decide (s.2 = x) : Nat) : Int) ∧ kv = .int .i64 q ∧ Hid (Below w1.heap.size w1 wr)) (fun _ kv _ => SL.length - (intOf kv).toNat)
  case atStart => exact ⟨0, Nat.zero_le _, by simp, rfl, Below.refl _ _⟩
  case round =>
    obtain ⟨q, hq, rfl, rfl, HQ⟩ := hrel
    have q0 : (0 : Int) ≤ (q : Int) := by omega
    by_cases hlt : q < SL.length
    rotate_left
    · have q1 : ¬ ((q : Int) < (SL.length : Int)) := by omega
      rw [List.take_of_length_le (by omega)]
      go_wp2
      go_ret
      exact ⟨rfl, HB1.out.trans (HQ.out.mono HB1.out.size)⟩
    have q1 : (q : Int) < (SL.length : Int) := by omega
    obtain ⟨gs, os, rfl, hgs, ks0, ks1⟩ := HCR.out q hlt
    have HCT := hide (countP_take SL (fun s => decide (s.2 = x)) q hlt)
    have hle := countP_take_le SL (fun s => decide (s.2 = x)) q
    obtain ⟨⟨sn, si⟩, hsn⟩ : ∃ X, SL[q] = X := ⟨_, rfl⟩
    rw [hsn] at ks0 ks1 HCT
    simp only at ks0 ks1
    replace ks0 := (HQ.out.cell (p := ⟨gs, os + q * 2, none⟩) hgs).trans ks0
    replace ks1 := (HQ.out.cell (p := ⟨gs, os + q * 2 + 1, none⟩) hgs).trans ks1
    have hgw : ¬ gs = wr.heap.size := by have := HQ.out.size; omega
    have HQ2 : Hid (Below w1.heap.size w1 (wr.alloc (.cells #[.string sn, .int .i64 si] 77))) := HQ.out.alloc HQ.out.size _
    obtain ⟨cn, hcn⟩ : ∃ c, (SL.take q).countP (fun s => decide (s.2 = x)) = c := ⟨_, rfl⟩
    rw [hcn] at HCT hle ⊢
    clear hsn hcn
    by_cases hx : si = x
    · subst hx
      have HE : Hid ((SL.take (q + 1)).countP (fun s => decide (s.2 = si)) = cn + 1) := hide (by have := HCT.out; simpa using this)
      go_wp2
      go_roundw
      case rel => exact ⟨q + 1, by omega, by rw [HE.out]; go_num, by go_num, HQ2.out⟩
      case measure => simp [intOf]; omega
    · have HE : Hid ((SL.take (q + 1)).countP (fun s => decide (s.2 = x)) = cn) := hide (by have := HCT.out; simpa [hx] using this)
      go_wp2
      go_roundw
      case rel => exact ⟨q + 1, by omega, by rw [HE.out], by go_num, HQ2.out⟩
      case measure => simp [intOf]; omega
end Go.Proofs.YtljooldjcefkoaaGreat
/- A right disk: what is asked of it besides; its parts in memory. No Go function is spoken of. -/
namespace Go.Proofs.YtljooldjcefkoaaGreat
open Go.RowKit Kit
/-- A right disk. -/
structure RX (xs ys : List Bool) (is : List Ino) (bs : List Blk) : Prop where
  r : RD is bs
  sr : ∀ q ∈ bs, ∀ s ∈ q.2.1, s.1 = ⟨#[]⟩ ∨ (1 ≤ s.2 ∧ s.2 ≤ 8)
  pr : ∀ q ∈ is, ∀ p ∈ q.2.2, 0 ≤ p ∧ p ≤ 16
  bx : xs.length = 16
  y8 : ys.length = 8
theorem RX.of_ok {xs ys : List Bool} {is : List Ino} {bs : List Blk} (h : diskOk xs ys is bs = true) : RX xs ys is bs := by
  have hr := RD.of_ok h
  unfold diskOk at h
  simp only [Bool.and_eq_true, decide_eq_true_eq] at h
  obtain ⟨⟨h0, h1, h2⟩, h3, h4⟩ := h
  have hi : ∀ q ∈ is, inoOk q = true := List.all_eq_true.1 h1
  have hb : ∀ q ∈ bs, blkOk q = true := List.all_eq_true.1 h3
  have h00 : xs.length = 16 ∧ ys.length = 8 := by simpa [okB] using h0
  refine ⟨hr, fun q hq s hs => ?_, fun q hq p hp => ?_, h00.1, h00.2⟩
  · have := hb q hq
    unfold blkOk blockOk at this
    cases e : q.1 with
    | true =>
      rw [e] at this
      have h5 : q.2.2.size = 0 ∧ slotsOk q.2.1 = true := by simpa using this
      have h6 := h5.2
      unfold slotsOk at h6
      rw [Bool.and_eq_true] at h6
      have := okF_all _ _ h6.2 s hs
      rcases of_decide_eq_true this with h | h
      · exact .inl (size_zero h.1)
      · exact .inr h.2
    | false =>
      rw [hr.text q hq e] at hs
      cases hs
  · have := hi q hq
    unfold inoOk at this
    obtain ⟨k, l, ps⟩ := q
    match ps, this, hp with
    | [a, b], h, hp =>
      have h5 := of_decide_eq_true h
      simp only [List.mem_cons, List.not_mem_nil, or_false] at hp
      rcases hp with rfl | rfl <;> omega
    | [], h, _ => cases h
    | [_], h, _ => cases h
    | _ :: _ :: _ :: _, h, _ => cases h
theorem RX.slot {xs ys : List Bool} {is : List Ino} {bs : List Blk} (h : RX xs ys is bs) {i : Int} {s : Sl} (hs : s ∈ named is bs i) : 1 ≤ s.2 ∧ s.2 ≤ 8 := by
  unfold named at hs
  split at hs
  · obtain ⟨p, -, hp⟩ := List.mem_flatMap.1 hs
    unfold nmd at hp
    split at hp
    · obtain ⟨h1, h2⟩ := mem_nmdS hp
      rcases blkAt_cases bs p with e | e
      · rw [e] at h1; simp at h1
      · exact (h.sr _ e s h1).resolve_left h2
    · simp at hp
  · simp at hs
theorem RX.ptr {xs ys : List Bool} {is : List Ino} {bs : List Blk} (h : RX xs ys is bs) {i p : Int} (hp : p ∈ ptrsAt is i) : 0 ≤ p ∧ p ≤ 16 := by
  rcases kindAt_cases (is := is) i with ⟨-, e⟩ | ⟨q, hq, -, e⟩
  · rw [e] at hp; cases hp
  · rw [e] at hp; exact h.pr q hq p hp
theorem reach8 {is : List Ino} {bs : List Blk} {i : Int} (hi : i ∈ reachL is bs) : 1 ≤ i ∧ i ≤ 8 := mem_all8.1 ((rchL_sub _).subset hi)
/-- An inode in memory. -/
theorem DR.ino {w : World} {u v bv : Value} {a3 : Option Addr} {n c3 : Nat} {xs ys : List Bool} {is : List Ino} {bs : List Blk} (h : DR w u v (.slice a3 n c3) bv xs ys is bs) (j : Nat) (hj : j < is.length) :
    ∃ g2 o2 sa sc, a3 = some ⟨g2, o2, none⟩ ∧ g2 < w.heap.size ∧ w.cell? ⟨g2, o2 + j * 3, none⟩ = some (.int .i64 (kindAt is ((j : Int) + 1))) ∧ w.cell? ⟨g2, o2 + j * 3 + 1, none⟩ = some (.int .i64 is[j].2.1) ∧ w.cell? ⟨g2, o2 + j * 3 + 2, none⟩ = some (.slice sa (ptrsAt is ((j : Int) + 1)).length sc) ∧ RInts w (.slice sa (ptrsAt is ((j : Int) + 1)).length sc) (ptrsAt is ((j : Int) + 1)) := by
  obtain ⟨qa, qc, qe, -, qh⟩ := h.i
  simp only [Value.slice.injEq] at qe
  obtain ⟨rfl, rfl, rfl⟩ := qe
  obtain ⟨g2, o2, ⟨t0, t1, t2⟩, rfl, hg2, r0, r1, r2, e0, e1, rr⟩ := qh j hj
  simp only at r0 r1 r2 e0 e1 rr
  subst e0 e1
  obtain ⟨sa, sc, rfl⟩ := rr.form
  rw [(kindAt_in hj).1, (kindAt_in hj).2]
  exact ⟨g2, o2, sa, sc, rfl, hg2, r0, r1, r2, rr⟩
theorem DR.bit {w : World} {a : Option Addr} {n c : Nat} {zs : List Bool} (h : RFl w (.slice a n c) zs) (j : Nat) (hj : j < zs.length) :
    ∃ g o, a = some ⟨g, o, none⟩ ∧ g < w.heap.size ∧ w.cell? ⟨g, o + j, none⟩ = some (.bool zs[j]) := by
  obtain ⟨a', c', e, hc⟩ := h
  simp only [Value.slice.injEq] at e
  obtain ⟨rfl, rfl, rfl⟩ := e
  exact hc j hj
/-- A block in memory: its flag. -/
theorem DR.blk {w : World} {u v iv : Value} {a4 : Option Addr} {n c4 : Nat} {xs ys : List Bool} {is : List Ino} {bs : List Blk} (h : DR w u v iv (.slice a4 n c4) xs ys is bs) (j : Nat) (hj : j < bs.length) :
    ∃ g o, a4 = some ⟨g, o, none⟩ ∧ g < w.heap.size ∧ w.cell? ⟨g, o + j * 3, none⟩ = some (.bool (blkAt bs ((j : Int) + 1)).1) := by
  obtain ⟨qa, qc, qe, -, qh⟩ := h.k
  simp only [Value.slice.injEq] at qe
  obtain ⟨rfl, rfl, rfl⟩ := qe
  obtain ⟨g2, o2, ⟨t0, t1, t2⟩, rfl, hg2, r0, r1, r2, e0, e1, rr⟩ := qh j hj
  simp only at r0 e0
  subst e0
  have hb : inB ((j : Int) + 1) 1 bs.length = true := by simp [inB]; omega
  refine ⟨g2, o2, rfl, hg2, ?_⟩
  obtain ⟨jb, hjb, e, e2⟩ := blkAt_in hb
  obtain rfl : jb = j := by omega
  rw [r0, e2]
end Go.Proofs.YtljooldjcefkoaaGreat
/- impl's check of numbers, of slots and of pointers by their contracts: how many are wrong, whatever closure says so. -/
namespace Go.Proofs.YtljooldjcefkoaaGreat
open Go.RowKit Kit
set_option maxRecDepth 100000 in
set_option maxHeartbeats 1600000 in
theorem cntI_any (g : Nat) (eg : ∀ args w, (callFunc g args).run Tryz.prog w = .ok (.enter g args) w) (cp av : Value) (zs : List Int) (p : Nat → Bool) (Inv : Nat → World → Prop) (S : Nat → Prop) (w : World) (hl : zs.length ≤ 1000) (hS : ∀ k, S k → k < w.heap.size) (hz : ∀ W, Chg S w W → RInts W av zs) (h0 : ∀ W, Below w.heap.size w W → Inv 0 W) (hst : ∀ k W W', Inv k W → Below W.heap.size W W' → Inv k W')
    (hcall : ∀ k (hk : k < zs.length) W, Inv k W → Chg S w W → Calls Tryz.prog g #[.int .i64 (zs[k]), cp] W fun e w' => e = .returned (.bool (p k)) ∧ Inv (k + 1) w' ∧ Chg S W w') :
    Calls Tryz.prog 43 #[.agg #[av, .func (.func g) #[] #[cp]]] w fun e w' => e = .returned (.int .i64 ((List.range zs.length).countP p : Nat)) ∧ Inv zs.length w' ∧ Chg S w w' := by
  have HZ := hide hz
  obtain ⟨va, vc, rfl, -⟩ := hz w (Chg.refl _ _)
  have HS0 : Hid (Inv 0 (w.alloc (.cells #[.slice va zs.length vc, .func (.func g) #[] #[cp]] 59)) ∧ Chg S w (w.alloc (.cells #[.slice va zs.length vc, .func (.func g) #[] #[cp]] 59)) ∧ AtC (w.alloc (.cells #[.slice va zs.length vc, .func (.func g) #[] #[cp]] 59)) w.heap.size 59 #[.slice va zs.length vc, .func (.func g) #[] #[cp]]) := ⟨h0 _ ((Below.refl _ w).alloc (Nat.le_refl _) _), Chg.of_below ((Below.refl _ w).alloc (Nat.le_refl _) _), AtC.new _ _ _⟩
  have HST := hide hst
  have HC := hide hcall
  have HSS := hide hS
  clear hz h0 hst hcall hS
  go_enter Tryz.func43, Tryz.ntmps43
  go_wp2_with fail
  go_loopw [3, 9] (fun nv kv wr => ∃ (q : Nat), q ≤ zs.length ∧ nv = .int .i64 ((((List.range q).countP p : Nat)) : Int) ∧ kv = .int .i64 q ∧ Hid (Inv q wr ∧ Chg S w wr ∧ AtC wr w.heap.size 59 #[.slice va zs.length vc, .func (.func g) #[] #[cp]])) (fun _ kv _ => zs.length - (intOf kv).toNat)
  case atStart => exact ⟨0, Nat.zero_le _, by simp, rfl, HS0.out⟩
  case round =>
    obtain ⟨q, hq, rfl, rfl, HQ⟩ := hrel
    clear HS0
    have q0 : (0 : Int) ≤ (q : Int) := by omega
    by_cases hlt : q < zs.length
    rotate_left
    · have q1 : ¬ ((q : Int) < (zs.length : Int)) := by omega
      go_wp2
      go_ret
      obtain rfl : q = zs.length := by omega
      exact ⟨rfl, HQ.out.1, HQ.out.2.1⟩
    have q1 : (q : Int) < (zs.length : Int) := by omega
    have HCT : Hid ((List.range (q + 1)).countP p = (List.range q).countP p + if p q = true then 1 else 0) := by
      show _ = _
      rw [List.range_succ, List.countP_append, List.countP_cons, List.countP_nil, Nat.zero_add]
    have hle : (List.range q).countP p ≤ q := Nat.le_trans List.countP_le_length (by simp)
    obtain ⟨cn, hcn⟩ : ∃ c, (List.range q).countP p = c := ⟨_, rfl⟩
    rw [hcn] at HCT hle ⊢
    clear hcn
    obtain ⟨ca, cc, ec, hcs⟩ := HZ.out wr HQ.out.2.1
    simp only [Value.slice.injEq, true_and] at ec
    obtain ⟨rfl, rfl⟩ := ec
    obtain ⟨gs, os, rfl, hgs, ks0⟩ := hcs q hlt
    have HC1 := hide (HC.out q hlt wr HQ.out.1 HQ.out.2.1)
    obtain ⟨si, hsi⟩ : ∃ X, zs[q] = X := ⟨_, rfl⟩
    rw [hsi] at ks0 HC1
    clear hsi
    have HQ2 : Hid (Inv q wr ∧ Chg S w wr ∧ AtC wr w.heap.size 59 #[.slice (some ⟨gs, os, none⟩) zs.length vc, .func (.func g) #[] #[cp]]) := HQ.out
    have hbw : ¬ w.heap.size = wr.heap.size := by have := HQ.out.2.2.lt; omega
    have hgw : ¬ gs = wr.heap.size := by omega
    have m0 : wr.cell? ⟨w.heap.size, 0, none⟩ = some (.slice (some ⟨gs, os, none⟩) zs.length vc) := HQ2.out.2.2.cell 0
    have m1 : wr.cell? ⟨w.heap.size, 1, none⟩ = some (.func (.func g) #[] #[cp]) := HQ2.out.2.2.cell 1
    clear hcs HQ
    go_wp2_with fail
    refine HC1.out.mono ?_
    rintro e w2 ⟨rfl, I2, G2⟩
    have HN : Hid (Inv (q + 1) w2 ∧ Chg S w w2 ∧ AtC w2 w.heap.size 59 #[.slice (some ⟨gs, os, none⟩) zs.length vc, .func (.func g) #[] #[cp]]) := ⟨I2, HQ2.out.2.1.trans G2, (G2.block _ HQ2.out.2.2.lt (fun e => by have := HSS.out _ e; omega)).trans HQ2.out.2.2⟩
    clear I2 G2 HC1 HQ2 m0 m1
    cases hpq : p q with
    | true =>
      have HE : Hid ((List.range (q + 1)).countP p = cn + 1) := hide (by have := HCT.out; rw [hpq] at this; simpa using this)
      clear hpq
      go_wp2
      go_roundw
      case rel => exact ⟨q + 1, by omega, by rw [HE.out]; go_num, by go_num, HN.out⟩
      case measure => simp [intOf]; omega
    | false =>
      have HE : Hid ((List.range (q + 1)).countP p = cn) := hide (by have := HCT.out; rw [hpq] at this; simpa using this)
      clear hpq
      go_wp2
      go_roundw
      case rel => exact ⟨q + 1, by omega, by rw [HE.out], by go_num, HN.out⟩
      case measure => simp [intOf]; omega
set_option maxRecDepth 100000 in
set_option maxHeartbeats 1600000 in
theorem cntS_any (g : Nat) (eg : ∀ args w, (callFunc g args).run Tryz.prog w = .ok (.enter g args) w) (cp av : Value) (zs : List Sl) (p : Nat → Bool) (Inv : Nat → World → Prop) (S : Nat → Prop) (w : World) (hl : zs.length ≤ 1000) (hS : ∀ k, S k → k < w.heap.size) (hz : ∀ W, Chg S w W → RSl W av zs) (h0 : ∀ W, Below w.heap.size w W → Inv 0 W) (hst : ∀ k W W', Inv k W → Below W.heap.size W W' → Inv k W')
    (hcall : ∀ k (hk : k < zs.length) W, Inv k W → Chg S w W → Calls Tryz.prog g #[.agg #[.string (zs[k]).1, .int .i64 (zs[k]).2], cp] W fun e w' => e = .returned (.bool (p k)) ∧ Inv (k + 1) w' ∧ Chg S W w') :
    Calls Tryz.prog 62 #[.agg #[av, .func (.func g) #[] #[cp]]] w fun e w' => e = .returned (.int .i64 ((List.range zs.length).countP p : Nat)) ∧ Inv zs.length w' ∧ Chg S w w' := by
  have HZ := hide hz
  obtain ⟨va, vc, rfl, -⟩ := hz w (Chg.refl _ _)
  have HS0 : Hid (Inv 0 (w.alloc (.cells #[.slice va zs.length vc, .func (.func g) #[] #[cp]] 88)) ∧ Chg S w (w.alloc (.cells #[.slice va zs.length vc, .func (.func g) #[] #[cp]] 88)) ∧ AtC (w.alloc (.cells #[.slice va zs.length vc, .func (.func g) #[] #[cp]] 88)) w.heap.size 88 #[.slice va zs.length vc, .func (.func g) #[] #[cp]]) := ⟨h0 _ ((Below.refl _ w).alloc (Nat.le_refl _) _), Chg.of_below ((Below.refl _ w).alloc (Nat.le_refl _) _), AtC.new _ _ _⟩
  have HST := hide hst
  have HC := hide hcall
  have HSS := hide hS
  clear hz h0 hst hcall hS
  go_enter Tryz.func62, Tryz.ntmps62
  go_wp2_with fail
  go_loopw [3, 9] (fun nv kv wr => ∃ (q : Nat), q ≤ zs.length ∧ nv = .int .i64 ((((List.range q).countP p : Nat)) : Int) ∧ kv = .int .i64 q ∧ Hid (Inv q wr ∧ Chg S w wr ∧ AtC wr w.heap.size 88 #[.slice va zs.length vc, .func (.func g) #[] #[cp]])) (fun _ kv _ => zs.length - (intOf kv).toNat)
  case atStart => exact ⟨0, Nat.zero_le _, by simp, rfl, HS0.out⟩
  case round =>
    obtain ⟨q, hq, rfl, rfl, HQ⟩ := hrel
    clear HS0
    have q0 : (0 : Int) ≤ (q : Int) := by omega
    by_cases hlt : q < zs.length
    rotate_left
    · have q1 : ¬ ((q : Int) < (zs.length : Int)) := by omega
      go_wp2
      go_ret
      obtain rfl : q = zs.length := by omega
      exact ⟨rfl, HQ.out.1, HQ.out.2.1⟩
    have q1 : (q : Int) < (zs.length : Int) := by omega
    have HCT : Hid ((List.range (q + 1)).countP p = (List.range q).countP p + if p q = true then 1 else 0) := by
      show _ = _
      rw [List.range_succ, List.countP_append, List.countP_cons, List.countP_nil, Nat.zero_add]
    have hle : (List.range q).countP p ≤ q := Nat.le_trans List.countP_le_length (by simp)
    obtain ⟨cn, hcn⟩ : ∃ c, (List.range q).countP p = c := ⟨_, rfl⟩
    rw [hcn] at HCT hle ⊢
    clear hcn
    obtain ⟨ca, cc, ec, -, hcs⟩ := HZ.out wr HQ.out.2.1
    simp only [Value.slice.injEq, true_and] at ec
    obtain ⟨rfl, rfl⟩ := ec
    obtain ⟨gs, os, rfl, hgs, ks0, ks1⟩ := hcs q hlt
    obtain ⟨⟨sn, si⟩, hsi⟩ : ∃ X, zs[q] = X := ⟨_, rfl⟩
    have HQ2 : Hid (Inv q (wr.alloc (.cells #[.string sn, .int .i64 si] 77)) ∧ Chg S w (wr.alloc (.cells #[.string sn, .int .i64 si] 77)) ∧ AtC (wr.alloc (.cells #[.string sn, .int .i64 si] 77)) w.heap.size 88 #[.slice (some ⟨gs, os, none⟩) zs.length vc, .func (.func g) #[] #[cp]]) := by
      have b := (Below.refl _ wr).alloc (Nat.le_refl _) (.cells #[.string sn, .int .i64 si] 77)
      exact ⟨HST.out q wr _ HQ.out.1 b, HQ.out.2.1.trans (Chg.of_below b), HQ.out.2.2.over b⟩
    have HC1 := hide (HC.out q hlt (wr.alloc (.cells #[.string sn, .int .i64 si] 77)) HQ2.out.1 HQ2.out.2.1)
    rw [hsi] at ks0 ks1 HC1
    simp only at ks0 ks1 HC1
    clear hsi
    have hbw : ¬ w.heap.size = wr.heap.size := by have := HQ.out.2.2.lt; omega
    have hgw : ¬ gs = wr.heap.size := by omega
    have m0 : (wr.alloc (.cells #[.string sn, .int .i64 si] 77)).cell? ⟨w.heap.size, 0, none⟩ = some (.slice (some ⟨gs, os, none⟩) zs.length vc) := HQ2.out.2.2.cell 0
    have m1 : (wr.alloc (.cells #[.string sn, .int .i64 si] 77)).cell? ⟨w.heap.size, 1, none⟩ = some (.func (.func g) #[] #[cp]) := HQ2.out.2.2.cell 1
    clear hcs HQ
    go_wp2_with fail
    refine HC1.out.mono ?_
    rintro e w2 ⟨rfl, I2, G2⟩
    have HN : Hid (Inv (q + 1) w2 ∧ Chg S w w2 ∧ AtC w2 w.heap.size 88 #[.slice (some ⟨gs, os, none⟩) zs.length vc, .func (.func g) #[] #[cp]]) := ⟨I2, HQ2.out.2.1.trans G2, (G2.block _ HQ2.out.2.2.lt (fun e => by have := HSS.out _ e; omega)).trans HQ2.out.2.2⟩
    clear I2 G2 HC1 HQ2 m0 m1
    cases hpq : p q with
    | true =>
      have HE : Hid ((List.range (q + 1)).countP p = cn + 1) := hide (by have := HCT.out; rw [hpq] at this; simpa using this)
      clear hpq
      go_wp2
      go_roundw
      case rel => exact ⟨q + 1, by omega, by rw [HE.out]; go_num, by go_num, HN.out⟩
      case measure => simp [intOf]; omega
    | false =>
      have HE : Hid ((List.range (q + 1)).countP p = cn) := hide (by have := HCT.out; rw [hpq] at this; simpa using this)
      clear hpq
      go_wp2
      go_roundw
      case rel => exact ⟨q + 1, by omega, by rw [HE.out], by go_num, HN.out⟩
      case measure => simp [intOf]; omega
set_option maxRecDepth 100000 in
set_option maxHeartbeats 1600000 in
theorem cntP_any (g : Nat) (eg : ∀ args w, (callFunc g args).run Tryz.prog w = .ok (.enter g args) w) (cp av : Value) (zs : List Pr) (p : Nat → Bool) (Inv : Nat → World → Prop) (S : Nat → Prop) (w : World) (hl : zs.length ≤ 1000) (hS : ∀ k, S k → k < w.heap.size) (hz : ∀ W, Chg S w W → RPr W av zs) (h0 : ∀ W, Below w.heap.size w W → Inv 0 W) (hst : ∀ k W W', Inv k W → Below W.heap.size W W' → Inv k W')
    (hcall : ∀ k (hk : k < zs.length) W, Inv k W → Chg S w W → Calls Tryz.prog g #[.agg #[.int .i64 (zs[k]).1, .int .i64 (zs[k]).2], cp] W fun e w' => e = .returned (.bool (p k)) ∧ Inv (k + 1) w' ∧ Chg S W w') :
    Calls Tryz.prog 65 #[.agg #[av, .func (.func g) #[] #[cp]]] w fun e w' => e = .returned (.int .i64 ((List.range zs.length).countP p : Nat)) ∧ Inv zs.length w' ∧ Chg S w w' := by
  have HZ := hide hz
  obtain ⟨va, vc, rfl, -⟩ := hz w (Chg.refl _ _)
  have HS0 : Hid (Inv 0 (w.alloc (.cells #[.slice va zs.length vc, .func (.func g) #[] #[cp]] 96)) ∧ Chg S w (w.alloc (.cells #[.slice va zs.length vc, .func (.func g) #[] #[cp]] 96)) ∧ AtC (w.alloc (.cells #[.slice va zs.length vc, .func (.func g) #[] #[cp]] 96)) w.heap.size 96 #[.slice va zs.length vc, .func (.func g) #[] #[cp]]) := ⟨h0 _ ((Below.refl _ w).alloc (Nat.le_refl _) _), Chg.of_below ((Below.refl _ w).alloc (Nat.le_refl _) _), AtC.new _ _ _⟩
  have HST := hide hst
  have HC := hide hcall
  have HSS := hide hS
  clear hz h0 hst hcall hS
  go_enter Tryz.func65, Tryz.ntmps65
  go_wp2_with fail
  go_loopw [3, 9] (fun nv kv wr => ∃ (q : Nat), q ≤ zs.length ∧ nv = .int .i64 ((((List.range q).countP p : Nat)) : Int) ∧ kv = .int .i64 q ∧ Hid (Inv q wr ∧ Chg S w wr ∧ AtC wr w.heap.size 96 #[.slice va zs.length vc, .func (.func g) #[] #[cp]])) (fun _ kv _ => zs.length - (intOf kv).toNat)
  case atStart => exact ⟨0, Nat.zero_le _, by simp, rfl, HS0.out⟩
  case round =>
    obtain ⟨q, hq, rfl, rfl, HQ⟩ := hrel
    clear HS0
    have q0 : (0 : Int) ≤ (q : Int) := by omega
    by_cases hlt : q < zs.length
    rotate_left
    · have q1 : ¬ ((q : Int) < (zs.length : Int)) := by omega
      go_wp2
      go_ret
      obtain rfl : q = zs.length := by omega
      exact ⟨rfl, HQ.out.1, HQ.out.2.1⟩
    have q1 : (q : Int) < (zs.length : Int) := by omega
    have HCT : Hid ((List.range (q + 1)).countP p = (List.range q).countP p + if p q = true then 1 else 0) := by
      show _ = _
      rw [List.range_succ, List.countP_append, List.countP_cons, List.countP_nil, Nat.zero_add]
    have hle : (List.range q).countP p ≤ q := Nat.le_trans List.countP_le_length (by simp)
    obtain ⟨cn, hcn⟩ : ∃ c, (List.range q).countP p = c := ⟨_, rfl⟩
    rw [hcn] at HCT hle ⊢
    clear hcn
    obtain ⟨ca, cc, ec, -, hcs⟩ := HZ.out wr HQ.out.2.1
    simp only [Value.slice.injEq, true_and] at ec
    obtain ⟨rfl, rfl⟩ := ec
    obtain ⟨gs, os, rfl, hgs, ks0, ks1⟩ := hcs q hlt
    obtain ⟨⟨sn, si⟩, hsi⟩ : ∃ X, zs[q] = X := ⟨_, rfl⟩
    have HQ2 : Hid (Inv q (wr.alloc (.cells #[.int .i64 sn, .int .i64 si] 93)) ∧ Chg S w (wr.alloc (.cells #[.int .i64 sn, .int .i64 si] 93)) ∧ AtC (wr.alloc (.cells #[.int .i64 sn, .int .i64 si] 93)) w.heap.size 96 #[.slice (some ⟨gs, os, none⟩) zs.length vc, .func (.func g) #[] #[cp]]) := by
      have b := (Below.refl _ wr).alloc (Nat.le_refl _) (.cells #[.int .i64 sn, .int .i64 si] 93)
      exact ⟨HST.out q wr _ HQ.out.1 b, HQ.out.2.1.trans (Chg.of_below b), HQ.out.2.2.over b⟩
    have HC1 := hide (HC.out q hlt (wr.alloc (.cells #[.int .i64 sn, .int .i64 si] 93)) HQ2.out.1 HQ2.out.2.1)
    rw [hsi] at ks0 ks1 HC1
    simp only at ks0 ks1 HC1
    clear hsi
    have hbw : ¬ w.heap.size = wr.heap.size := by have := HQ.out.2.2.lt; omega
    have hgw : ¬ gs = wr.heap.size := by omega
    have m0 : (wr.alloc (.cells #[.int .i64 sn, .int .i64 si] 93)).cell? ⟨w.heap.size, 0, none⟩ = some (.slice (some ⟨gs, os, none⟩) zs.length vc) := HQ2.out.2.2.cell 0
    have m1 : (wr.alloc (.cells #[.int .i64 sn, .int .i64 si] 93)).cell? ⟨w.heap.size, 1, none⟩ = some (.func (.func g) #[] #[cp]) := HQ2.out.2.2.cell 1
    clear hcs HQ
    go_wp2_with fail
    refine HC1.out.mono ?_
    rintro e w2 ⟨rfl, I2, G2⟩
    have HN : Hid (Inv (q + 1) w2 ∧ Chg S w w2 ∧ AtC w2 w.heap.size 96 #[.slice (some ⟨gs, os, none⟩) zs.length vc, .func (.func g) #[] #[cp]]) := ⟨I2, HQ2.out.2.1.trans G2, (G2.block _ HQ2.out.2.2.lt (fun e => by have := HSS.out _ e; omega)).trans HQ2.out.2.2⟩
    clear I2 G2 HC1 HQ2 m0 m1
    cases hpq : p q with
    | true =>
      have HE : Hid ((List.range (q + 1)).countP p = cn + 1) := hide (by have := HCT.out; rw [hpq] at this; simpa using this)
      clear hpq
      go_wp2
      go_roundw
      case rel => exact ⟨q + 1, by omega, by rw [HE.out]; go_num, by go_num, HN.out⟩
      case measure => simp [intOf]; omega
    | false =>
      have HE : Hid ((List.range (q + 1)).countP p = cn) := hide (by have := HCT.out; rw [hpq] at this; simpa using this)
      clear hpq
      go_wp2
      go_roundw
      case rel => exact ⟨q + 1, by omega, by rw [HE.out], by go_num, HN.out⟩
      case measure => simp [intOf]; omega
end Go.Proofs.YtljooldjcefkoaaGreat
/- impl.pointersOf, inosOfSomeKind and reachedPointers by their contracts. -/
namespace Go.Proofs.YtljooldjcefkoaaGreat
open Go.RowKit Kit
/-- The pointers of an inode that have a block. -/
def ptrI (is : List Ino) (i : Int) : List Pr := ((ptrsAt is i).filter fun p => inB p 1 16).map fun p => (i, p)
def ptrL (is : List Ino) (l : List Int) : List Pr := l.flatMap (ptrI is)
theorem ptrsAt_len {is : List Ino} {bs : List Blk} (h : RD is bs) (i : Int) : (ptrsAt is i).length ≤ 2 := by
  rcases kindAt_cases (is := is) i with ⟨-, e⟩ | ⟨q, hq, -, e⟩
  · rw [e]; simp
  · rw [e, h.two q hq]; exact Nat.le_refl _
theorem ptrI_len {is : List Ino} {bs : List Blk} (h : RD is bs) (i : Int) : (ptrI is i).length ≤ 2 := by
  unfold ptrI
  rw [List.length_map]
  exact Nat.le_trans (List.length_filter_le _ _) (ptrsAt_len h i)
theorem ptrL_len {is : List Ino} {bs : List Blk} (h : RD is bs) (l : List Int) : (ptrL is l).length ≤ l.length * 2 := flatMap_len l fun i _ => ptrI_len h i
theorem ptrL_take (is : List Ino) (l : List Int) (q : Nat) (h : q < l.length) : ptrL is (l.take (q + 1)) = ptrL is (l.take q) ++ ptrI is l[q] := flat_take l _ q h
/-- The first t pointers. -/
def ptrT (i : Int) (ps : List Int) : List Pr := (ps.filter fun p => inB p 1 16).map fun p => (i, p)
theorem ptrT_take (i : Int) (ps : List Int) (t : Nat) (h : t < ps.length) : ptrT i (ps.take (t + 1)) = ptrT i (ps.take t) ++ if inB ps[t] 1 16 = true then [(i, ps[t])] else [] := by
  unfold ptrT
  rw [List.take_succ_eq_append_getElem h, List.filter_append, List.map_append]
  congr 1
  by_cases e : inB ps[t] 1 16 = true
  · rw [if_pos e, List.filter_cons_of_pos (p := fun p => inB p 1 16) e]; rfl
  · rw [if_neg e, List.filter_cons_of_neg (p := fun p => inB p 1 16) e]; rfl
theorem ptrT_len (i : Int) (ps : List Int) : (ptrT i ps).length ≤ ps.length := by
  unfold ptrT
  rw [List.length_map]
  exact List.length_filter_le _ _
set_option maxRecDepth 100000 in
set_option maxHeartbeats 3200000 in
theorem ptrsOf_any (lv : Value) (l : List Int) (dx dy iv bv : Value) (xs ys : List Bool) (is : List Ino) (bs : List Blk) (w : World) (h : DR w dx dy iv bv xs ys is bs) (hR : RD is bs) (hv : RInts w lv l) (hl : l.length ≤ 8) (hr : ∀ i ∈ l, 1 ≤ i ∧ i ≤ 8) :
    Calls Tryz.prog 63 #[.agg #[dx, dy, iv, bv], lv] w fun e w' => ∃ v, e = .returned v ∧ POwns w' w.heap.size 93 v (ptrL is l) ∧ Below w.heap.size w w' := by
  obtain ⟨a1, c1, a2, c2, a3, c3, a4, c4, rfl, rfl, rfl, rfl⟩ := h.form
  obtain ⟨la, lc, rfl, hcl⟩ := hv
  have CB := hide (fun (p : Int) (W : World) => hasB_any p (.slice a1 xs.length c1) (.slice a2 ys.length c2) (.slice a3 is.length c3) a4 c4 W)
  rw [← hR.hb] at CB
  have HI8 := hide hR.hi
  have HH := hide h
  have HCL := hide hcl
  have HRG := hide hr
  have HP2 : Hid (∀ i, (ptrsAt is i).length ≤ 2) := ptrsAt_len hR
  have HPL : Hid (∀ q, (ptrL is (l.take q)).length ≤ 16) := fun q => by
    have := ptrL_len hR (l.take q)
    rw [List.length_take] at this
    omega
  have HQ0 : Hid (POwns (w.alloc (.cells #[.slice a1 xs.length c1, .slice a2 ys.length c2, .slice a3 is.length c3, .slice a4 bs.length c4] 35)) (w.heap.size + 1) 93 (.slice none 0 0) (ptrL is (l.take 0)) ∧ Below w.heap.size w (w.alloc (.cells #[.slice a1 xs.length c1, .slice a2 ys.length c2, .slice a3 is.length c3, .slice a4 bs.length c4] 35)) ∧ AtC (w.alloc (.cells #[.slice a1 xs.length c1, .slice a2 ys.length c2, .slice a3 is.length c3, .slice a4 bs.length c4] 35)) w.heap.size 35 #[.slice a1 xs.length c1, .slice a2 ys.length c2, .slice a3 is.length c3, .slice a4 bs.length c4]) := ⟨by simpa [ptrL] using POwns.nil _ _ _, (Below.refl _ w).alloc (Nat.le_refl _) _, AtC.new _ _ _⟩
  clear h hcl hr hR
  go_enter Tryz.func63, Tryz.ntmps63
  go_wp2_with fail
  go_loopw [5, 12] (fun sv kv wr => ∃ (s' : Value) (q : Nat), s' = sv ∧ q ≤ l.length ∧ kv = .int .i64 q ∧ Hid (POwns wr (w.heap.size + 1) 93 s' (ptrL is (l.take q)) ∧ Below w.heap.size w wr ∧ AtC wr w.heap.size 35 #[.slice a1 xs.length c1, .slice a2 ys.length c2, .slice a3 is.length c3, .slice a4 bs.length c4])) (fun _ kv _ => l.length - (intOf kv).toNat)
  case atStart => exact ⟨_, 0, rfl, Nat.zero_le _, rfl, HQ0.out⟩
  case round =>
    obtain ⟨sv, q, hsv, hq, rfl, HQ⟩ := hrel
    subst hsv
    clear HQ0
    have q0 : (0 : Int) ≤ (q : Int) := by omega
    by_cases hlt : q < l.length
    rotate_left
    · have q1 : ¬ ((q : Int) < (l.length : Int)) := by omega
      go_wp2
      go_ret
      have := HQ.out.1
      rw [List.take_of_length_le (by omega)] at this
      exact ⟨_, rfl, this.base_le (by omega), HQ.out.2.1⟩
    have q1 : (q : Int) < (l.length : Int) := by omega
    obtain ⟨gr, orr, rfl, hgr, kr⟩ := HCL.out q hlt
    replace kr := (HQ.out.2.1.cell (p := ⟨gr, orr + q, none⟩) hgr).trans kr
    have HTK := hide (ptrL_take is l q hlt)
    have hrq := HRG.out _ (List.getElem_mem hlt)
    obtain ⟨di, hdi⟩ : ∃ x, l[q] = x := ⟨_, rfl⟩
    rw [hdi] at kr HTK hrq
    obtain ⟨j, rfl⟩ : ∃ j : Nat, di = (j : Int) + 1 := ⟨(di - 1).toNat, by omega⟩
    have hj : j < is.length := by have := HI8.out; omega
    have j0 : (0 : Int) ≤ (j : Int) := by omega
    have j1 : (j : Int) < (is.length : Int) := by omega
    have hwj : IntKind.i64.wrap (j : Int) = (j : Int) := wrap_small _ (by omega) (by omega)
    obtain ⟨g2, o2, sa, sc, rfl, hg2, -, -, y2, rr⟩ := DR.ino HH.out j hj
    replace y2 := (HQ.out.2.1.cell (p := ⟨g2, o2 + j * 3 + 2, none⟩) hg2).trans y2
    have x2 : wr.cell? ⟨w.heap.size, 2, none⟩ = some (.slice (some ⟨g2, o2, none⟩) is.length c3) := HQ.out.2.2.cell 2
    have hp2 := HP2.out ((j : Int) + 1)
    have hpl := HPL.out q
    unfold ptrI at HTK
    obtain ⟨ps, hps⟩ : ∃ X, ptrsAt is ((j : Int) + 1) = X := ⟨_, rfl⟩
    rw [hps] at y2 rr hp2 HTK
    obtain ⟨pa, pc', pe, hcp⟩ := rr
    simp only [Value.slice.injEq, true_and] at pe
    obtain ⟨rfl, rfl⟩ := pe
    have HCP := hide hcp
    have HQ1 : Hid (POwns wr (w.heap.size + 1) 93 sv (ptrL is (l.take q) ++ ptrT ((j : Int) + 1) (ps.take 0)) ∧ Below w.heap.size w wr ∧ AtC wr w.heap.size 35 #[.slice a1 xs.length c1, .slice a2 ys.length c2, .slice (some ⟨g2, o2, none⟩) is.length c3, .slice a4 bs.length c4]) := ⟨by have := HQ.out.1; simpa [ptrT] using this, HQ.out.2⟩
    clear hdi hps hcp HQ
    go_wp2_with fail
    go_loopw [5, 24] (fun sv kv wr => ∃ (s' : Value) (t : Nat), s' = sv ∧ t ≤ ps.length ∧ kv = .int .i64 t ∧ Hid (POwns wr (w.heap.size + 1) 93 s' (ptrL is (l.take q) ++ ptrT ((j : Int) + 1) (ps.take t)) ∧ Below w.heap.size w wr ∧ AtC wr w.heap.size 35 #[.slice a1 xs.length c1, .slice a2 ys.length c2, .slice (some ⟨g2, o2, none⟩) is.length c3, .slice a4 bs.length c4])) (fun _ kv _ => ps.length - (intOf kv).toNat)
    case atStart => exact ⟨_, 0, rfl, Nat.zero_le _, rfl, HQ1.out⟩
    case round =>
      obtain ⟨sv', t, hsv, ht, rfl, HT⟩ := hrel
      subst hsv
      clear HQ1 x2 y2 kr
      have t0 : (0 : Int) ≤ (t : Int) := by omega
      by_cases htl : t < ps.length
      rotate_left
      · have t1 : ¬ ((t : Int) < (ps.length : Int)) := by omega
        have HE : Hid (POwns wr (w.heap.size + 1) 93 sv' (ptrL is (l.take (q + 1)))) := by
          have := HT.out.1
          rw [List.take_of_length_le (show ps.length ≤ t by omega)] at this
          show POwns _ _ _ _ _
          rw [HTK.out]
          exact this
        go_wp2
        go_roundw
        case rel => exact ⟨sv', q + 1, rfl, by omega, by go_num, HE.out, HT.out.2⟩
        case measure => simp [intOf]; omega
      have t1 : (t : Int) < (ps.length : Int) := by omega
      obtain ⟨gp, op, rfl, hgp, kp⟩ := HCP.out t htl
      replace kp := (HT.out.2.1.cell (p := ⟨gp, op + t, none⟩) hgp).trans kp
      have HTT := hide (ptrT_take ((j : Int) + 1) ps t htl)
      have htn := ptrT_len ((j : Int) + 1) (ps.take t)
      rw [List.length_take] at htn
      obtain ⟨Pn, hPn⟩ : ∃ x, ps[t] = x := ⟨_, rfl⟩
      rw [hPn] at kp HTT
      have CB1 := hide (CB.out Pn wr)
      have z0 : wr.cell? ⟨w.heap.size, 0, none⟩ = some (.slice a1 xs.length c1) := HT.out.2.2.cell 0
      have z1 : wr.cell? ⟨w.heap.size, 1, none⟩ = some (.slice a2 ys.length c2) := HT.out.2.2.cell 1
      have z2 : wr.cell? ⟨w.heap.size, 2, none⟩ = some (.slice (some ⟨g2, o2, none⟩) is.length c3) := HT.out.2.2.cell 2
      have z3 : wr.cell? ⟨w.heap.size, 3, none⟩ = some (.slice a4 bs.length c4) := HT.out.2.2.cell 3
      have HAL : Hid (Below wr.heap.size wr (wr.alloc (.cells #[.slice a1 xs.length c1, .slice a2 ys.length c2, .slice (some ⟨g2, o2, none⟩) is.length c3, .slice a4 bs.length c4] 35))) := (Below.refl _ wr).alloc (Nat.le_refl _) _
      have HT1 : Hid (POwns (wr.alloc (.cells #[.slice a1 xs.length c1, .slice a2 ys.length c2, .slice (some ⟨g2, o2, none⟩) is.length c3, .slice a4 bs.length c4] 35)) (w.heap.size + 1) 93 sv' (ptrL is (l.take q) ++ ptrT ((j : Int) + 1) (ps.take t)) ∧ Below w.heap.size w (wr.alloc (.cells #[.slice a1 xs.length c1, .slice a2 ys.length c2, .slice (some ⟨g2, o2, none⟩) is.length c3, .slice a4 bs.length c4] 35)) ∧ AtC (wr.alloc (.cells #[.slice a1 xs.length c1, .slice a2 ys.length c2, .slice (some ⟨g2, o2, none⟩) is.length c3, .slice a4 bs.length c4] 35)) w.heap.size 35 #[.slice a1 xs.length c1, .slice a2 ys.length c2, .slice (some ⟨g2, o2, none⟩) is.length c3, .slice a4 bs.length c4]) := ⟨HT.out.1.alloc _, HT.out.2.1.alloc HT.out.2.1.size _, HT.out.2.2.alloc _⟩
      clear hPn HT
      go_wp2_with fail
      refine CB1.out.mono ?_
      rintro e w2 ⟨rfl, rfl⟩
      obtain ⟨w2, hw2⟩ : ∃ W, (wr.alloc (.cells #[.slice a1 xs.length c1, .slice a2 ys.length c2, .slice (some ⟨g2, o2, none⟩) is.length c3, .slice a4 bs.length c4] 35)) = W := ⟨_, rfl⟩
      rw [hw2] at HT1 ⊢
      clear hw2 z0 z1 z2 z3 kp CB1 HAL
      cases hin : inB Pn 1 16 with
      | false =>
        have HE : Hid (ptrT ((j : Int) + 1) (ps.take (t + 1)) = ptrT ((j : Int) + 1) (ps.take t)) := hide (by have := HTT.out; rw [hin] at this; simpa using this)
        clear hin
        go_wp2
        go_roundw
        case rel => exact ⟨sv', t + 1, rfl, by omega, by go_num, by rw [HE.out]; exact HT1.out⟩
        case measure => simp [intOf]; omega
      | true =>
        have HE : Hid ((ptrL is (l.take q) ++ ptrT ((j : Int) + 1) (ps.take t)) ++ [((j : Int) + 1, Pn)] = ptrL is (l.take q) ++ ptrT ((j : Int) + 1) (ps.take (t + 1))) := by
          have := HTT.out
          rw [hin, if_pos rfl] at this
          show _ = _
          rw [this, List.append_assoc]
        have HSZ : Hid (w.heap.size + 1 ≤ (w2.alloc (.cells #[.int .i64 ((j : Int) + 1), .int .i64 Pn] 93)).heap.size) := by have := HT1.out.2.1.size; show _ ≤ _; simp; omega
        have HT2 : Hid (POwns (w2.alloc (.cells #[.int .i64 ((j : Int) + 1), .int .i64 Pn] 93)) (w.heap.size + 1) 93 sv' (ptrL is (l.take q) ++ ptrT ((j : Int) + 1) (ps.take t)) ∧ Below w.heap.size w (w2.alloc (.cells #[.int .i64 ((j : Int) + 1), .int .i64 Pn] 93)) ∧ AtC (w2.alloc (.cells #[.int .i64 ((j : Int) + 1), .int .i64 Pn] 93)) w.heap.size 35 #[.slice a1 xs.length c1, .slice a2 ys.length c2, .slice (some ⟨g2, o2, none⟩) is.length c3, .slice a4 bs.length c4] ∧ AtC (w2.alloc (.cells #[.int .i64 ((j : Int) + 1), .int .i64 Pn] 93)) w2.heap.size 93 #[.int .i64 ((j : Int) + 1), .int .i64 Pn]) := ⟨HT1.out.1.alloc _, HT1.out.2.1.alloc HT1.out.2.1.size _, HT1.out.2.2.alloc _, AtC.new _ _ _⟩
        have HTL : Hid ((ptrL is (l.take q) ++ ptrT ((j : Int) + 1) (ps.take t)).length ≤ 100000000000) := by show _ ≤ _; rw [List.length_append]; omega
        clear hin
        go_wp2_with (at_builtin; refine wpList_step fun K' hK' => ?_; refine step_append_pr _ rfl (.tmp 31) (.tmp 35) rfl (w.heap.size + 1) sv' _ rfl HT2.out.1 HSZ.out w2.heap.size ((j : Int) + 1) Pn rfl HT2.out.2.2.2 HTL.out ?_; intro v9 w9 T9 G9 V9; refine hK' _ _ ?_; rw [HE.out] at T9; have HR9 := hide (And.intro T9 (And.intro (HT2.out.2.1.grown G9 HT2.out.2.1.size (fun k hk => by have := (HT2.out.1.lt k hk).1; omega)) (HT2.out.2.2.1.grown G9 (fun e => by have := (HT2.out.1.lt _ e).1; omega)))); clear T9 G9 V9 hK')
        go_roundw
        case rel => exact ⟨v9, t + 1, rfl, by omega, by go_num, HR9.out⟩
        case measure => simp [intOf]; omega
end Go.Proofs.YtljooldjcefkoaaGreat
/- impl.inosOfSomeKind and reachedPointers by their contracts. -/
namespace Go.Proofs.YtljooldjcefkoaaGreat
open Go.RowKit Kit
/-- All inodes of some kind. -/
def kndQ (is : List Ino) (q : Nat) : List Int := ((List.range q).filter fun i : Nat => decide (¬ kindAt is ((i : Int) + 1) = 0)).map fun i : Nat => (i : Int) + 1
def kndL (is : List Ino) : List Int := kndQ is 8
theorem kndQ_succ (is : List Ino) (q : Nat) : kndQ is (q + 1) = kndQ is q ++ if kindAt is ((q : Int) + 1) = 0 then [] else [(q : Int) + 1] := by
  unfold kndQ
  rw [List.range_succ, List.filter_append, List.map_append]
  congr 1
  by_cases e : kindAt is ((q : Int) + 1) = 0
  · rw [if_pos e, List.filter_cons_of_neg (by simp [e])]; rfl
  · rw [if_neg e, List.filter_cons_of_pos (by simp [e])]; rfl
theorem kndQ_len (is : List Ino) (q : Nat) : (kndQ is q).length ≤ q := by
  unfold kndQ
  rw [List.length_map]
  exact Nat.le_trans (List.length_filter_le _ _) (by simp)
theorem mem_kndL {is : List Ino} {i : Int} : i ∈ kndL is ↔ (1 ≤ i ∧ i ≤ 8) ∧ ¬ kindAt is i = 0 := by
  unfold kndL kndQ
  rw [List.mem_map]
  constructor
  · rintro ⟨q, hq, rfl⟩
    rw [List.mem_filter, List.mem_range] at hq
    exact ⟨by omega, by simpa using hq.2⟩
  · rintro ⟨h1, h2⟩
    refine ⟨(i - 1).toNat, ?_, by omega⟩
    rw [List.mem_filter, List.mem_range]
    refine ⟨by omega, ?_⟩
    rw [show (((i - 1).toNat : Nat) : Int) + 1 = i by omega]
    simpa using h2
set_option maxRecDepth 100000 in
set_option maxHeartbeats 3200000 in
theorem knd_any (dx dy iv bv : Value) (xs ys : List Bool) (is : List Ino) (bs : List Blk) (w : World) (h : DR w dx dy iv bv xs ys is bs) (hR : RD is bs) :
    Calls Tryz.prog 40 #[.agg #[dx, dy, iv, bv]] w fun e w' => ∃ v, e = .returned v ∧ ROwns w' w.heap.size 3 v (ic (kndL is)) ∧ Below w.heap.size w w' := by
  obtain ⟨a1, c1, a2, c2, a3, c3, a4, c4, rfl, rfl, rfl, rfl⟩ := h.form
  have CK := hide (fun (i : Int) (W : World) (hb : Below w.heap.size w W) => kindI_any i (.slice a1 xs.length c1) (.slice a2 ys.length c2) (.slice a3 is.length c3) (.slice a4 bs.length c4) xs ys is bs W (h.below hb (Nat.le_refl _)) hR)
  have HQ0 : Hid (ROwns (w.alloc (.cells #[.slice a1 xs.length c1, .slice a2 ys.length c2, .slice a3 is.length c3, .slice a4 bs.length c4] 35)) (w.heap.size + 1) 3 (.slice none 0 0) (ic (kndQ is 0)) ∧ Below w.heap.size w (w.alloc (.cells #[.slice a1 xs.length c1, .slice a2 ys.length c2, .slice a3 is.length c3, .slice a4 bs.length c4] 35)) ∧ AtC (w.alloc (.cells #[.slice a1 xs.length c1, .slice a2 ys.length c2, .slice a3 is.length c3, .slice a4 bs.length c4] 35)) w.heap.size 35 #[.slice a1 xs.length c1, .slice a2 ys.length c2, .slice a3 is.length c3, .slice a4 bs.length c4]) := ⟨by simpa [kndQ, ic] using ROwns.nil _ _ _, (Below.refl _ w).alloc (Nat.le_refl _) _, AtC.new _ _ _⟩
  clear h hR
  go_enter Tryz.func40, Tryz.ntmps40
  go_wp2_with fail
  go_loopw [3, 4] (fun sv kv wr => ∃ (s' : Value) (q : Nat), s' = sv ∧ q ≤ 8 ∧ kv = .int .i64 ((q : Int) + 1) ∧ Hid (ROwns wr (w.heap.size + 1) 3 s' (ic (kndQ is q)) ∧ Below w.heap.size w wr ∧ AtC wr w.heap.size 35 #[.slice a1 xs.length c1, .slice a2 ys.length c2, .slice a3 is.length c3, .slice a4 bs.length c4])) (fun _ kv _ => 9 - (intOf kv).toNat)
  case atStart => exact ⟨_, 0, rfl, Nat.zero_le _, rfl, HQ0.out⟩
  case round =>
    obtain ⟨sv, q, hsv, hq, rfl, HQ⟩ := hrel
    subst hsv
    clear HQ0
    by_cases hlt : q < 8
    rotate_left
    · have q1 : ¬ ((q : Int) + 1 ≤ 8) := by omega
      go_wp2
      go_ret
      obtain rfl : q = 8 := by omega
      exact ⟨_, rfl, HQ.out.1.base_le (by omega), HQ.out.2.1⟩
    have q1 : (q : Int) + 1 ≤ 8 := by omega
    have z0 : wr.cell? ⟨w.heap.size, 0, none⟩ = some (.slice a1 xs.length c1) := HQ.out.2.2.cell 0
    have z1 : wr.cell? ⟨w.heap.size, 1, none⟩ = some (.slice a2 ys.length c2) := HQ.out.2.2.cell 1
    have z2 : wr.cell? ⟨w.heap.size, 2, none⟩ = some (.slice a3 is.length c3) := HQ.out.2.2.cell 2
    have z3 : wr.cell? ⟨w.heap.size, 3, none⟩ = some (.slice a4 bs.length c4) := HQ.out.2.2.cell 3
    have CK1 := hide (CK.out ((q : Int) + 1) wr HQ.out.2.1)
    have HKS := hide (kndQ_succ is q)
    have HKL := hide (kndQ_len is q)
    obtain ⟨kd, hkd⟩ : ∃ k, kindAt is ((q : Int) + 1) = k := ⟨_, rfl⟩
    rw [hkd] at CK1 HKS
    clear hkd
    go_wp2_with fail
    refine CK1.out.mono ?_
    rintro e w2 ⟨rfl, B2⟩
    have HQ2 : Hid (ROwns w2 (w.heap.size + 1) 3 sv (ic (kndQ is q)) ∧ Below w.heap.size w w2 ∧ AtC w2 w.heap.size 35 #[.slice a1 xs.length c1, .slice a2 ys.length c2, .slice a3 is.length c3, .slice a4 bs.length c4]) := ⟨HQ.out.1.below B2 (Nat.le_refl _), HQ.out.2.1.trans (B2.mono HQ.out.2.1.size), HQ.out.2.2.over B2⟩
    clear B2 HQ CK1 z0 z1 z2 z3
    by_cases hk : kd = 0
    · subst hk
      have HE : Hid (kndQ is (q + 1) = kndQ is q) := hide (by have := HKS.out; simpa using this)
      go_wp2
      go_roundw
      case rel => exact ⟨sv, q + 1, rfl, by omega, by go_num, by rw [HE.out]; exact HQ2.out⟩
      case measure => simp [intOf]; omega
    · have hkb : (kd != 0) = true := by simp [hk]
      have HE : Hid (ic (kndQ is q) ++ [.int .i64 ((q : Int) + 1)] = ic (kndQ is (q + 1))) := by
        have := HKS.out
        rw [if_neg hk] at this
        show _ = ic _
        rw [this]
        simp [ic]
      have HT2 : Hid (ROwns (w2.alloc (.cells #[.int .i64 ((q : Int) + 1)] 3)) (w.heap.size + 1) 3 sv (ic (kndQ is q)) ∧ Below w.heap.size w (w2.alloc (.cells #[.int .i64 ((q : Int) + 1)] 3)) ∧ AtC (w2.alloc (.cells #[.int .i64 ((q : Int) + 1)] 3)) w.heap.size 35 #[.slice a1 xs.length c1, .slice a2 ys.length c2, .slice a3 is.length c3, .slice a4 bs.length c4] ∧ (w2.alloc (.cells #[.int .i64 ((q : Int) + 1)] 3)).cell? ⟨w2.heap.size, 0, none⟩ = some (.int .i64 ((q : Int) + 1))) := ⟨HQ2.out.1.alloc _, HQ2.out.2.1.alloc HQ2.out.2.1.size _, HQ2.out.2.2.alloc _, (AtC.new w2 3 #[.int .i64 ((q : Int) + 1)]).cell 0⟩
      have HSZ : Hid (w.heap.size + 1 ≤ (w2.alloc (.cells #[.int .i64 ((q : Int) + 1)] 3)).heap.size) := by have := HQ2.out.2.1.size; show _ ≤ _; simp; omega
      have HTL : Hid ((ic (kndQ is q)).length ≤ 100000000000) := by have := HKL.out; show _ ≤ _; rw [ic_length]; omega
      clear hk
      go_wp2_with (at_builtin; refine wpList_step fun K' hK' => ?_; refine step_append_one _ rfl (.tmp 13) (.tmp 15) 42 rfl (w.heap.size + 1) 3 Tryz.u42 _ 8 Tryz.i3 rfl (by decide) sv _ rfl HT2.out.1 HSZ.out w2.heap.size (.int .i64 ((q : Int) + 1)) rfl HT2.out.2.2.2 rfl HTL.out ?_; intro v9 w9 T9 G9 V9; refine hK' _ _ ?_; rw [HE.out] at T9; have HR9 := hide (And.intro T9 (And.intro (HT2.out.2.1.grown G9 HT2.out.2.1.size (fun k hk => by have := (HT2.out.1.lt k hk).1; omega)) (HT2.out.2.2.1.grown G9 (fun e => by have := (HT2.out.1.lt _ e).1; omega)))); clear T9 G9 V9 hK')
      go_roundw
      case rel => exact ⟨v9, q + 1, rfl, by omega, by go_num, HR9.out⟩
      case measure => simp [intOf]; omega
set_option maxRecDepth 100000 in
set_option maxHeartbeats 3200000 in
theorem rPtrs_any (dx dy iv bv : Value) (xs ys : List Bool) (is : List Ino) (bs : List Blk) (w : World) (h : DR w dx dy iv bv xs ys is bs) (hR : RD is bs) :
    Calls Tryz.prog 66 #[.agg #[dx, dy, iv, bv]] w fun e w' => ∃ v, e = .returned v ∧ POwns w' w.heap.size 93 v (ptrL is (reachL is bs)) ∧ Below w.heap.size w w' := by
  obtain ⟨a1, c1, a2, c2, a3, c3, a4, c4, rfl, rfl, rfl, rfl⟩ := h.form
  have HB0 : Hid (Below w.heap.size w (w.alloc (.cells #[.slice a1 xs.length c1, .slice a2 ys.length c2, .slice a3 is.length c3, .slice a4 bs.length c4] 35)).drew) := ((Below.refl _ w).alloc (Nat.le_refl _) _).drew
  have CR := hide (implReach_any (.slice a1 xs.length c1) (.slice a2 ys.length c2) (.slice a3 is.length c3) (.slice a4 bs.length c4) xs ys is bs (w.alloc (.cells #[.slice a1 xs.length c1, .slice a2 ys.length c2, .slice a3 is.length c3, .slice a4 bs.length c4] 35)).drew (h.below HB0.out (Nat.le_refl _)) hR)
  have CP : Hid (∀ (lv : Value) (W : World), Below w.heap.size w W → ROwns W w.heap.size 3 lv (ic (reachL is bs)) → Calls Tryz.prog 63 #[.agg #[.slice a1 xs.length c1, .slice a2 ys.length c2, .slice a3 is.length c3, .slice a4 bs.length c4], lv] W fun e w' => ∃ v, e = .returned v ∧ POwns w' W.heap.size 93 v (ptrL is (reachL is bs)) ∧ Below W.heap.size W w') := fun lv W hb ho => ptrsOf_any lv (reachL is bs) (.slice a1 xs.length c1) (.slice a2 ys.length c2) (.slice a3 is.length c3) (.slice a4 bs.length c4) xs ys is bs W (h.below hb (Nat.le_refl _)) hR ho.rints (reachL_len is bs) (fun i hi => reach8 hi)
  clear h hR
  go_enter Tryz.func66, Tryz.ntmps66
  go_upto_region 1 with fail
  obtain ⟨W0, hW0⟩ : ∃ W, (w.alloc (.cells #[.slice a1 xs.length c1, .slice a2 ys.length c2, .slice a3 is.length c3, .slice a4 bs.length c4] 35)) = W := ⟨_, rfl⟩
  have HA0 : Hid (AtC W0 w.heap.size 35 #[.slice a1 xs.length c1, .slice a2 ys.length c2, .slice a3 is.length c3, .slice a4 bs.length c4]) := by rw [← hW0]; exact AtC.new _ _ _
  have HSZ : Hid (w.heap.size ≤ W0.drew.heap.size) := by rw [← hW0]; show _ ≤ _; simp
  rw [hW0] at CR HB0 ⊢
  clear hW0
  have z0 : W0.drew.cell? ⟨w.heap.size, 0, none⟩ = some (.slice a1 xs.length c1) := HA0.out.drew.cell 0
  have z1 : W0.drew.cell? ⟨w.heap.size, 1, none⟩ = some (.slice a2 ys.length c2) := HA0.out.drew.cell 1
  have z2 : W0.drew.cell? ⟨w.heap.size, 2, none⟩ = some (.slice a3 is.length c3) := HA0.out.drew.cell 2
  have z3 : W0.drew.cell? ⟨w.heap.size, 3, none⟩ = some (.slice a4 bs.length c4) := HA0.out.drew.cell 3
  go_region_with (first | (go_at_call 69; refine CR.out.mono ?_; rintro e w1 ⟨rv, rfl, R1, B1⟩; have HB1 := hide (HB0.out.trans (B1.mono HB0.out.size)); have CP1 := hide (CP.out rv w1 HB1.out (R1.base_le HSZ.out)); obtain ⟨ra, rc, rfl, -⟩ := R1.form; have y0 : w1.cell? ⟨w.heap.size, 0, none⟩ = some (.slice a1 xs.length c1) := (HA0.out.drew.over B1).cell 0; have y1 : w1.cell? ⟨w.heap.size, 1, none⟩ = some (.slice a2 ys.length c2) := (HA0.out.drew.over B1).cell 1; have y2 : w1.cell? ⟨w.heap.size, 2, none⟩ = some (.slice a3 is.length c3) := (HA0.out.drew.over B1).cell 2; have y3 : w1.cell? ⟨w.heap.size, 3, none⟩ = some (.slice a4 bs.length c4) := (HA0.out.drew.over B1).cell 3; clear R1 B1) | (go_at_call 63; refine CP1.out.mono ?_; rintro e w2 ⟨pv, rfl, P2, B2⟩; obtain ⟨pa, pc', rfl, -⟩ := P2.form))
  all_goals (try go_wp2)
  all_goals go_ret
  all_goals exact ⟨_, rfl, P2.base_le HB1.out.size, HB1.out.trans (B2.mono HB1.out.size)⟩
end Go.Proofs.YtljooldjcefkoaaGreat
