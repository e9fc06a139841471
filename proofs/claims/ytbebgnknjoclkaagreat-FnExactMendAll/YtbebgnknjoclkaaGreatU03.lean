/- Texts of the proof, bundled: Sr, Ga, Pw, Cd, Lk, Rx, Pt, Pu, Hd, Mp, Mm, Mn, Mo, Kp, Mq, Cp, Cq, Cr, Dp, Ap, Dz, Mk, Dl, Eh, Er, Ps. -/
import Derived.Deep.Upon
import Derived.Laws.EntriesVeiled
import Derived.BigQuiet
import Derived.Deep.RegionWith
import Derived.Deep.AppendLies
import Derived.Deep.RegionHeld3
import Derived.Test.YtbebgnknjoclkaaGreatU02
import Derived.Test.YtbebgnknjoclkaaGreatU01
/- Of the specification: l10Has and Reached by their contracts. -/
namespace Go.Proofs.YtbebgnknjoclkaaGreat.Kit
open Go.RowKit
/-- Flags as cells. -/
def hA (h : List Bool) : Array Value := (h.map Value.bool).toArray
theorem hA_get (h : List Bool) (k : Nat) (hk : k < h.length) : (hA h)[k]? = some (.bool (h.getD k false)) := by
  simp [hA, hk]
theorem hA_set (h : List Bool) (k : Nat) (b : Bool) : (hA h).setIfInBounds k (.bool b) = hA (h.set k b) := by
  simp [hA, List.map_set]
/-- Flags, and the disk's box. -/
structure Hs (w wr : World) (D : Array Value) (h : List Bool) : Prop where
  b : Below w.heap.size w wr
  d : AtC wr w.heap.size 34 D
  a : AtC wr (w.heap.size + 1) 4 (hA h)
theorem Hs.below {w wr wr' : World} {D : Array Value} {h : List Bool} (H : Hs w wr D h) (hb : Below wr.heap.size wr wr') : Hs w wr' D h := ⟨H.b.trans (hb.mono H.b.size), H.d.over hb, H.a.over hb⟩
theorem Hs.set {w wr : World} {D : Array Value} {h : List Bool} (H : Hs w wr D h) (k : Nat) : Hs w (wr.setCell ⟨w.heap.size + 1, k, none⟩ (.bool true)) D (h.set k true) :=
  ⟨H.b.setCell (p := ⟨w.heap.size + 1, k, none⟩) (by show w.heap.size ≤ w.heap.size + 1; omega) _, H.d.other (by omega) _, by rw [← hA_set]; exact H.a.set k _⟩
theorem Hs.grown {w wr wr' : World} {D : Array Value} {h : List Bool} {row : Option Nat} (H : Hs w wr D h) (hg : wr.grownBy wr' row) (hr : ∀ k, row = some k → w.heap.size + 1 < k) : Hs w wr' D h :=
  ⟨H.b.grown hg H.b.size (fun k hk => by have := hr k hk; omega), H.d.grown hg (fun e => by have := hr _ e; omega), H.a.grown hg (fun e => by have := hr _ e; omega)⟩
end Go.Proofs.YtbebgnknjoclkaaGreat.Kit
namespace Go.Proofs.YtbebgnknjoclkaaGreat
open Go.RowKit Kit
set_option maxRecDepth 100000 in
set_option maxHeartbeats 800000 in
theorem has10_any (v : Value) (l : List Int) (x : Int) (w : World) (h : RInts w v l) (hl : l.length ≤ 1048576) :
    Calls Tryz.prog 37 #[v, .int .i64 x] w fun e w' => e = .returned (.bool (l.contains x)) ∧ w' = w := by
  obtain ⟨a1, c1, rfl, ha⟩ := h
  have HA := hide ha
  clear ha
  go_enter Tryz.func37, Tryz.ntmps37
  go_wp2
  go_loopw [5] (fun i wr => ∃ j : Nat, j ≤ l.length ∧ i = .int .i64 j ∧ w = wr ∧ Hid ((l.take j).contains x = false)) (fun i _ => l.length - (intOf i).toNat)
  case atStart => exact ⟨0, Nat.zero_le _, rfl, rfl, by show (l.take 0).contains x = false; simp⟩
  case round =>
    obtain ⟨j, hj, rfl, rfl, HT⟩ := hrel
    by_cases hlt : j < l.length
    · obtain ⟨g1, o1, rfl, _, k1⟩ := HA.out j hlt
      have HJ : Hid (l[j] ∈ l ∧ (l.take (j + 1)).contains x = ((l.take j).contains x || x == l[j])) := by
        refine ⟨List.getElem_mem hlt, ?_⟩
        rw [show l.take (j + 1) = l.take j ++ [l[j]] from (List.take_append_getElem hlt).symm]
        exact Bool.eq_iff_iff.2 (by simp only [List.contains_iff_mem, List.mem_append, List.mem_singleton, Bool.or_eq_true, beq_iff_eq])
      obtain ⟨t, ht⟩ : ∃ t, l[j] = t := ⟨_, rfl⟩
      rw [ht] at k1 HJ
      clear ht
      have j0 : (0 : Int) ≤ (j : Int) := by omega
      have j1 : (j : Int) < (l.length : Int) := by omega
      by_cases hx : t = x
      · subst hx
        go_wp2
        go_ret
        have := HJ.out.1
        exact ⟨by rw [show l.contains t = true by simpa using this]; rfl, rfl⟩
      · have HX := hide hx
        go_wp2
        go_roundw
        case rel =>
          refine ⟨j + 1, by omega, by go_num, by first | trivial | rfl, ?_⟩
          show (l.take (j + 1)).contains x = false
          have q := HX.out
          rw [HJ.out.2, HT.out, Bool.false_or]
          exact beq_false_of_ne (fun e => q e.symm)
        case measure => simp [intOf]; omega
    · have hj2 : j = l.length := by omega
      have HF : Hid (l.contains x = false) := by
        have := HT.out
        rw [hj2, List.take_length] at this
        exact this
      go_wp2
      go_ret
      exact ⟨by rw [HF.out]; rfl, rfl⟩
set_option maxRecDepth 100000 in
set_option maxHeartbeats 6400000 in
theorem specReach_any (dx dy iv bv : Value) (xs ys : List Bool) (is : List Ino) (bs : List Blk) (w : World) (h : DR w dx dy iv bv xs ys is bs) (hR : RD is bs) :
    Calls Tryz.prog 36 #[.agg #[dx, dy, iv, bv]] w fun e w' => ∃ v, e = .returned v ∧ ROwns w' w.heap.size 3 v (ic (reachL is bs)) ∧ Below w.heap.size w w' := by
  obtain ⟨a1, c1, a2, c2, a3, c3, a4, c4, rfl, rfl, rfl, rfl⟩ := h.form
  have h8 := hR.hi
  have CS : Hid (∀ (x : Int) (W : World), Below w.heap.size w W → Calls Tryz.prog 71 #[.agg #[.slice a1 xs.length c1, .slice a2 ys.length c2, .slice a3 8 c3, .slice a4 bs.length c4], .int .i64 x] W fun e w' => ∃ v, e = .returned v ∧ SOwns w' W.heap.size 74 v (named is bs x) ∧ Below W.heap.size W w') := by
    have := fun (x : Int) (W : World) (hb : Below w.heap.size w W) => slots_any x _ _ _ _ xs ys is bs W (h.below hb (Nat.le_refl _)) hR
    rw [h8] at this
    exact this
  have HIN : Hid (∀ (j : Nat), j < 8 → ∃ g2 o2 : Nat, a3 = some ⟨g2, o2, none⟩ ∧ g2 < w.heap.size ∧ w.cell? ⟨g2, o2 + j * 3, none⟩ = some (.int .i64 (kindAt is ((j : Int) + 1)))) := fun j hj => by
    obtain ⟨qa, qc, qe, -, qh⟩ := h.i
    simp only [Value.slice.injEq, true_and] at qe
    obtain ⟨rfl, rfl⟩ := qe
    have hj' : j < is.length := by omega
    obtain ⟨g2, o2, ⟨t0, t1, t2⟩, rfl, hg2, r0, r1, r2, e0, e1, rr⟩ := qh j hj'
    simp only at e0 r0
    exact ⟨g2, o2, rfl, hg2, by rw [(kindAt_in hj').1, r0, e0]⟩
  have HE := hide (edge_in hR)
  have HN8 : Hid (∀ x, (named is bs x).length ≤ 8) := hR.named8
  rw [h8]
  have HS0 : Hid (Hs w ((w.alloc (.cells #[.slice a1 xs.length c1, .slice a2 ys.length c2, .slice a3 8 c3, .slice a4 bs.length c4] 34)).alloc (.cells ((hA [false, false, false, false, false, false, false, false]).setIfInBounds 0 (.bool true)) 4)) #[.slice a1 xs.length c1, .slice a2 ys.length c2, .slice a3 8 c3, .slice a4 bs.length c4] [true, false, false, false, false, false, false, false]) := by
    have a := AtC.new (w.alloc (.cells #[.slice a1 xs.length c1, .slice a2 ys.length c2, .slice a3 8 c3, .slice a4 bs.length c4] 34)) 4 ((hA [false, false, false, false, false, false, false, false]).setIfInBounds 0 (.bool true))
    rw [World.size_alloc] at a
    exact ⟨((Below.refl _ w).alloc (Nat.le_refl _) _).alloc (by simp) _, (AtC.new w 34 _).alloc _, a⟩
  have hmk : ∀ W : World, (Instr.makeSlice 22 (.int .i64 8) (.int .i64 8)).run Tryz.prog W = .ok (.slice (some ⟨W.heap.size, 0, none⟩) 8 8) (W.alloc (.cells (hA [false, false, false, false, false, false, false, false]) 4)) := make8
  have k0 : ((w.alloc (.cells #[.slice a1 xs.length c1, .slice a2 ys.length c2, .slice a3 8 c3, .slice a4 bs.length c4] 34)).alloc (.cells (hA [false, false, false, false, false, false, false, false]) 4)).cell? ⟨w.heap.size + 1, 0, none⟩ = some (.bool false) := by
    have a := AtC.new (w.alloc (.cells #[.slice a1 xs.length c1, .slice a2 ys.length c2, .slice a3 8 c3, .slice a4 bs.length c4] 34)) 4 (hA [false, false, false, false, false, false, false, false])
    rw [World.size_alloc] at a
    exact a.cell 0
  clear h hR h8
  go_enter Tryz.func36, Tryz.ntmps36
  go_upto_region 5 with fail
  clear k0 hmk
  obtain ⟨W, hW⟩ : ∃ W, ((w.alloc (.cells #[.slice a1 xs.length c1, .slice a2 ys.length c2, .slice a3 8 c3, .slice a4 bs.length c4] 34)).alloc (.cells ((hA [false, false, false, false, false, false, false, false]).setIfInBounds 0 (.bool true)) 4)) = W := ⟨_, rfl⟩
  rw [hW] at HS0 ⊢
  clear hW
  go_wp2_with fail
  go_loopw [4] (fun kv wr => ∃ (r : Nat) (h : List Bool), r ≤ 8 ∧ kv = .int .i64 r ∧ Hid (Rnd (edge is bs) h r ∧ Hs w wr #[.slice a1 xs.length c1, .slice a2 ys.length c2, .slice a3 8 c3, .slice a4 bs.length c4] h)) (fun kv _ => 8 - (intOf kv).toNat)
  case atStart => exact ⟨0, _, Nat.zero_le _, rfl, Rnd.begin _, HS0.out⟩
  case round =>
    clear HS0
    obtain ⟨r, h0, hr, rfl, HR⟩ := hrel
    have r0 : (0 : Int) ≤ (r : Int) := by omega
    by_cases hlt : r < 8
    rotate_left
    · have r1 : ¬ ((r : Int) < 8) := by omega
      obtain rfl : r = 8 := by omega
      have HOU : Hid (outL h0 8 = reachL is bs) := outL_rchL (edge_iff is bs) HE.out HR.out.1.s HR.out.1.full
      have HL0 : Hid (ROwns (wr.alloc (.cells #[] 3)) (wr.heap.size) 3 (.slice (some ⟨wr.heap.size, 0, none⟩) 0 0) (ic (outL h0 0)) ∧ Hs w (wr.alloc (.cells #[] 3)) #[.slice a1 xs.length c1, .slice a2 ys.length c2, .slice a3 8 c3, .slice a4 bs.length c4] h0 ∧ wr.heap.size ≤ (wr.alloc (.cells #[] 3)).heap.size) := ⟨ROwns.lit0 wr wr.heap.size 3 (Nat.le_refl _), HR.out.2.below ((Below.refl _ wr).alloc (Nat.le_refl _) _), by simp⟩
      have HLT := hide HR.out.2.a.lt
      have H8 := hide HR.out.1.s.n
      clear HR
      obtain ⟨wq, hwq⟩ : ∃ wq, wq = wr := ⟨_, rfl⟩
      subst hwq
      go_wp2_with fail
      go_loopw [9, 10] (fun x9 kk wz => ∃ (lv : Value) (q : Nat), lv = x9 ∧ q ≤ 8 ∧ kk = .int .i64 q ∧ Hid (ROwns wz wq.heap.size 3 lv (ic (outL h0 q)) ∧ Hs w wz #[.slice a1 xs.length c1, .slice a2 ys.length c2, .slice a3 8 c3, .slice a4 bs.length c4] h0 ∧ wq.heap.size ≤ wz.heap.size)) (fun _ kk _ => 8 - (intOf kk).toNat)
      case atStart => exact ⟨_, 0, rfl, Nat.zero_le _, rfl, HL0.out⟩
      case round =>
        clear HL0
        obtain ⟨lv, q, hlv, hq, rfl, HQ⟩ := hrel
        subst hlv
        have q0 : (0 : Int) ≤ (q : Int) := by omega
        by_cases hq8 : q < 8
        rotate_left
        · have q1 : ¬ ((q : Int) < 8) := by omega
          go_wp2
          go_ret
          obtain rfl : q = 8 := by omega
          refine ⟨_, rfl, ?_, HQ.out.2.1.b⟩
          rw [← HOU.out]
          exact HQ.out.1.base_le (by have := HLT.out; omega)
        have q1 : (q : Int) < 8 := by omega
        have kq := (HQ.out.2.1.a.cell q).trans (hA_get h0 q (by rw [H8.out]; exact hq8))
        have HSU := hide (outL_succ h0 q)
        cases hbq : h0.getD q false with
        | false =>
          rw [hbq] at kq HSU
          have HEQ : Hid (outL h0 (q + 1) = outL h0 q) := by
            have := HSU.out
            rw [if_neg (by simp), List.append_nil] at this
            exact this
          clear hbq
          go_wp2
          go_roundw
          case rel => exact ⟨lv, q + 1, rfl, by omega, by go_num, by rw [HEQ.out]; exact HQ.out⟩
          case measure => simp [intOf]; omega
        | true =>
          rw [hbq] at kq HSU
          have HEQ : Hid (ic (outL h0 (q + 1)) = ic (outL h0 q) ++ [.int .i64 ((q : Int) + 1)]) := by
            have := HSU.out
            rw [if_pos rfl] at this
            show ic _ = _
            rw [this]
            simp [ic]
          have HAL : Hid (Below wr.heap.size wr (wr.alloc (.cells #[.int .i64 ((q : Int) + 1)] 3)) ∧ ROwns (wr.alloc (.cells #[.int .i64 ((q : Int) + 1)] 3)) wq.heap.size 3 lv (ic (outL h0 q)) ∧ (wr.alloc (.cells #[.int .i64 ((q : Int) + 1)] 3)).cell? ⟨wr.heap.size, 0, none⟩ = some (.int .i64 ((q : Int) + 1)) ∧ wq.heap.size ≤ (wr.alloc (.cells #[.int .i64 ((q : Int) + 1)] 3)).heap.size) := by
            refine ⟨(Below.refl _ wr).alloc (Nat.le_refl _) _, HQ.out.1.alloc _, (AtC.new wr 3 #[.int .i64 ((q : Int) + 1)]).cell 0, ?_⟩
            have := HQ.out.2.2
            simp
            omega
          have HQL : Hid ((ic (outL h0 q)).length ≤ 100000000000) := by
            have := outL_len h0 q
            show _ ≤ _
            rw [ic_length]
            omega
          have HGR : Hid (∀ w', (wr.alloc (.cells #[.int .i64 ((q : Int) + 1)] 3)).grownBy w' lv.ownBlock → Hs w w' #[.slice a1 xs.length c1, .slice a2 ys.length c2, .slice a3 8 c3, .slice a4 bs.length c4] h0) := fun w' g => (HQ.out.2.1.below HAL.out.1).grown g (fun k hk => by have := (HQ.out.1.lt k hk).1; have := HLT.out; omega)
          clear hbq
          go_wp2_with (at_builtin; refine wpList_step fun K' hK' => ?_; refine step_append_one _ rfl (.tmp 83) (.tmp 86) 56 rfl wq.heap.size 3 Tryz.u56 _ 8 Tryz.i3 rfl (by decide) lv _ rfl HAL.out.2.1 HAL.out.2.2.2 wr.heap.size (.int .i64 ((q : Int) + 1)) rfl HAL.out.2.2.1 rfl HQL.out ?_; intro v9 w9 T9 G9 V9; refine hK' _ _ ?_; rw [← HEQ.out] at T9; have HR9 := hide (And.intro T9 (And.intro (HGR.out w9 G9) (Nat.le_trans HAL.out.2.2.2 G9.size))); clear T9 G9 V9 hK')
          go_roundw
          case rel => exact ⟨v9, q + 1, rfl, by omega, by go_num, HR9.out⟩
          case measure => simp [intOf]; omega
    have r1 : (r : Int) < 8 := by omega
    have HP0 : Hid (Pass (edge is bs) h0 h0 0 ∧ Hs w wr #[.slice a1 xs.length c1, .slice a2 ys.length c2, .slice a3 8 c3, .slice a4 bs.length c4] h0) := ⟨Pass.begin HR.out.1.s, HR.out.2⟩
    have HRN := hide HR.out.1
    clear HR
    go_wp2_with fail
    go_loopw [5] (fun iv wz => ∃ (i : Nat) (h : List Bool), i ≤ 8 ∧ iv = .int .i64 ((i : Int) + 1) ∧ Hid (Pass (edge is bs) h0 h i ∧ Hs w wz #[.slice a1 xs.length c1, .slice a2 ys.length c2, .slice a3 8 c3, .slice a4 bs.length c4] h)) (fun iv _ => 9 - (intOf iv).toNat)
    case atStart => exact ⟨0, _, Nat.zero_le _, rfl, HP0.out⟩
    case round =>
      clear HP0
      obtain ⟨i, h, hi, rfl, HI⟩ := hrel
      by_cases hi8 : i < 8
      rotate_left
      · have i1 : ¬ ((i : Int) + 1 ≤ 8) := by omega
        obtain rfl : i = 8 := by omega
        have HNX := hide (HRN.out.next HE.out HI.out.1)
        go_wp2
        go_roundw
        case rel => exact ⟨r + 1, h, by omega, by go_num, HNX.out, HI.out.2⟩
        case measure => simp [intOf]; omega
      have i1 : (i : Int) + 1 ≤ 8 := by omega
      have i0 : (0 : Int) ≤ (i : Int) := by omega
      have i8 : (i : Int) < 8 := by omega
      have hwi : IntKind.i64.wrap (i : Int) = (i : Int) := wrap_small _ (by omega) (by omega)
      have z0 : wr.cell? ⟨w.heap.size, 0, none⟩ = some (.slice a1 xs.length c1) := HI.out.2.d.cell 0
      have z1 : wr.cell? ⟨w.heap.size, 1, none⟩ = some (.slice a2 ys.length c2) := HI.out.2.d.cell 1
      have z2 : wr.cell? ⟨w.heap.size, 2, none⟩ = some (.slice a3 8 c3) := HI.out.2.d.cell 2
      have z3 : wr.cell? ⟨w.heap.size, 3, none⟩ = some (.slice a4 bs.length c4) := HI.out.2.d.cell 3
      have CS1 := hide (CS.out ((i : Int) + 1) wr HI.out.2.b)
      have HEM : Hid (∀ k, edge is bs ((i : Int) + 1) k → k ∈ (named is bs ((i : Int) + 1)).map (·.2)) := fun k ⟨s, hs, e, _⟩ => by rw [← e]; exact List.mem_map_of_mem hs
      have HED : Hid (∀ s ∈ named is bs ((i : Int) + 1), ¬ kindAt is s.2 = 0 → edge is bs ((i : Int) + 1) s.2) := fun s hs hk => ⟨s, hs, rfl, hk⟩
      have hN8 := HN8.out ((i : Int) + 1)
      go_wp2_with fail
      refine CS1.out.mono ?_
      rintro e w2 ⟨sv, rfl, S2, B2⟩
      obtain ⟨sa, sc', rfl, -⟩ := S2.form
      have HI2 := hide (And.intro HI.out.1 (HI.out.2.below B2))
      have HSR := hide (And.intro S2 HI.out.2.a.lt)
      obtain ⟨NS, hNS⟩ : ∃ X, named is bs ((i : Int) + 1) = X := ⟨_, rfl⟩
      simp only [hNS] at HEM HED HSR hN8 ⊢
      obtain ⟨wb, hwb⟩ : ∃ b, wr.heap.size = b := ⟨_, rfl⟩
      rw [hwb] at HSR
      clear S2 B2 hNS z0 z1 z2 z3 CS1 HI hwb
      cases hbi : h.getD i false with
      | false =>
        have ki := (HI2.out.2.a.cell i).trans (hA_get h i (by rw [HI2.out.1.s.n]; exact hi8))
        rw [hbi] at ki
        have HNX := hide (HI2.out.1.skip hbi)
        clear hbi
        by_cases hn0 : NS.length = 0
        · have n1 : ¬ ((0 : Int) < (NS.length : Int)) := by omega
          go_wp2_with fail
          go_rounds 1
          go_roundw
          case rel => exact ⟨i + 1, h, by omega, by go_num, HNX.out, HI2.out.2⟩
          case measure => simp [intOf]; omega
        · have n1 : (0 : Int) < (NS.length : Int) := by omega
          go_wp2_with fail
          go_rounds 1
          go_roundw
          case rel => exact ⟨i + 1, h, by omega, by go_num, HNX.out, HI2.out.2⟩
          case measure => simp [intOf]; omega
      | true =>
      have HP1 : Hid (PassIn (edge is bs) h0 h i (NS.map (·.2)) 0) := ⟨HI2.out.1, hbi, fun k hk => by simp at hk⟩
      clear hbi
      go_wp2_with fail
      go_loopw [7] (fun kv wz => ∃ (t : Nat) (h : List Bool), t ≤ NS.length ∧ kv = .int .i64 t ∧ Hid (PassIn (edge is bs) h0 h i (NS.map (·.2)) t ∧ Hs w wz #[.slice a1 xs.length c1, .slice a2 ys.length c2, .slice a3 8 c3, .slice a4 bs.length c4] h ∧ SOwns wz wb 74 (.slice sa NS.length sc') NS)) (fun kv _ => NS.length - (intOf kv).toNat)
      case atStart => exact ⟨0, h, Nat.zero_le _, rfl, HP1.out, HI2.out.2, HSR.out.1⟩
      case round =>
        clear HP1 HI2
        obtain ⟨t, h, ht, rfl, HT⟩ := hrel
        have t0 : (0 : Int) ≤ (t : Int) := by omega
        by_cases htl : t < NS.length
        rotate_left
        · have t1 : ¬ ((t : Int) < (NS.length : Int)) := by omega
          have HNX := hide (HT.out.1.done (by rw [List.length_map]; omega) HEM.out)
          go_wp2
          go_roundw
          case rel => exact ⟨i + 1, h, by omega, by go_num, HNX.out, HT.out.2.1⟩
          case measure => simp [intOf]; omega
        have t1 : (t : Int) < (NS.length : Int) := by omega
        have ki := (HT.out.2.1.a.cell i).trans (hA_get h i (by rw [HT.out.1.p.s.n]; exact hi8))
        rw [HT.out.1.m] at ki
        obtain ⟨gs, cs, es, ks0, ks1, -, -, hgs, -⟩ := HT.out.2.2.at t htl
        simp only [Value.slice.injEq, true_and] at es
        obtain ⟨rfl, rfl⟩ := es
        obtain ⟨⟨sn, si⟩, hsn⟩ : ∃ X, NS[t] = X := ⟨_, rfl⟩
        have hsi : (NS.map (·.2))[t]'(by rw [List.length_map]; exact htl) = si := by rw [List.getElem_map, hsn]
        have hse : ¬ kindAt is si = 0 → edge is bs ((i : Int) + 1) si := fun hk => by
          have := HED.out NS[t] (List.getElem_mem htl)
          rw [hsn] at this
          exact this hk
        rw [hsn] at ks0 ks1
        simp only at ks0 ks1
        have HSI := hide (And.intro hsi hse)
        have z2 : wr.cell? ⟨w.heap.size, 2, none⟩ = some (.slice a3 8 c3) := HT.out.2.1.d.cell 2
        clear hsn hsi hse
        cases hin : inB si 1 8 with
        | false =>
          have hk0 : kindAt is si = 0 := by
            by_cases e : kindAt is si = 0
            · exact e
            · have := HE.out _ _ (HSI.out.2 e)
              have : inB si 1 8 = true := by simp [inB]; omega
              rw [this] at hin; cases hin
          have HNX : Hid (PassIn (edge is bs) h0 h i (NS.map (·.2)) (t + 1)) := HT.out.1.skip (by rw [List.length_map]; exact htl) (by rw [HSI.out.1]; exact fun ⟨_, _, _, e⟩ => e hk0)
          have HIB := hide hin
          clear hk0 hin
          go_wp2_with (go_at_call 72; refine (l01In_any si 1 8 _).mono ?_; rintro e w7 ⟨rfl, rfl⟩; rw [HIB.out])
          go_roundw
          case rel => exact ⟨t + 1, h, by omega, by go_num, HNX.out, HT.out.2⟩
          case measure => simp [intOf]; omega
        | true =>
        obtain ⟨h1, h2⟩ := inB_true hin
        obtain ⟨j, rfl⟩ : ∃ j : Nat, si = (j : Int) + 1 := ⟨(si - 1).toNat, by omega⟩
        have hj8 : j < 8 := by omega
        have j0 : (0 : Int) ≤ (j : Int) := by omega
        have j1 : (j : Int) < 8 := by omega
        have hwj : IntKind.i64.wrap (j : Int) = (j : Int) := wrap_small _ (by omega) (by omega)
        obtain ⟨g2, o2, rfl, hg2, hkc⟩ := HIN.out j hj8
        have y0 := (HT.out.2.1.b.cell (p := ⟨g2, o2 + j * 3, none⟩) hg2).trans hkc
        have HIB := hide hin
        clear hin h1 h2 hkc
        by_cases hk0 : kindAt is ((j : Int) + 1) = 0
        · have HNX : Hid (PassIn (edge is bs) h0 h i (NS.map (·.2)) (t + 1)) := HT.out.1.skip (by rw [List.length_map]; exact htl) (by rw [HSI.out.1]; exact fun ⟨_, _, _, e⟩ => e hk0)
          rw [hk0] at y0
          clear hk0
          go_wp2_with (go_at_call 72; refine (l01In_any ((j : Int) + 1) 1 8 _).mono ?_; rintro e w7 ⟨rfl, rfl⟩; rw [HIB.out])
          go_roundw
          case rel => exact ⟨t + 1, h, by omega, by go_num, HNX.out, HT.out.2⟩
          case measure => simp [intOf]; omega
        obtain ⟨kd, hkd⟩ : ∃ k, kindAt is ((j : Int) + 1) = k := ⟨_, rfl⟩
        have HNX : Hid (PassIn (edge is bs) h0 (h.set j true) i (NS.map (·.2)) (t + 1)) := by
          have := HT.out.1.set (t := t) (by rw [List.length_map]; exact htl) (by rw [HSI.out.1]; exact HSI.out.2 hk0) (by rw [HSI.out.1]; omega)
          rw [HSI.out.1, show ((j : Int) + 1 - 1).toNat = j by omega] at this
          exact this
        rw [hkd] at y0 hk0
        have hkb : (kd != 0) = true := by simp [hk0]
        have kj := (HT.out.2.1.a.cell j).trans (hA_get h j (by rw [HT.out.1.p.s.n]; exact hj8))
        have fj := HT.out.2.1.a.frozen j
        have HST : Hid (Hs w (wr.setCell ⟨w.heap.size + 1, j, none⟩ (.bool true)) #[.slice a1 xs.length c1, .slice a2 ys.length c2, .slice (some ⟨g2, o2, none⟩) 8 c3, .slice a4 bs.length c4] (h.set j true) ∧ SOwns (wr.setCell ⟨w.heap.size + 1, j, none⟩ (.bool true)) wb 74 (.slice (some ⟨gs, 0, none⟩) NS.length sc') NS) := ⟨HT.out.2.1.set j, HT.out.2.2.setCell_low (by have := HSR.out.2; exact this) _⟩
        obtain ⟨bj, hbj⟩ : ∃ b, h.getD j false = b := ⟨_, rfl⟩
        rw [hbj] at kj
        clear hkd hk0 hbj
        go_wp2_with (go_at_call 72; refine (l01In_any ((j : Int) + 1) 1 8 _).mono ?_; rintro e w7 ⟨rfl, rfl⟩; rw [HIB.out])
        go_roundw
        case rel => exact ⟨t + 1, h.set j true, by omega, by go_num, HNX.out, HST.out⟩
        case measure => simp [intOf]; omega
end Go.Proofs.YtbebgnknjoclkaaGreat
/- append of a whole list to none: a copy in memory of its own. No Go function is spoken of. -/
namespace Go.Proofs.YtbebgnknjoclkaaGreat.Kit
open Go.RowKit
/-- The slice value v of n members reads as the cells cs. -/
def RC (w : World) (v : Value) (n : Nat) (cs : List Value) : Prop := ∃ a cap, v = .slice a n cap ∧ ∀ (j : Nat) (u : Value), cs[j]? = some u → ∃ g off, a = some ⟨g, off, none⟩ ∧ w.cell? ⟨g, off + j, none⟩ = some u
theorem run_append_copy {P : Program} (w : World) (t ty : TypeId) (base : Nat) (e : TypeId) (ht : P.underlying t = some (.slice e)) (z : Value) (m bytes : Nat)
    (hi : (P.info? e).map (fun i => (i.zero, i.size, i.bytes)) = some (some z, m, bytes)) (hzc : z.cells.size = m) (hm0 : 0 < m) (hby : bytes ≤ 640) (v : Value) (hown : w.ownsRow base e m v 0 [])
    (hbase : base ≤ w.heap.size) (x : Value) (n : Nat) (cs : List Value) (hx : RC w x n cs) (hcl : cs.length = n * m) (h1 : ∀ u ∈ cs, u.oneCell' = true) (hl : n ≤ 100000000000) :
    ∃ v' w', (Builtin.append_ #[t, t] ty #[v, x]).run P w = .ok v' w' ∧ w'.ownsRow base e m v' n cs ∧ w.grownBy w' v.ownBlock ∧ (v'.ownBlock = v.ownBlock ∨ v'.ownBlock = some w.heap.size) := by
  obtain ⟨i0, hi, hz0, hz1, hz2⟩ := info_parts hi
  obtain ⟨a, c, rfl, hc⟩ := hx
  cases a with
  | none =>
    have hx0 : cs = [] := by
      cases cs with
      | nil => rfl
      | cons y r => obtain ⟨_, _, h, _⟩ := hc 0 y (by simp); cases h
    subst hx0
    have hn : n = 0 := by
      rcases Nat.eq_zero_or_pos n with h | h
      · exact h
      · have := Nat.mul_pos h hm0; simp at hcl; omega
    subst hn
    obtain ⟨av, cv, rfl⟩ : ∃ av cv, v = .slice av 0 cv := by
      rcases hown.2 with ⟨h1, h0⟩ | ⟨g, cap, cur, h1, -, -, h4, -⟩
      · exact ⟨_, _, h1⟩
      · exact ⟨_, _, h1⟩
    have hr := run_append_nothing (P := P) w t t ty e i0 ht hi av 0 cv (Nat.zero_le _) (.slice none 0 c) (Src.ofNil w ht c)
    exact ⟨_, w, hr, hown, grownBy_below (Below.refl _ _) _, .inl rfl⟩
  | some ad =>
    have h63 : (0 + n) * bytes ≤ 100000000000 * 640 := Nat.mul_le_mul (by omega) hby
    obtain ⟨v', w', hr, h2, h3, _, h5⟩ := run_append_own_at (P := P) w base t ty e i0 z m bytes ht hi hz0 hz1 hz2 hzc hm0 v 0 [] hown ad n c cs hcl
      (fun j u hj => by
        obtain ⟨g, off, e1, h4⟩ := hc j u hj
        cases e1
        have ha : (⟨g, off, none⟩ : Addr).add j = ⟨g, off + j, none⟩ := by cases j <;> simp [Addr.add]
        rw [ha, h4]) h1 (by unfold maxLen; omega) (by omega) hbase
    refine ⟨v', w', hr, ?_, h3, h5⟩
    rw [Nat.zero_add, List.nil_append] at h2
    exact h2
theorem wp_append_copy {P : Program} (w : World) {o : Oper} {a : Act} {K : Act → World → Prop} {Q : Exit → Act → World → Prop} (s x : Operand) (t : TypeId)
    (ho : o.op = .call { callee := .builtin .append, args := #[s, x], argTypes := #[t, t] }) (base : Nat) (e : TypeId) (ht : P.underlying t = some (.slice e)) (z : Value) (m bytes : Nat)
    (hi : (P.info? e).map (fun i => (i.zero, i.size, i.bytes)) = some (some z, m, bytes)) (hzc : z.cells.size = m) (hm0 : 0 < m) (hby : bytes ≤ 640) (v : Value) (hs : a.eval s = v) (hown : w.ownsRow base e m v 0 [])
    (hbase : base ≤ w.heap.size) (u : Value) (hu : a.eval x = u) (n : Nat) (cs : List Value) (hx : RC w u n cs) (hcl : cs.length = n * m) (h1 : ∀ u ∈ cs, u.oneCell' = true) (hl : n ≤ 100000000000)
    (h : ∀ v' w', w'.ownsRow base e m v' n cs → w.grownBy w' v.ownBlock → (v'.ownBlock = v.ownBlock ∨ v'.ownBlock = some w.heap.size) → K (a.put o.dst v') w') : o.wp P a w K Q := by
  obtain ⟨v', w', hr, h2, h3, h4⟩ := run_append_copy (P := P) w t o.type base e ht z m bytes hi hzc hm0 hby v hown hbase u n cs hx hcl h1 hl
  unfold Oper.wp execOp
  simp only [ho, resolve, invoke, builtin, Sem.run_bind, Sem.run_pure, Result.andThen_ok, List.map_toArray, List.map_cons, List.map_nil, hs, hu, hr]
  exact h v' w' h2 h3 h4
theorem wpList_append_copy {P : Program} (w : World) {ops : Array Oper} {rest : List Oper} {o : Oper} {a : Act} {Q : Exit → Act → World → Prop} (hgd : o.guard = none) (s x : Operand) (t : TypeId)
    (ho : o.op = .call { callee := .builtin .append, args := #[s, x], argTypes := #[t, t] }) (base : Nat) (e : TypeId) (ht : P.underlying t = some (.slice e)) (z : Value) (m bytes : Nat)
    (hi : (P.info? e).map (fun i => (i.zero, i.size, i.bytes)) = some (some z, m, bytes)) (hzc : z.cells.size = m) (hm0 : 0 < m) (hby : bytes ≤ 640) (v : Value) (hs : a.eval s = v) (hown : w.ownsRow base e m v 0 [])
    (hbase : base ≤ w.heap.size) (u : Value) (hu : a.eval x = u) (n : Nat) (cs : List Value) (hx : RC w u n cs) (hcl : cs.length = n * m) (h1 : ∀ u ∈ cs, u.oneCell' = true) (hl : n ≤ 100000000000)
    (h : ∀ v' w', w'.ownsRow base e m v' n cs → w.grownBy w' v.ownBlock → (v'.ownBlock = v.ownBlock ∨ v'.ownBlock = some w.heap.size) → wpList P ops Q rest (a.put o.dst v') w') : wpList P ops Q (o :: rest) a w :=
  wpList_plain hgd fun _ hK => wp_append_copy w s x t ho base e ht z m bytes hi hzc hm0 hby v hs hown hbase u hu n cs hx hcl h1 hl fun v' w' a b c => hK _ _ (h v' w' a b c)
theorem step_append_copy {P : Program} (w : World) {ops : Array Oper} {o : Oper} {a : Act} {K : Act → World → Prop} {Q : Exit → Act → World → Prop} {E : Prop} (hgd : o.guard = none) (s x : Operand) (t : TypeId)
    (ho : o.op = .call { callee := .builtin .append, args := #[s, x], argTypes := #[t, t] }) (base : Nat) (e : TypeId) (ht : P.underlying t = some (.slice e)) (z : Value) (m bytes : Nat)
    (hi : (P.info? e).map (fun i => (i.zero, i.size, i.bytes)) = some (some z, m, bytes)) (hzc : z.cells.size = m) (hm0 : 0 < m) (hby : bytes ≤ 640) (v : Value) (hs : a.eval s = v) (hown : w.ownsRow base e m v 0 [])
    (hbase : base ≤ w.heap.size) (u : Value) (hu : a.eval x = u) (n : Nat) (cs : List Value) (hx : RC w u n cs) (hcl : cs.length = n * m) (h1 : ∀ u ∈ cs, u.oneCell' = true) (hl : n ≤ 100000000000)
    (h : ∀ v' w', w'.ownsRow base e m v' n cs → w.grownBy w' v.ownBlock → (v'.ownBlock = v.ownBlock ∨ v'.ownBlock = some w.heap.size) → K (a.put o.dst v') w') :
    if Region.wanted o (yielded ops a.tmps) = true then Oper.wp P o a w K Q else E := by
  rw [if_pos (by simp [Region.wanted, hgd])]
  exact wp_append_copy w s x t ho base e ht z m bytes hi hzc hm0 hby v hs hown hbase u hu n cs hx hcl h1 hl h
/-- To a list without any room nothing is written: only new blocks come. -/
theorem run_append_copy0 {P : Program} (w : World) (t ty : TypeId) (base : Nat) (e : TypeId) (ht : P.underlying t = some (.slice e)) (z : Value) (m bytes : Nat)
    (hi : (P.info? e).map (fun i => (i.zero, i.size, i.bytes)) = some (some z, m, bytes)) (hzc : z.cells.size = m) (hm0 : 0 < m) (hby : bytes ≤ 640) (ao : Option Addr) (hown : w.ownsRow base e m (.slice ao 0 0) 0 [])
    (hbase : base ≤ w.heap.size) (x : Value) (n : Nat) (cs : List Value) (hx : RC w x n cs) (hcl : cs.length = n * m) (h1 : ∀ u ∈ cs, u.oneCell' = true) (hl : n ≤ 100000000000) :
    ∃ v' w', (Builtin.append_ #[t, t] ty #[.slice ao 0 0, x]).run P w = .ok v' w' ∧ w'.ownsRow base e m v' n cs ∧ Below w.heap.size w w' ∧ (v'.ownBlock = (Value.slice ao 0 0).ownBlock ∨ v'.ownBlock = some w.heap.size) := by
  obtain ⟨v', w', hr, h2, h3, h4⟩ := run_append_copy (P := P) w t ty base e ht z m bytes hi hzc hm0 hby _ hown hbase x n cs hx hcl h1 hl
  refine ⟨v', w', hr, h2, ?_, h4⟩
  obtain ⟨i0, hi0, hz0, hz1, hz2⟩ := info_parts hi
  obtain ⟨a, c, rfl, hc⟩ := hx
  have same : w' = w → Below w.heap.size w w' := fun e => e ▸ Below.refl _ _
  cases a with
  | none =>
    have hx0 : cs = [] := by
      cases cs with
      | nil => rfl
      | cons y r => obtain ⟨_, _, h, _⟩ := hc 0 y (by simp); cases h
    subst hx0
    have hn : n = 0 := by
      rcases Nat.eq_zero_or_pos n with h | h
      · exact h
      · have := Nat.mul_pos h hm0; simp at hcl; omega
    subst hn
    have hr2 := run_append_nothing (P := P) w t t ty e i0 ht hi0 ao 0 0 (Nat.zero_le _) (.slice none 0 c) (Src.ofNil w ht c)
    rw [hr2] at hr
    simp only [Result.ok.injEq] at hr
    exact same hr.2.symm
  | some ad =>
    have hnews : ∀ j u, cs[j]? = some u → w.cell? (ad.add j) = some u := fun j u hj => by
      obtain ⟨g, off, e1, h4⟩ := hc j u hj
      cases e1
      have ha : (⟨g, off, none⟩ : Addr).add j = ⟨g, off + j, none⟩ := by cases j <;> simp [Addr.add]
      rw [ha, h4]
    subst hz1
    by_cases hn : n = 0
    · subst hn
      have hx0 : cs = [] := List.eq_nil_of_length_eq_zero (by simpa using hcl)
      subst hx0
      have hs : Src P i0.size t (.slice (some ad) 0 c) 0 [] w := Src.ofSlice w ht ad 0 c [] (by simp) (by simp) (by simp)
      have hr2 := run_append_nothing (P := P) w t t ty e i0 ht hi0 ao 0 0 (Nat.zero_le _) (.slice (some ad) 0 c) hs
      rw [hr2] at hr
      simp only [Result.ok.injEq] at hr
      exact same hr.2.symm
    · have hs : Src P i0.size t (.slice (some ad) n c) n cs w := Src.ofSlice w ht ad n c cs hcl hnews h1
      have h63 : (0 + n) * i0.bytes ≤ 100000000000 * 640 := Nat.mul_le_mul (by omega) (by rw [hz2]; exact hby)
      have hr2 := run_append_grow_src (P := P) w t t ty e i0 z ht hi0 hz0 ao 0 0 [] (by cases ao <;> simp [Builtin.firstCells, loadCells, loadCellsFrom]) (.slice (some ad) n c) n cs hs (by omega) (by omega) (growslice_fits (by omega) (by omega))
      rw [hr2] at hr
      simp only [Result.ok.injEq] at hr
      rw [← hr.2]
      exact (Below.refl _ w).drew.alloc (Nat.le_refl _) _
theorem wp_append_copy0 {P : Program} (w : World) {o : Oper} {a : Act} {K : Act → World → Prop} {Q : Exit → Act → World → Prop} (s x : Operand) (t : TypeId)
    (ho : o.op = .call { callee := .builtin .append, args := #[s, x], argTypes := #[t, t] }) (base : Nat) (e : TypeId) (ht : P.underlying t = some (.slice e)) (z : Value) (m bytes : Nat)
    (hi : (P.info? e).map (fun i => (i.zero, i.size, i.bytes)) = some (some z, m, bytes)) (hzc : z.cells.size = m) (hm0 : 0 < m) (hby : bytes ≤ 640) (ao : Option Addr) (hs : a.eval s = .slice ao 0 0) (hown : w.ownsRow base e m (.slice ao 0 0) 0 [])
    (hbase : base ≤ w.heap.size) (u : Value) (hu : a.eval x = u) (n : Nat) (cs : List Value) (hx : RC w u n cs) (hcl : cs.length = n * m) (h1 : ∀ u ∈ cs, u.oneCell' = true) (hl : n ≤ 100000000000)
    (h : ∀ v' w', w'.ownsRow base e m v' n cs → Below w.heap.size w w' → (v'.ownBlock = (Value.slice ao 0 0).ownBlock ∨ v'.ownBlock = some w.heap.size) → K (a.put o.dst v') w') : o.wp P a w K Q := by
  obtain ⟨v', w', hr, h2, h3, h4⟩ := run_append_copy0 (P := P) w t o.type base e ht z m bytes hi hzc hm0 hby ao hown hbase u n cs hx hcl h1 hl
  unfold Oper.wp execOp
  simp only [ho, resolve, invoke, builtin, Sem.run_bind, Sem.run_pure, Result.andThen_ok, List.map_toArray, List.map_cons, List.map_nil, hs, hu, hr]
  exact h v' w' h2 h3 h4
theorem step_append_copy0 {P : Program} (w : World) {ops : Array Oper} {o : Oper} {a : Act} {K : Act → World → Prop} {Q : Exit → Act → World → Prop} {E : Prop} (hgd : o.guard = none) (s x : Operand) (t : TypeId)
    (ho : o.op = .call { callee := .builtin .append, args := #[s, x], argTypes := #[t, t] }) (base : Nat) (e : TypeId) (ht : P.underlying t = some (.slice e)) (z : Value) (m bytes : Nat)
    (hi : (P.info? e).map (fun i => (i.zero, i.size, i.bytes)) = some (some z, m, bytes)) (hzc : z.cells.size = m) (hm0 : 0 < m) (hby : bytes ≤ 640) (ao : Option Addr) (hs : a.eval s = .slice ao 0 0) (hown : w.ownsRow base e m (.slice ao 0 0) 0 [])
    (hbase : base ≤ w.heap.size) (u : Value) (hu : a.eval x = u) (n : Nat) (cs : List Value) (hx : RC w u n cs) (hcl : cs.length = n * m) (h1 : ∀ u ∈ cs, u.oneCell' = true) (hl : n ≤ 100000000000)
    (h : ∀ v' w', w'.ownsRow base e m v' n cs → Below w.heap.size w w' → (v'.ownBlock = (Value.slice ao 0 0).ownBlock ∨ v'.ownBlock = some w.heap.size) → K (a.put o.dst v') w') :
    if Region.wanted o (yielded ops a.tmps) = true then Oper.wp P o a w K Q else E := by
  rw [if_pos (by simp [Region.wanted, hgd])]
  exact wp_append_copy0 w s x t ho base e ht z m bytes hi hzc hm0 hby ao hs hown hbase u hu n cs hx hcl h1 hl h
theorem RFl.rc {w : World} {v : Value} {xs : List Bool} (h : RFl w v xs) : RC w v xs.length (fc xs) := by
  obtain ⟨a, c, rfl, h⟩ := h
  refine ⟨a, c, rfl, fun j u hj => ?_⟩
  have hl : j < xs.length := by have := (List.getElem?_eq_some_iff.1 hj).1; rwa [fc_length] at this
  obtain ⟨g, off, e1, -, e2⟩ := h j hl
  have : u = .bool xs[j] := by simp [fc, hl] at hj; exact hj.symm
  exact ⟨g, off, e1, by rw [e2, this]⟩
theorem RInts.rc {w : World} {v : Value} {xs : List Int} (h : RInts w v xs) : RC w v xs.length (ic xs) := by
  obtain ⟨a, c, rfl, h⟩ := h
  refine ⟨a, c, rfl, fun j u hj => ?_⟩
  have hl : j < xs.length := by have := (List.getElem?_eq_some_iff.1 hj).1; rwa [ic_length] at this
  obtain ⟨g, off, e1, -, e2⟩ := h j hl
  have : u = .int .i64 xs[j] := by simp [ic, hl] at hj; exact hj.symm
  exact ⟨g, off, e1, by rw [e2, this]⟩
theorem RSl.rc {w : World} {v : Value} {xs : List Sl} (h : RSl w v xs) : RC w v xs.length (sc xs) := by
  obtain ⟨a, c, rfl, -, h⟩ := h
  refine ⟨a, c, rfl, fun j u hj => ?_⟩
  have hl : j < xs.length * 2 := by have := (List.getElem?_eq_some_iff.1 hj).1; rwa [sc_length] at this
  obtain ⟨q, hq⟩ : ∃ q, q = j / 2 := ⟨_, rfl⟩
  have hql : q < xs.length := by omega
  obtain ⟨g, off, e1, -, e2, e3⟩ := h q hql
  have hm : j % 2 = 0 ∨ j % 2 = 1 := by omega
  rcases hm with hm | hm
  · have hj2 : j = q * 2 := by omega
    rw [hj2, sc_name xs q hql] at hj
    exact ⟨g, off, e1, by rw [hj2, e2]; exact hj⟩
  · have hj2 : j = q * 2 + 1 := by omega
    rw [hj2, sc_ino xs q hql] at hj
    exact ⟨g, off, e1, by rw [hj2, ← Nat.add_assoc, e3]; exact hj⟩
theorem fc_one (xs : List Bool) : ∀ u ∈ fc xs, u.oneCell' = true := fun u hu => by simp only [fc, List.mem_map] at hu; obtain ⟨_, -, rfl⟩ := hu; rfl
theorem ic_one (xs : List Int) : ∀ u ∈ ic xs, u.oneCell' = true := fun u hu => by simp only [ic, List.mem_map] at hu; obtain ⟨_, -, rfl⟩ := hu; rfl
theorem sc_one (xs : List Sl) : ∀ u ∈ sc xs, u.oneCell' = true := by
  induction xs with
  | nil => intro u hu; cases hu
  | cons s r ih =>
    intro u hu
    simp only [sc, List.mem_cons] at hu
    rcases hu with rfl | rfl | hu
    · rfl
    · rfl
    · exact ih u hu
/-- Behind an append to what is new only new blocks have turned. -/
theorem below_of_append {B : Nat} {w0 w w' : World} {v : Value} (hb : Below B w0 w) (hB : B ≤ w.heap.size) (hg : w.grownBy w' v.ownBlock) (hv : ∀ k, v.ownBlock = some k → B ≤ k) : Below B w0 w' := hb.grown hg hB hv
end Go.Proofs.YtbebgnknjoclkaaGreat.Kit
/- Pointers (two numbers each): how they lie in memory; appends. No Go function is spoken of. -/
namespace Go.Proofs.YtbebgnknjoclkaaGreat.Kit
open Go.RowKit
/-- A pointer: its inode, its block. -/
abbrev Pr := Int × Int
/-- Pointers as cells, two each. -/
def pc : List Pr → List Value
  | [] => []
  | s :: r => .int .i64 s.1 :: .int .i64 s.2 :: pc r
theorem pc_length (xs : List Pr) : (pc xs).length = xs.length * 2 := by
  induction xs with
  | nil => rfl
  | cons s r ih => simp [pc, ih]; omega
theorem pc_append (a b : List Pr) : pc (a ++ b) = pc a ++ pc b := by
  induction a with
  | nil => rfl
  | cons s r ih => simp [pc, ih]
theorem pc_name (xs : List Pr) (j : Nat) (h : j < xs.length) : (pc xs)[j * 2]? = some (.int .i64 xs[j].1) := by
  induction xs generalizing j with
  | nil => simp at h
  | cons s r ih =>
    cases j with
    | zero => rfl
    | succ j =>
      rw [show (j + 1) * 2 = j * 2 + 1 + 1 by omega]
      simp only [pc, List.getElem?_cons_succ, List.getElem_cons_succ]
      exact ih j (by simpa using h)
theorem pc_ino (xs : List Pr) (j : Nat) (h : j < xs.length) : (pc xs)[j * 2 + 1]? = some (.int .i64 xs[j].2) := by
  induction xs generalizing j with
  | nil => simp at h
  | cons s r ih =>
    cases j with
    | zero => rfl
    | succ j =>
      rw [show (j + 1) * 2 + 1 = j * 2 + 1 + 1 + 1 by omega]
      simp only [pc, List.getElem?_cons_succ, List.getElem_cons_succ]
      exact ih j (by simpa using h)
/-- The slice value v owns the pointers xs (element type e), in blocks from 'base' on. -/
def POwns (w : World) (base : Nat) (e : TypeId) (v : Value) (xs : List Pr) : Prop := w.ownsRow base e 2 v xs.length (pc xs)
theorem POwns.alloc {w : World} {base : Nat} {e : TypeId} {v : Value} {l : List Pr} (h : POwns w base e v l) (o : Obj) : POwns (w.alloc o) base e v l := World.ownsRow.alloc h o
theorem POwns.drew {w : World} {base : Nat} {e : TypeId} {v : Value} {l : List Pr} (h : POwns w base e v l) : POwns w.drew base e v l := World.ownsRow.drew h
theorem POwns.nil (w : World) (base : Nat) (e : TypeId) : POwns w base e (.slice none 0 0) [] := World.ownsRow_nil _ _ _ _
theorem POwns.lit (w : World) (base : Nat) (e : TypeId) (cs : Array Value) (xs : List Pr) (hc : cs.toList = pc xs) (hb : base ≤ w.heap.size) (hm : xs.length ≤ maxLen) : POwns (w.alloc (.cells cs e)) base e (.slice (some ⟨w.heap.size, 0, none⟩) xs.length xs.length) xs := by
  have h1 : cs.size = xs.length * 2 := by rw [← Array.length_toList, hc, pc_length]
  have := World.ownsRow_lit (base := base) (e := e) (size := 2) w cs xs.length hb hm h1
  unfold POwns
  rwa [hc] at this
theorem POwns.lt {w : World} {base : Nat} {e : TypeId} {v : Value} {l : List Pr} (h : POwns w base e v l) : ∀ k, v.ownBlock = some k → base ≤ k ∧ k < w.heap.size := World.ownsRow.lt h
theorem POwns.base_le {w : World} {base base' : Nat} {e : TypeId} {v : Value} {l : List Pr} (h : POwns w base e v l) (hb : base' ≤ base) : POwns w base' e v l := by
  refine ⟨h.1, ?_⟩
  rcases h.2 with h1 | ⟨g, cap, cur, h1, h2, h3⟩
  · exact .inl h1
  · exact .inr ⟨g, cap, cur, h1, by omega, h3⟩
theorem POwns.form {w : World} {base : Nat} {e : TypeId} {v : Value} {l : List Pr} (h : POwns w base e v l) : ∃ a cap, v = .slice a l.length cap ∧ (a = none → l = []) := by
  rcases h.2 with ⟨rfl, h0⟩ | ⟨g, cap, cur, rfl, _⟩
  · exact ⟨none, 0, by rw [h0], fun _ => List.length_eq_zero_iff.1 h0⟩
  · exact ⟨_, _, rfl, fun h => by cases h⟩
theorem POwns.of_heap {w w' : World} {base : Nat} {e : TypeId} {v : Value} {l : List Pr} (h : POwns w base e v l) (hh : ∀ k, v.ownBlock = some k → w'.heap[k]? = w.heap[k]?) : POwns w' base e v l := by
  refine ⟨h.1, ?_⟩
  rcases h.2 with h1 | ⟨g, cap, cur, h1, h2, h3, h4⟩
  · exact .inl h1
  · exact .inr ⟨g, cap, cur, h1, h2, by rw [hh g (by rw [h1]; rfl), h3], h4⟩
theorem POwns.below {w w' : World} {base B : Nat} {e : TypeId} {v : Value} {l : List Pr} (h : POwns w base e v l) (hb : Below B w w') (hB : w.heap.size ≤ B) : POwns w' base e v l :=
  h.of_heap fun k hk => hb.block k (by have := (h.lt k hk).2; omega)
theorem POwns.grown {w w' : World} {base : Nat} {e : TypeId} {v : Value} {l : List Pr} {row : Option Nat} (h : POwns w base e v l) (hg : w.grownBy w' row) (hn : ∀ k, v.ownBlock = some k → row ≠ some k) : POwns w' base e v l :=
  h.of_heap fun k hk => hg.block k (h.lt k hk).2 (fun e => hn k hk e.symm)
theorem POwns.setCell_other {w : World} {base : Nat} {e : TypeId} {v : Value} {l : List Pr} (h : POwns w base e v l) {b j : Nat} (hp : v.ownBlock ≠ some b) (x : Value) : POwns (w.setCell ⟨b, j, none⟩ x) base e v l :=
  h.of_heap fun k hk => heap_setCell_other w ⟨b, j, none⟩ k x (fun e => by simp at e; subst e; exact hp hk)
theorem POwns.setCell_low {w : World} {base : Nat} {e : TypeId} {v : Value} {l : List Pr} (h : POwns w base e v l) {b j : Nat} (hp : b < base) (x : Value) : POwns (w.setCell ⟨b, j, none⟩ x) base e v l :=
  h.setCell_other (fun e => by have := (h.lt b e).1; omega) x
/-- Where the cells of what is owned lie. -/
theorem POwns.at {w : World} {base : Nat} {e : TypeId} {v : Value} {l : List Pr} (h : POwns w base e v l) (k : Nat) (hk : k < l.length) :
    ∃ g cap, v = .slice (some ⟨g, 0, none⟩) l.length cap ∧ w.cell? ⟨g, k * 2, none⟩ = some (.int .i64 l[k].1) ∧ w.cell? ⟨g, k * 2 + 1, none⟩ = some (.int .i64 l[k].2) ∧ (∀ j, w.frozen? ⟨g, j, none⟩ = false) ∧ base ≤ g ∧ g < w.heap.size ∧ l.length ≤ cap := by
  have hlt := h.lt
  rcases h.2 with ⟨h1, h0⟩ | ⟨g, cap, cur, rfl, h2, h3, h4, h5, h6, h7⟩
  · omega
  · have h' : w.ownsRow base e 2 (.slice (some ⟨g, 0, none⟩) l.length cap) l.length (pc l) := h
    exact ⟨g, cap, rfl, (h'.cellAt _ (by omega)).trans (pc_name l k hk), (h'.cellAt _ (by omega)).trans (pc_ino l k hk), h'.frozenAt, h2, (hlt g rfl).2, h4⟩
/-- The slice value v reads as the pointers xs. -/
def RPr (w : World) (v : Value) (xs : List Pr) : Prop := ∃ a cap, v = .slice a xs.length cap ∧ xs.length ≤ cap ∧ ∀ (j : Nat) (h : j < xs.length), ∃ g off, a = some ⟨g, off, none⟩ ∧ g < w.heap.size ∧ w.cell? ⟨g, off + j * 2, none⟩ = some (.int .i64 xs[j].1) ∧ w.cell? ⟨g, off + j * 2 + 1, none⟩ = some (.int .i64 xs[j].2)
theorem RPr.below {w w' : World} {B : Nat} {v : Value} {xs : List Pr} (h : RPr w v xs) (hb : Below B w w') (hB : w.heap.size ≤ B) : RPr w' v xs := by
  obtain ⟨a, cap, rfl, hcap, h⟩ := h
  refine ⟨a, cap, rfl, hcap, fun j hj => ?_⟩
  obtain ⟨g, off, e, hg, hc, hd⟩ := h j hj
  exact ⟨g, off, e, Nat.lt_of_lt_of_le hg hb.size, (hb.cell (p := ⟨g, off + j * 2, none⟩) (Nat.lt_of_lt_of_le hg hB)).trans hc, (hb.cell (p := ⟨g, off + j * 2 + 1, none⟩) (Nat.lt_of_lt_of_le hg hB)).trans hd⟩
theorem RPr.alloc {w : World} {v : Value} {xs : List Pr} (h : RPr w v xs) (o : Obj) : RPr (w.alloc o) v xs := h.below ((Below.refl _ w).alloc (Nat.le_refl _) o) (Nat.le_refl _)
theorem RPr.drew {w : World} {v : Value} {xs : List Pr} (h : RPr w v xs) : RPr w.drew v xs := h
theorem RPr.form {w : World} {v : Value} {xs : List Pr} (h : RPr w v xs) : ∃ a c, v = .slice a xs.length c := by
  obtain ⟨a, c, h, _⟩ := h
  exact ⟨a, c, h⟩
theorem POwns.rpr {w : World} {base : Nat} {e : TypeId} {v : Value} {xs : List Pr} (h : POwns w base e v xs) : RPr w v xs := by
  rcases h.2 with ⟨rfl, h0⟩ | ⟨g, cap, cur, rfl, _, _, hcap, _⟩
  · have : xs = [] := List.length_eq_zero_iff.1 h0
    subst this
    exact ⟨none, 0, rfl, Nat.le_refl _, fun j hj => absurd hj (Nat.not_lt_zero _)⟩
  · refine ⟨_, cap, rfl, hcap, fun j hj => ?_⟩
    obtain ⟨g', c', e1, k1, k2, _, _, k5, _⟩ := h.at j hj
    simp only [Value.slice.injEq, Option.some.injEq, Addr.mk.injEq] at e1
    obtain ⟨⟨rfl, -, -⟩, -, rfl⟩ := e1
    exact ⟨g, 0, rfl, k5, by rw [Nat.zero_add]; exact k1, by rw [Nat.zero_add]; exact k2⟩
end Go.Proofs.YtbebgnknjoclkaaGreat.Kit
namespace Go.Proofs.YtbebgnknjoclkaaGreat
open Go.RowKit Kit
theorem Tryz.u131 : Tryz.prog.underlying 131 = some (.slice 107) := by kernel_rfl
theorem Tryz.i107 : (Tryz.prog.info? 107).map (fun i => (i.zero, i.size, i.bytes)) = some (some (.agg #[.int .i64 0, .int .i64 0]), 2, 16) := by kernel_rfl
theorem step_append_pr (W : World) {ops : Array Oper} {o : Oper} {a : Act} {K : Act → World → Prop} {Q : Exit → Act → World → Prop} {E : Prop} (hgd : o.guard = none) (s x : Operand)
    (ho : o.op = .call { callee := .builtin .append, args := #[s, x], argTypes := #[131, 131] }) (base : Nat) (v : Value) (l : List Pr) (hs : a.eval s = v) (hown : POwns W base 107 v l) (hbase : base ≤ W.heap.size)
    (g : Nat) (nm : Int) (io : Int) (hx : a.eval x = .slice (some ⟨g, 0, none⟩) 1 1) (hc : AtC W g 107 #[.int .i64 nm, .int .i64 io]) (hl : l.length ≤ 100000000000)
    (h : ∀ v' w', POwns w' base 107 v' (l ++ [(nm, io)]) → W.grownBy w' v.ownBlock → (∀ k, v'.ownBlock = some k → v.ownBlock = some k ∨ W.heap.size ≤ k) → K (a.put o.dst v') w') :
    if Region.wanted o (yielded ops a.tmps) = true then Oper.wp Tryz.prog o a W K Q else E := by
  obtain ⟨i0, hi, hz0, hz1, hz2⟩ := info_parts Tryz.i107
  refine step_append_lies _ hgd s x 131 ho base 107 i0 _ 2 16 Tryz.u131 hi hz0 hz1 hz2 rfl (by decide) v l.length (pc l) hs hown ⟨g, 0, none⟩ 1 1 [.int .i64 nm, .int .i64 io] hx rfl ?_ ?_ (by decide) ?_ ?_ hbase W.heap.size rfl ?_
  · intro j u hj
    have := (hc.cell j).trans (show (#[.int .i64 nm, .int .i64 io] : Array Value)[j]? = some u by simpa using hj)
    by_cases e : j = 0
    · subst e; simpa [Addr.add] using this
    · simpa [Addr.add, e] using this
  · intro u hu
    simp only [List.mem_cons, List.not_mem_nil, or_false] at hu
    rcases hu with rfl | rfl <;> rfl
  · unfold maxLen; omega
  · omega
  · intro g' cap w' hown' hgrow hat _
    refine h _ w' ?_ hgrow fun k hk => ?_
    · show w'.ownsRow base 107 2 _ (l ++ [(nm, io)]).length (pc (l ++ [(nm, io)]))
      rw [List.length_append, pc_append]
      exact hown'
    · simp only [Value.ownBlock, Option.some.injEq] at hk
      subst hk
      rcases hat with hat | hat
      · exact .inl hat
      · exact .inr (by omega)

theorem step_append_sls (W : World) {ops : Array Oper} {o : Oper} {a : Act} {K : Act → World → Prop} {Q : Exit → Act → World → Prop} {E : Prop} (hgd : o.guard = none) (s x : Operand)
    (ho : o.op = .call { callee := .builtin .append, args := #[s, x], argTypes := #[68, 68] }) (B : Nat) (v : Value) (ns : List Sl) (hs : a.eval s = v) (hown : SOwns W B 74 v ns) (hB : B ≤ W.heap.size)
    (u : Value) (ms : List Sl) (hx : a.eval x = u) (hu : RSl W u ms) (hl : ns.length ≤ 100000000000) (hm : ms.length ≤ 100000000)
    (h : ∀ v' w', SOwns w' B 74 v' (ns ++ ms) → W.grownBy w' v.ownBlock → (∀ k, v'.ownBlock = some k → v.ownBlock = some k ∨ W.heap.size ≤ k) → K (a.put o.dst v') w') :
    if Region.wanted o (yielded ops a.tmps) = true then Oper.wp Tryz.prog o a W K Q else E := by
  obtain ⟨i0, hi, hz0, hz1, hz2⟩ := info_parts Tryz.i74
  obtain ⟨a1, c1, rfl, hle⟩ : ∃ a1 c1, v = .slice a1 ns.length c1 ∧ ns.length ≤ c1 := by
    obtain ⟨a1, c1, e, h1, -⟩ := hown.rsl
    exact ⟨a1, c1, e, h1⟩
  obtain ⟨a2, c2, rfl, hc2, hcell⟩ := hu
  cases ms with
  | nil =>
    rw [if_pos (by simp [Region.wanted, hgd])]
    have hsrc : Src Tryz.prog i0.size 68 (.slice a2 0 c2) 0 [] W := by
      cases a2 with
      | none => exact Src.ofNil W Tryz.u68 c2
      | some a2 => exact Src.ofSlice W Tryz.u68 a2 0 c2 [] (by simp) (fun j u hj => by simp at hj) (fun u h => by cases h)
    have hr := run_append_nothing W 68 68 o.type 74 i0 Tryz.u68 hi a1 ns.length c1 hle (.slice a2 0 c2) hsrc
    have hx' : a.eval x = .slice a2 0 c2 := hx
    unfold Oper.wp execOp
    simp only [ho, resolve, invoke, builtin, Sem.run_bind, Sem.run_pure, Result.andThen_ok, List.map_toArray, List.map_cons, List.map_nil, hs, hx', hr]
    exact h _ W (by rw [List.append_nil]; exact hown) (grownBy_below (Below.refl _ _) _) (fun k hk => .inl hk)
  | cons y r =>
    obtain ⟨g, off, rfl, -, -, -⟩ := hcell 0 (by simp)
    refine step_append_lies _ hgd s x 68 ho B 74 i0 _ 2 24 Tryz.u68 hi hz0 hz1 hz2 rfl (by decide) _ ns.length (sc ns) hs hown ⟨g, off, none⟩ (y :: r).length c2 (sc (y :: r)) hx (by rw [sc_length]) ?_ (sc_one _) (by simp) ?_ ?_ hB W.heap.size rfl ?_
    · intro j u' hj
      have hj2 : j < (y :: r).length * 2 := by
        rw [← sc_length]
        exact (List.getElem?_eq_some_iff.1 hj).1
      obtain ⟨g2, o2, e3, -, k0, k1⟩ := hcell (j / 2) (by omega)
      simp only [Option.some.injEq, Addr.mk.injEq, and_true] at e3
      obtain ⟨rfl, rfl⟩ := e3
      have hadd : (⟨g, off, none⟩ : Addr).add j = ⟨g, off + j, none⟩ := by
        by_cases e : j = 0
        · subst e; simp [Addr.add]
        · simp [Addr.add, e]
      rw [hadd]
      rcases Nat.mod_two_eq_zero_or_one j with e | e
      · have e2 : j / 2 * 2 = j := by omega
        have := sc_name (y :: r) (j / 2) (by omega)
        rw [e2] at k0 this
        rw [k0, ← this, hj]
      · have e2 : j / 2 * 2 + 1 = j := by omega
        have := sc_ino (y :: r) (j / 2) (by omega)
        rw [e2] at this
        rw [Nat.add_assoc, e2] at k1
        rw [k1, ← this, hj]
    · unfold maxLen; simp only [List.length_cons] at hm ⊢; omega
    · simp only [List.length_cons] at hm ⊢; omega
    · intro g' cap' w' q1 q2 q3 _
      refine h _ w' ?_ q2 fun k hk => ?_
      · show w'.ownsRow B 74 2 _ (ns ++ y :: r).length (sc (ns ++ y :: r))
        rw [List.length_append, sc_append]
        exact q1
      · simp only [Value.ownBlock, Option.some.injEq] at hk
        subst hk
        rcases q3 with q3 | q3
        · exact .inl q3
        · exact .inr (by omega)
end Go.Proofs.YtbebgnknjoclkaaGreat
/- What is counted, as plain functions. No Go function is spoken of. -/
namespace Go.Proofs.YtbebgnknjoclkaaGreat
open Go.RowKit Kit
/-- All slots with a name of reached directories. -/
def slotsR (is : List Ino) (bs : List Blk) : List Sl := (reachL is bs).flatMap (named is bs)
theorem reachL_len (is : List Ino) (bs : List Blk) : (reachL is bs).length ≤ 8 := rchL_len _
theorem flat_take {α β : Type} (l : List α) (f : α → List β) (q : Nat) (h : q < l.length) : (l.take (q + 1)).flatMap f = (l.take q).flatMap f ++ f l[q] := by
  rw [List.take_succ_eq_append_getElem h, List.flatMap_append, List.flatMap_cons, List.flatMap_nil, List.append_nil]
theorem flatN_len {is : List Ino} {bs : List Blk} (h : RD is bs) (l : List Int) : (l.flatMap (named is bs)).length ≤ l.length * 8 := flatMap_len l fun i _ => h.named8 i
theorem slotsR_len {is : List Ino} {bs : List Blk} (h : RD is bs) : (slotsR is bs).length ≤ 64 := by
  have h1 := flatN_len h (reachL is bs)
  have h2 := reachL_len is bs
  unfold slotsR
  omega
/-- How many slots have this number. -/
def linksN (is : List Ino) (bs : List Blk) (i : Int) : Nat := (slotsR is bs).countP fun s => decide (s.2 = i)
theorem countP_take {α : Type} (l : List α) (p : α → Bool) (q : Nat) (h : q < l.length) : (l.take (q + 1)).countP p = (l.take q).countP p + if p l[q] = true then 1 else 0 := by
  rw [List.take_succ_eq_append_getElem h, List.countP_append, List.countP_cons, List.countP_nil, Nat.zero_add]
theorem countP_take_le {α : Type} (l : List α) (p : α → Bool) (q : Nat) : (l.take q).countP p ≤ l.length := Nat.le_trans List.countP_le_length (by rw [List.length_take]; omega)
theorem linksN_le {is : List Ino} {bs : List Blk} (h : RD is bs) (i : Int) : linksN is bs i ≤ 64 := Nat.le_trans List.countP_le_length (slotsR_len h)
end Go.Proofs.YtbebgnknjoclkaaGreat
/- impl.reachedSlots and impl.LinksOf by their contracts. -/
namespace Go.Proofs.YtbebgnknjoclkaaGreat
open Go.RowKit Kit
set_option maxRecDepth 100000 in
set_option maxHeartbeats 3200000 in
theorem rSlots_any (dx dy iv bv : Value) (xs ys : List Bool) (is : List Ino) (bs : List Blk) (w : World) (h : DR w dx dy iv bv xs ys is bs) (hR : RD is bs) :
    Calls Tryz.prog 108 #[.agg #[dx, dy, iv, bv]] w fun e w' => ∃ v, e = .returned v ∧ SOwns w' w.heap.size 74 v (slotsR is bs) ∧ Below w.heap.size w w' := by
  obtain ⟨a1, c1, a2, c2, a3, c3, a4, c4, rfl, rfl, rfl, rfl⟩ := h.form
  have HB0 : Hid (Below w.heap.size w (w.alloc (.cells #[.slice a1 xs.length c1, .slice a2 ys.length c2, .slice a3 is.length c3, .slice a4 bs.length c4] 34))) := (Below.refl _ w).alloc (Nat.le_refl _) _
  have HA0 := hide (AtC.new w 34 #[.slice a1 xs.length c1, .slice a2 ys.length c2, .slice a3 is.length c3, .slice a4 bs.length c4])
  have CR := hide (implReach_any (.slice a1 xs.length c1) (.slice a2 ys.length c2) (.slice a3 is.length c3) (.slice a4 bs.length c4) xs ys is bs (w.alloc (.cells #[.slice a1 xs.length c1, .slice a2 ys.length c2, .slice a3 is.length c3, .slice a4 bs.length c4] 34)) (h.alloc _) hR)
  have CN := hide (fun (x : Int) (W : World) (hb : Below w.heap.size w W) => namedI_any x (.slice a1 xs.length c1) (.slice a2 ys.length c2) (.slice a3 is.length c3) (.slice a4 bs.length c4) xs ys is bs W (h.below hb (Nat.le_refl _)) hR)
  have HL8 : Hid (∀ x, (named is bs x).length ≤ 8) := hR.named8
  have HLT : Hid (∀ q, (((reachL is bs).take q).flatMap (named is bs)).length ≤ 64) := fun q => by
    have h1 := flatN_len hR ((reachL is bs).take q)
    have h2 := reachL_len is bs
    rw [List.length_take] at h1
    omega
  have HR8 := hide (reachL_len is bs)
  have HFT := hide (fun q hq => flat_take (reachL is bs) (named is bs) q hq)
  obtain ⟨RL, hRL⟩ : ∃ l, reachL is bs = l := ⟨_, rfl⟩
  have HRES : Hid (slotsR is bs = RL.flatMap (named is bs)) := by show slotsR is bs = _; unfold slotsR; rw [hRL]
  rw [HRES.out]
  rw [hRL] at CR HLT HR8 HFT
  clear h hR hRL HRES
  go_enter Tryz.func108, Tryz.ntmps108
  go_wp2_with fail
  refine CR.out.mono ?_
  rintro e w1 ⟨rv, rfl, R1, B1⟩
  have HB1 := hide (HB0.out.trans (B1.mono HB0.out.size))
  have HA1 := hide (HA0.out.over B1)
  obtain ⟨ra, rc, rfl, hcr⟩ := R1.rints
  have HCR := hide hcr
  have r8 : RL.length ≤ 8 := HR8.out
  clear R1 B1 CR HB0 HA0 hcr
  go_wp2_with fail
  go_loopw [3, 9] (fun sv kv wr => ∃ (s' : Value) (q : Nat), s' = sv ∧ q ≤ RL.length ∧ kv = .int .i64 q ∧ Hid (SOwns wr w1.heap.size 74 s' ((RL.take q).flatMap (named is bs)) ∧ Below w1.heap.size w1 wr)) (fun _ kv _ => RL.length - (intOf kv).toNat)
  case atStart => exact ⟨_, 0, rfl, Nat.zero_le _, rfl, by simpa using SOwns.nil w1 w1.heap.size 74, Below.refl _ _⟩
  case round =>
    obtain ⟨sv, q, hsv, hq, rfl, HQ⟩ := hrel
    subst hsv
    have q0 : (0 : Int) ≤ (q : Int) := by omega
    by_cases hlt : q < RL.length
    rotate_left
    · have q1 : ¬ ((q : Int) < (RL.length : Int)) := by omega
      go_wp2
      go_ret
      have := HQ.out.1
      rw [List.take_of_length_le (by omega)] at this
      exact ⟨_, rfl, this.base_le HB1.out.size, HB1.out.trans (HQ.out.2.mono HB1.out.size)⟩
    have q1 : (q : Int) < (RL.length : Int) := by omega
    obtain ⟨gr, orr, rfl, hgr, kr⟩ := HCR.out q hlt
    replace kr := (HQ.out.2.cell (p := ⟨gr, orr + q, none⟩) hgr).trans kr
    have HF1 := hide (HFT.out q hlt)
    obtain ⟨di, hdi⟩ : ∃ x, RL[q] = x := ⟨_, rfl⟩
    rw [hdi] at kr HF1
    have HB2 := hide (HB1.out.trans (HQ.out.2.mono HB1.out.size))
    have HA2 := hide (HA1.out.over HQ.out.2)
    have z0 : wr.cell? ⟨w.heap.size, 0, none⟩ = some (.slice a1 xs.length c1) := HA2.out.cell 0
    have z1 : wr.cell? ⟨w.heap.size, 1, none⟩ = some (.slice a2 ys.length c2) := HA2.out.cell 1
    have z2 : wr.cell? ⟨w.heap.size, 2, none⟩ = some (.slice a3 is.length c3) := HA2.out.cell 2
    have z3 : wr.cell? ⟨w.heap.size, 3, none⟩ = some (.slice a4 bs.length c4) := HA2.out.cell 3
    have CN1 := hide (CN.out di wr HB2.out)
    clear hdi
    go_wp2_with fail
    refine CN1.out.mono ?_
    rintro e w2 ⟨nv, rfl, S2, B2⟩
    obtain ⟨na, nc, rfl, -⟩ := S2.form
    have HS2 : Hid (SOwns w2 w1.heap.size 74 sv ((RL.take q).flatMap (named is bs)) ∧ RSl w2 (.slice na (named is bs di).length nc) (named is bs di) ∧ w1.heap.size ≤ w2.heap.size ∧ Below w1.heap.size w1 w2) := ⟨HQ.out.1.below B2 (Nat.le_refl _), S2.rsl, Nat.le_trans HQ.out.2.size B2.size, HQ.out.2.trans (B2.mono HQ.out.2.size)⟩
    have HLN : Hid (((RL.take q).flatMap (named is bs)).length ≤ 100000000000 ∧ (named is bs di).length ≤ 100000000) := ⟨by have := HLT.out q; omega, by have := HL8.out di; omega⟩
    clear S2 B2 CN1 z0 z1 z2 z3 kr
    go_wp2_with (at_builtin; refine wpList_step fun K' hK' => ?_; refine step_append_sls _ rfl (.tmp 13) (.tmp 16) rfl w1.heap.size sv _ rfl HS2.out.1 HS2.out.2.2.1 _ _ rfl HS2.out.2.1 HLN.out.1 HLN.out.2 ?_; intro v9 w9 T9 G9 V9; refine hK' _ _ ?_; rw [← HF1.out] at T9; have HR9 := hide (And.intro T9 (HS2.out.2.2.2.grown G9 HS2.out.2.2.1 (fun k hk => (HS2.out.1.lt k hk).1))); clear T9 G9 V9 hK')
    go_roundw
    case rel => exact ⟨v9, q + 1, rfl, by omega, by go_num, HR9.out⟩
    case measure => simp [intOf]; omega
set_option maxRecDepth 100000 in
set_option maxHeartbeats 3200000 in
theorem implLinks_any (x : Int) (dx dy iv bv : Value) (xs ys : List Bool) (is : List Ino) (bs : List Blk) (w : World) (h : DR w dx dy iv bv xs ys is bs) (hR : RD is bs) :
    Calls Tryz.prog 86 #[.agg #[dx, dy, iv, bv], .int .i64 x] w fun e w' => e = .returned (.int .i64 (linksN is bs x)) ∧ Below w.heap.size w w' := by
  obtain ⟨a1, c1, a2, c2, a3, c3, a4, c4, rfl, rfl, rfl, rfl⟩ := h.form
  have HB0 : Hid (Below w.heap.size w (w.alloc (.cells #[.slice a1 xs.length c1, .slice a2 ys.length c2, .slice a3 is.length c3, .slice a4 bs.length c4] 34))) := (Below.refl _ w).alloc (Nat.le_refl _) _
  have CR := hide (rSlots_any (.slice a1 xs.length c1) (.slice a2 ys.length c2) (.slice a3 is.length c3) (.slice a4 bs.length c4) xs ys is bs (w.alloc (.cells #[.slice a1 xs.length c1, .slice a2 ys.length c2, .slice a3 is.length c3, .slice a4 bs.length c4] 34)) (h.alloc _) hR)
  have HS6 := hide (slotsR_len hR)
  obtain ⟨SL, hSL⟩ : ∃ l, slotsR is bs = l := ⟨_, rfl⟩
  have HRES : Hid (linksN is bs x = SL.countP fun s => decide (s.2 = x)) := by show linksN is bs x = _; unfold linksN; rw [hSL]
  rw [HRES.out]
  rw [hSL] at CR HS6
  clear h hR hSL HRES
  go_enter Tryz.func86, Tryz.ntmps86
  go_wp2_with fail
  refine CR.out.mono ?_
  rintro e w1 ⟨rv, rfl, R1, B1⟩
  have HB1 := hide (HB0.out.trans (B1.mono HB0.out.size))
  obtain ⟨ra, rc, rfl, -, hcr⟩ := R1.rsl
  have HCR := hide hcr
  have r8 : SL.length ≤ 64 := HS6.out
  clear R1 B1 CR HB0 hcr
  go_wp2_with fail
  go_loopw [5, 11] (fun nv kv wr => ∃ (q : Nat), q ≤ SL.length ∧ nv = .int .i64 (((SL.take q).countP fun s => decide (s.2 = x) : Nat) : Int) ∧ kv = .int .i64 q ∧ Hid (Below w1.heap.size w1 wr)) (fun _ kv _ => SL.length - (intOf kv).toNat)
  case atStart => exact ⟨0, Nat.zero_le _, by simp, rfl, Below.refl _ _⟩
  case round =>
    obtain ⟨q, hq, rfl, rfl, HQ⟩ := hrel
    have q0 : (0 : Int) ≤ (q : Int) := by omega
    by_cases hlt : q < SL.length
    rotate_left
    · have q1 : ¬ ((q : Int) < (SL.length : Int)) := by omega
      rw [List.take_of_length_le (by omega)]
      go_wp2
      go_ret
      exact ⟨rfl, HB1.out.trans (HQ.out.mono HB1.out.size)⟩
    have q1 : (q : Int) < (SL.length : Int) := by omega
    obtain ⟨gs, os, rfl, hgs, ks0, ks1⟩ := HCR.out q hlt
    have HCT := hide (countP_take SL (fun s => decide (s.2 = x)) q hlt)
    have hle := countP_take_le SL (fun s => decide (s.2 = x)) q
    obtain ⟨⟨sn, si⟩, hsn⟩ : ∃ X, SL[q] = X := ⟨_, rfl⟩
    rw [hsn] at ks0 ks1 HCT
    simp only at ks0 ks1
    replace ks0 := (HQ.out.cell (p := ⟨gs, os + q * 2, none⟩) hgs).trans ks0
    replace ks1 := (HQ.out.cell (p := ⟨gs, os + q * 2 + 1, none⟩) hgs).trans ks1
    have hgw : ¬ gs = wr.heap.size := by have := HQ.out.size; omega
    have HQ2 : Hid (Below w1.heap.size w1 (wr.alloc (.cells #[.string sn, .int .i64 si] 74))) := HQ.out.alloc HQ.out.size _
    obtain ⟨cn, hcn⟩ : ∃ c, (SL.take q).countP (fun s => decide (s.2 = x)) = c := ⟨_, rfl⟩
    rw [hcn] at HCT hle ⊢
    clear hsn hcn
    by_cases hx : si = x
    · subst hx
      have HE : Hid ((SL.take (q + 1)).countP (fun s => decide (s.2 = si)) = cn + 1) := hide (by have := HCT.out; simpa using this)
      go_wp2
      go_roundw
      case rel => exact ⟨q + 1, by omega, by rw [HE.out]; go_num, by go_num, HQ2.out⟩
      case measure => simp [intOf]; omega
    · have HE : Hid ((SL.take (q + 1)).countP (fun s => decide (s.2 = x)) = cn) := hide (by have := HCT.out; simpa [hx] using this)
      go_wp2
      go_roundw
      case rel => exact ⟨q + 1, by omega, by rw [HE.out], by go_num, HQ2.out⟩
      case measure => simp [intOf]; omega
end Go.Proofs.YtbebgnknjoclkaaGreat
/- A right disk: what is asked of it besides; its parts in memory. No Go function is spoken of. -/
namespace Go.Proofs.YtbebgnknjoclkaaGreat
open Go.RowKit Kit
/-- A right disk. -/
structure RX (xs ys : List Bool) (is : List Ino) (bs : List Blk) : Prop where
  r : RD is bs
  sr : ∀ q ∈ bs, ∀ s ∈ q.2.1, s.1 = ⟨#[]⟩ ∨ (1 ≤ s.2 ∧ s.2 ≤ 8)
  pr : ∀ q ∈ is, ∀ p ∈ q.2.2, 0 ≤ p ∧ p ≤ 16
  bx : xs.length = 16
  y8 : ys.length = 8
theorem RX.of_ok {xs ys : List Bool} {is : List Ino} {bs : List Blk} (h : diskOk xs ys is bs = true) : RX xs ys is bs := by
  have hr := RD.of_ok h
  unfold diskOk at h
  simp only [Bool.and_eq_true, decide_eq_true_eq] at h
  obtain ⟨⟨h0, h1, h2⟩, h3, h4⟩ := h
  have hi : ∀ q ∈ is, inoOk q = true := List.all_eq_true.1 h1
  have hb : ∀ q ∈ bs, blkOk q = true := List.all_eq_true.1 h3
  have h00 : xs.length = 16 ∧ ys.length = 8 := by simpa [okB] using h0
  refine ⟨hr, fun q hq s hs => ?_, fun q hq p hp => ?_, h00.1, h00.2⟩
  · have := hb q hq
    unfold blkOk blockOk at this
    cases e : q.1 with
    | true =>
      rw [e] at this
      have h5 : q.2.2.size = 0 ∧ slotsOk q.2.1 = true := by simpa using this
      have h6 := h5.2
      unfold slotsOk at h6
      rw [Bool.and_eq_true] at h6
      have := okF_all _ _ h6.2 s hs
      rcases of_decide_eq_true this with h | h
      · exact .inl (size_zero h.1)
      · exact .inr h.2
    | false =>
      rw [hr.text q hq e] at hs
      cases hs
  · have := hi q hq
    unfold inoOk at this
    obtain ⟨k, l, ps⟩ := q
    match ps, this, hp with
    | [a, b], h, hp =>
      have h5 := of_decide_eq_true h
      simp only [List.mem_cons, List.not_mem_nil, or_false] at hp
      rcases hp with rfl | rfl <;> omega
    | [], h, _ => cases h
    | [_], h, _ => cases h
    | _ :: _ :: _ :: _, h, _ => cases h
theorem RX.slot {xs ys : List Bool} {is : List Ino} {bs : List Blk} (h : RX xs ys is bs) {i : Int} {s : Sl} (hs : s ∈ named is bs i) : 1 ≤ s.2 ∧ s.2 ≤ 8 := by
  unfold named at hs
  split at hs
  · obtain ⟨p, -, hp⟩ := List.mem_flatMap.1 hs
    unfold nmd at hp
    split at hp
    · obtain ⟨h1, h2⟩ := mem_nmdS hp
      rcases blkAt_cases bs p with e | e
      · rw [e] at h1; simp at h1
      · exact (h.sr _ e s h1).resolve_left h2
    · simp at hp
  · simp at hs
theorem RX.ptr {xs ys : List Bool} {is : List Ino} {bs : List Blk} (h : RX xs ys is bs) {i p : Int} (hp : p ∈ ptrsAt is i) : 0 ≤ p ∧ p ≤ 16 := by
  rcases kindAt_cases (is := is) i with ⟨-, e⟩ | ⟨q, hq, -, e⟩
  · rw [e] at hp; cases hp
  · rw [e] at hp; exact h.pr q hq p hp
theorem reach8 {is : List Ino} {bs : List Blk} {i : Int} (hi : i ∈ reachL is bs) : 1 ≤ i ∧ i ≤ 8 := mem_all8.1 ((rchL_sub _).subset hi)
/-- An inode in memory. -/
theorem DR.ino {w : World} {u v bv : Value} {a3 : Option Addr} {n c3 : Nat} {xs ys : List Bool} {is : List Ino} {bs : List Blk} (h : DR w u v (.slice a3 n c3) bv xs ys is bs) (j : Nat) (hj : j < is.length) :
    ∃ g2 o2 sa sc, a3 = some ⟨g2, o2, none⟩ ∧ g2 < w.heap.size ∧ w.cell? ⟨g2, o2 + j * 3, none⟩ = some (.int .i64 (kindAt is ((j : Int) + 1))) ∧ w.cell? ⟨g2, o2 + j * 3 + 1, none⟩ = some (.int .i64 is[j].2.1) ∧ w.cell? ⟨g2, o2 + j * 3 + 2, none⟩ = some (.slice sa (ptrsAt is ((j : Int) + 1)).length sc) ∧ RInts w (.slice sa (ptrsAt is ((j : Int) + 1)).length sc) (ptrsAt is ((j : Int) + 1)) := by
  obtain ⟨qa, qc, qe, -, qh⟩ := h.i
  simp only [Value.slice.injEq] at qe
  obtain ⟨rfl, rfl, rfl⟩ := qe
  obtain ⟨g2, o2, ⟨t0, t1, t2⟩, rfl, hg2, r0, r1, r2, e0, e1, rr⟩ := qh j hj
  simp only at r0 r1 r2 e0 e1 rr
  subst e0 e1
  obtain ⟨sa, sc, rfl⟩ := rr.form
  rw [(kindAt_in hj).1, (kindAt_in hj).2]
  exact ⟨g2, o2, sa, sc, rfl, hg2, r0, r1, r2, rr⟩
theorem DR.bit {w : World} {a : Option Addr} {n c : Nat} {zs : List Bool} (h : RFl w (.slice a n c) zs) (j : Nat) (hj : j < zs.length) :
    ∃ g o, a = some ⟨g, o, none⟩ ∧ g < w.heap.size ∧ w.cell? ⟨g, o + j, none⟩ = some (.bool zs[j]) := by
  obtain ⟨a', c', e, hc⟩ := h
  simp only [Value.slice.injEq] at e
  obtain ⟨rfl, rfl, rfl⟩ := e
  exact hc j hj
/-- A block in memory: its flag. -/
theorem DR.blk {w : World} {u v iv : Value} {a4 : Option Addr} {n c4 : Nat} {xs ys : List Bool} {is : List Ino} {bs : List Blk} (h : DR w u v iv (.slice a4 n c4) xs ys is bs) (j : Nat) (hj : j < bs.length) :
    ∃ g o, a4 = some ⟨g, o, none⟩ ∧ g < w.heap.size ∧ w.cell? ⟨g, o + j * 3, none⟩ = some (.bool (blkAt bs ((j : Int) + 1)).1) := by
  obtain ⟨qa, qc, qe, -, qh⟩ := h.k
  simp only [Value.slice.injEq] at qe
  obtain ⟨rfl, rfl, rfl⟩ := qe
  obtain ⟨g2, o2, ⟨t0, t1, t2⟩, rfl, hg2, r0, r1, r2, e0, e1, rr⟩ := qh j hj
  simp only at r0 e0
  subst e0
  have hb : inB ((j : Int) + 1) 1 bs.length = true := by simp [inB]; omega
  refine ⟨g2, o2, rfl, hg2, ?_⟩
  obtain ⟨jb, hjb, e, e2⟩ := blkAt_in hb
  obtain rfl : jb = j := by omega
  rw [r0, e2]
end Go.Proofs.YtbebgnknjoclkaaGreat
/- impl.pointersOf, inosOfSomeKind and reachedPointers by their contracts. -/
namespace Go.Proofs.YtbebgnknjoclkaaGreat
open Go.RowKit Kit
/-- The pointers of an inode that have a block. -/
def ptrI (is : List Ino) (i : Int) : List Pr := ((ptrsAt is i).filter fun p => inB p 1 16).map fun p => (i, p)
def ptrL (is : List Ino) (l : List Int) : List Pr := l.flatMap (ptrI is)
theorem ptrsAt_len {is : List Ino} {bs : List Blk} (h : RD is bs) (i : Int) : (ptrsAt is i).length ≤ 2 := by
  rcases kindAt_cases (is := is) i with ⟨-, e⟩ | ⟨q, hq, -, e⟩
  · rw [e]; simp
  · rw [e, h.two q hq]; exact Nat.le_refl _
theorem ptrI_len {is : List Ino} {bs : List Blk} (h : RD is bs) (i : Int) : (ptrI is i).length ≤ 2 := by
  unfold ptrI
  rw [List.length_map]
  exact Nat.le_trans (List.length_filter_le _ _) (ptrsAt_len h i)
theorem ptrL_len {is : List Ino} {bs : List Blk} (h : RD is bs) (l : List Int) : (ptrL is l).length ≤ l.length * 2 := flatMap_len l fun i _ => ptrI_len h i
theorem ptrL_take (is : List Ino) (l : List Int) (q : Nat) (h : q < l.length) : ptrL is (l.take (q + 1)) = ptrL is (l.take q) ++ ptrI is l[q] := flat_take l _ q h
/-- The first t pointers. -/
def ptrT (i : Int) (ps : List Int) : List Pr := (ps.filter fun p => inB p 1 16).map fun p => (i, p)
theorem ptrT_take (i : Int) (ps : List Int) (t : Nat) (h : t < ps.length) : ptrT i (ps.take (t + 1)) = ptrT i (ps.take t) ++ if inB ps[t] 1 16 = true then [(i, ps[t])] else [] := by
  unfold ptrT
  rw [List.take_succ_eq_append_getElem h, List.filter_append, List.map_append]
  congr 1
  by_cases e : inB ps[t] 1 16 = true
  · rw [if_pos e, List.filter_cons_of_pos (p := fun p => inB p 1 16) e]; rfl
  · rw [if_neg e, List.filter_cons_of_neg (p := fun p => inB p 1 16) e]; rfl
theorem ptrT_len (i : Int) (ps : List Int) : (ptrT i ps).length ≤ ps.length := by
  unfold ptrT
  rw [List.length_map]
  exact List.length_filter_le _ _
set_option maxRecDepth 100000 in
set_option maxHeartbeats 3200000 in
theorem ptrsOf_any (lv : Value) (l : List Int) (dx dy iv bv : Value) (xs ys : List Bool) (is : List Ino) (bs : List Blk) (w : World) (h : DR w dx dy iv bv xs ys is bs) (hR : RD is bs) (hv : RInts w lv l) (hl : l.length ≤ 8) (hr : ∀ i ∈ l, 1 ≤ i ∧ i ≤ 8) :
    Calls Tryz.prog 102 #[.agg #[dx, dy, iv, bv], lv] w fun e w' => ∃ v, e = .returned v ∧ POwns w' w.heap.size 107 v (ptrL is l) ∧ Below w.heap.size w w' := by
  obtain ⟨a1, c1, a2, c2, a3, c3, a4, c4, rfl, rfl, rfl, rfl⟩ := h.form
  obtain ⟨la, lc, rfl, hcl⟩ := hv
  have CB := hide (fun (p : Int) (W : World) => hasB_any p (.slice a1 xs.length c1) (.slice a2 ys.length c2) (.slice a3 is.length c3) a4 c4 W)
  rw [← hR.hb] at CB
  have HI8 := hide hR.hi
  have HH := hide h
  have HCL := hide hcl
  have HRG := hide hr
  have HP2 : Hid (∀ i, (ptrsAt is i).length ≤ 2) := ptrsAt_len hR
  have HPL : Hid (∀ q, (ptrL is (l.take q)).length ≤ 16) := fun q => by
    have := ptrL_len hR (l.take q)
    rw [List.length_take] at this
    omega
  have HQ0 : Hid (POwns (w.alloc (.cells #[.slice a1 xs.length c1, .slice a2 ys.length c2, .slice a3 is.length c3, .slice a4 bs.length c4] 34)) (w.heap.size + 1) 107 (.slice none 0 0) (ptrL is (l.take 0)) ∧ Below w.heap.size w (w.alloc (.cells #[.slice a1 xs.length c1, .slice a2 ys.length c2, .slice a3 is.length c3, .slice a4 bs.length c4] 34)) ∧ AtC (w.alloc (.cells #[.slice a1 xs.length c1, .slice a2 ys.length c2, .slice a3 is.length c3, .slice a4 bs.length c4] 34)) w.heap.size 34 #[.slice a1 xs.length c1, .slice a2 ys.length c2, .slice a3 is.length c3, .slice a4 bs.length c4]) := ⟨by simpa [ptrL] using POwns.nil _ _ _, (Below.refl _ w).alloc (Nat.le_refl _) _, AtC.new _ _ _⟩
  clear h hcl hr hR
  go_enter Tryz.func102, Tryz.ntmps102
  go_wp2_with fail
  go_loopw [5, 12] (fun sv kv wr => ∃ (s' : Value) (q : Nat), s' = sv ∧ q ≤ l.length ∧ kv = .int .i64 q ∧ Hid (POwns wr (w.heap.size + 1) 107 s' (ptrL is (l.take q)) ∧ Below w.heap.size w wr ∧ AtC wr w.heap.size 34 #[.slice a1 xs.length c1, .slice a2 ys.length c2, .slice a3 is.length c3, .slice a4 bs.length c4])) (fun _ kv _ => l.length - (intOf kv).toNat)
  case atStart => exact ⟨_, 0, rfl, Nat.zero_le _, rfl, HQ0.out⟩
  case round =>
    obtain ⟨sv, q, hsv, hq, rfl, HQ⟩ := hrel
    subst hsv
    clear HQ0
    have q0 : (0 : Int) ≤ (q : Int) := by omega
    by_cases hlt : q < l.length
    rotate_left
    · have q1 : ¬ ((q : Int) < (l.length : Int)) := by omega
      go_wp2
      go_ret
      have := HQ.out.1
      rw [List.take_of_length_le (by omega)] at this
      exact ⟨_, rfl, this.base_le (by omega), HQ.out.2.1⟩
    have q1 : (q : Int) < (l.length : Int) := by omega
    obtain ⟨gr, orr, rfl, hgr, kr⟩ := HCL.out q hlt
    replace kr := (HQ.out.2.1.cell (p := ⟨gr, orr + q, none⟩) hgr).trans kr
    have HTK := hide (ptrL_take is l q hlt)
    have hrq := HRG.out _ (List.getElem_mem hlt)
    obtain ⟨di, hdi⟩ : ∃ x, l[q] = x := ⟨_, rfl⟩
    rw [hdi] at kr HTK hrq
    obtain ⟨j, rfl⟩ : ∃ j : Nat, di = (j : Int) + 1 := ⟨(di - 1).toNat, by omega⟩
    have hj : j < is.length := by have := HI8.out; omega
    have j0 : (0 : Int) ≤ (j : Int) := by omega
    have j1 : (j : Int) < (is.length : Int) := by omega
    have hwj : IntKind.i64.wrap (j : Int) = (j : Int) := wrap_small _ (by omega) (by omega)
    obtain ⟨g2, o2, sa, sc, rfl, hg2, -, -, y2, rr⟩ := DR.ino HH.out j hj
    replace y2 := (HQ.out.2.1.cell (p := ⟨g2, o2 + j * 3 + 2, none⟩) hg2).trans y2
    have x2 : wr.cell? ⟨w.heap.size, 2, none⟩ = some (.slice (some ⟨g2, o2, none⟩) is.length c3) := HQ.out.2.2.cell 2
    have hp2 := HP2.out ((j : Int) + 1)
    have hpl := HPL.out q
    unfold ptrI at HTK
    obtain ⟨ps, hps⟩ : ∃ X, ptrsAt is ((j : Int) + 1) = X := ⟨_, rfl⟩
    rw [hps] at y2 rr hp2 HTK
    obtain ⟨pa, pc', pe, hcp⟩ := rr
    simp only [Value.slice.injEq, true_and] at pe
    obtain ⟨rfl, rfl⟩ := pe
    have HCP := hide hcp
    have HQ1 : Hid (POwns wr (w.heap.size + 1) 107 sv (ptrL is (l.take q) ++ ptrT ((j : Int) + 1) (ps.take 0)) ∧ Below w.heap.size w wr ∧ AtC wr w.heap.size 34 #[.slice a1 xs.length c1, .slice a2 ys.length c2, .slice (some ⟨g2, o2, none⟩) is.length c3, .slice a4 bs.length c4]) := ⟨by have := HQ.out.1; simpa [ptrT] using this, HQ.out.2⟩
    clear hdi hps hcp HQ
    go_wp2_with fail
    go_loopw [5, 24] (fun sv kv wr => ∃ (s' : Value) (t : Nat), s' = sv ∧ t ≤ ps.length ∧ kv = .int .i64 t ∧ Hid (POwns wr (w.heap.size + 1) 107 s' (ptrL is (l.take q) ++ ptrT ((j : Int) + 1) (ps.take t)) ∧ Below w.heap.size w wr ∧ AtC wr w.heap.size 34 #[.slice a1 xs.length c1, .slice a2 ys.length c2, .slice (some ⟨g2, o2, none⟩) is.length c3, .slice a4 bs.length c4])) (fun _ kv _ => ps.length - (intOf kv).toNat)
    case atStart => exact ⟨_, 0, rfl, Nat.zero_le _, rfl, HQ1.out⟩
    case round =>
      obtain ⟨sv', t, hsv, ht, rfl, HT⟩ := hrel
      subst hsv
      clear HQ1 x2 y2 kr
      have t0 : (0 : Int) ≤ (t : Int) := by omega
      by_cases htl : t < ps.length
      rotate_left
      · have t1 : ¬ ((t : Int) < (ps.length : Int)) := by omega
        have HE : Hid (POwns wr (w.heap.size + 1) 107 sv' (ptrL is (l.take (q + 1)))) := by
          have := HT.out.1
          rw [List.take_of_length_le (show ps.length ≤ t by omega)] at this
          show POwns _ _ _ _ _
          rw [HTK.out]
          exact this
        go_wp2
        go_roundw
        case rel => exact ⟨sv', q + 1, rfl, by omega, by go_num, HE.out, HT.out.2⟩
        case measure => simp [intOf]; omega
      have t1 : (t : Int) < (ps.length : Int) := by omega
      obtain ⟨gp, op, rfl, hgp, kp⟩ := HCP.out t htl
      replace kp := (HT.out.2.1.cell (p := ⟨gp, op + t, none⟩) hgp).trans kp
      have HTT := hide (ptrT_take ((j : Int) + 1) ps t htl)
      have htn := ptrT_len ((j : Int) + 1) (ps.take t)
      rw [List.length_take] at htn
      obtain ⟨Pn, hPn⟩ : ∃ x, ps[t] = x := ⟨_, rfl⟩
      rw [hPn] at kp HTT
      have CB1 := hide (CB.out Pn wr)
      have z0 : wr.cell? ⟨w.heap.size, 0, none⟩ = some (.slice a1 xs.length c1) := HT.out.2.2.cell 0
      have z1 : wr.cell? ⟨w.heap.size, 1, none⟩ = some (.slice a2 ys.length c2) := HT.out.2.2.cell 1
      have z2 : wr.cell? ⟨w.heap.size, 2, none⟩ = some (.slice (some ⟨g2, o2, none⟩) is.length c3) := HT.out.2.2.cell 2
      have z3 : wr.cell? ⟨w.heap.size, 3, none⟩ = some (.slice a4 bs.length c4) := HT.out.2.2.cell 3
      have HAL : Hid (Below wr.heap.size wr (wr.alloc (.cells #[.slice a1 xs.length c1, .slice a2 ys.length c2, .slice (some ⟨g2, o2, none⟩) is.length c3, .slice a4 bs.length c4] 34))) := (Below.refl _ wr).alloc (Nat.le_refl _) _
      have HT1 : Hid (POwns (wr.alloc (.cells #[.slice a1 xs.length c1, .slice a2 ys.length c2, .slice (some ⟨g2, o2, none⟩) is.length c3, .slice a4 bs.length c4] 34)) (w.heap.size + 1) 107 sv' (ptrL is (l.take q) ++ ptrT ((j : Int) + 1) (ps.take t)) ∧ Below w.heap.size w (wr.alloc (.cells #[.slice a1 xs.length c1, .slice a2 ys.length c2, .slice (some ⟨g2, o2, none⟩) is.length c3, .slice a4 bs.length c4] 34)) ∧ AtC (wr.alloc (.cells #[.slice a1 xs.length c1, .slice a2 ys.length c2, .slice (some ⟨g2, o2, none⟩) is.length c3, .slice a4 bs.length c4] 34)) w.heap.size 34 #[.slice a1 xs.length c1, .slice a2 ys.length c2, .slice (some ⟨g2, o2, none⟩) is.length c3, .slice a4 bs.length c4]) := ⟨HT.out.1.alloc _, HT.out.2.1.alloc HT.out.2.1.size _, HT.out.2.2.alloc _⟩
      clear hPn HT
      go_wp2_with fail
      refine CB1.out.mono ?_
      rintro e w2 ⟨rfl, rfl⟩
      obtain ⟨w2, hw2⟩ : ∃ W, (wr.alloc (.cells #[.slice a1 xs.length c1, .slice a2 ys.length c2, .slice (some ⟨g2, o2, none⟩) is.length c3, .slice a4 bs.length c4] 34)) = W := ⟨_, rfl⟩
      rw [hw2] at HT1 ⊢
      clear hw2 z0 z1 z2 z3 kp CB1 HAL
      cases hin : inB Pn 1 16 with
      | false =>
        have HE : Hid (ptrT ((j : Int) + 1) (ps.take (t + 1)) = ptrT ((j : Int) + 1) (ps.take t)) := hide (by have := HTT.out; rw [hin] at this; simpa using this)
        clear hin
        go_wp2
        go_roundw
        case rel => exact ⟨sv', t + 1, rfl, by omega, by go_num, by rw [HE.out]; exact HT1.out⟩
        case measure => simp [intOf]; omega
      | true =>
        have HE : Hid ((ptrL is (l.take q) ++ ptrT ((j : Int) + 1) (ps.take t)) ++ [((j : Int) + 1, Pn)] = ptrL is (l.take q) ++ ptrT ((j : Int) + 1) (ps.take (t + 1))) := by
          have := HTT.out
          rw [hin, if_pos rfl] at this
          show _ = _
          rw [this, List.append_assoc]
        have HSZ : Hid (w.heap.size + 1 ≤ (w2.alloc (.cells #[.int .i64 ((j : Int) + 1), .int .i64 Pn] 107)).heap.size) := by have := HT1.out.2.1.size; show _ ≤ _; simp; omega
        have HT2 : Hid (POwns (w2.alloc (.cells #[.int .i64 ((j : Int) + 1), .int .i64 Pn] 107)) (w.heap.size + 1) 107 sv' (ptrL is (l.take q) ++ ptrT ((j : Int) + 1) (ps.take t)) ∧ Below w.heap.size w (w2.alloc (.cells #[.int .i64 ((j : Int) + 1), .int .i64 Pn] 107)) ∧ AtC (w2.alloc (.cells #[.int .i64 ((j : Int) + 1), .int .i64 Pn] 107)) w.heap.size 34 #[.slice a1 xs.length c1, .slice a2 ys.length c2, .slice (some ⟨g2, o2, none⟩) is.length c3, .slice a4 bs.length c4] ∧ AtC (w2.alloc (.cells #[.int .i64 ((j : Int) + 1), .int .i64 Pn] 107)) w2.heap.size 107 #[.int .i64 ((j : Int) + 1), .int .i64 Pn]) := ⟨HT1.out.1.alloc _, HT1.out.2.1.alloc HT1.out.2.1.size _, HT1.out.2.2.alloc _, AtC.new _ _ _⟩
        have HTL : Hid ((ptrL is (l.take q) ++ ptrT ((j : Int) + 1) (ps.take t)).length ≤ 100000000000) := by show _ ≤ _; rw [List.length_append]; omega
        clear hin
        go_wp2_with (at_builtin; refine wpList_step fun K' hK' => ?_; refine step_append_pr _ rfl (.tmp 31) (.tmp 35) rfl (w.heap.size + 1) sv' _ rfl HT2.out.1 HSZ.out w2.heap.size ((j : Int) + 1) Pn rfl HT2.out.2.2.2 HTL.out ?_; intro v9 w9 T9 G9 V9; refine hK' _ _ ?_; rw [HE.out] at T9; have HR9 := hide (And.intro T9 (And.intro (HT2.out.2.1.grown G9 HT2.out.2.1.size (fun k hk => by have := (HT2.out.1.lt k hk).1; omega)) (HT2.out.2.2.1.grown G9 (fun e => by have := (HT2.out.1.lt _ e).1; omega)))); clear T9 G9 V9 hK')
        go_roundw
        case rel => exact ⟨v9, t + 1, rfl, by omega, by go_num, HR9.out⟩
        case measure => simp [intOf]; omega
end Go.Proofs.YtbebgnknjoclkaaGreat
/- impl.inosOfSomeKind and reachedPointers by their contracts. -/
namespace Go.Proofs.YtbebgnknjoclkaaGreat
open Go.RowKit Kit
/-- All inodes of some kind. -/
def kndQ (is : List Ino) (q : Nat) : List Int := ((List.range q).filter fun i : Nat => decide (¬ kindAt is ((i : Int) + 1) = 0)).map fun i : Nat => (i : Int) + 1
def kndL (is : List Ino) : List Int := kndQ is 8
theorem kndQ_succ (is : List Ino) (q : Nat) : kndQ is (q + 1) = kndQ is q ++ if kindAt is ((q : Int) + 1) = 0 then [] else [(q : Int) + 1] := by
  unfold kndQ
  rw [List.range_succ, List.filter_append, List.map_append]
  congr 1
  by_cases e : kindAt is ((q : Int) + 1) = 0
  · rw [if_pos e, List.filter_cons_of_neg (by simp [e])]; rfl
  · rw [if_neg e, List.filter_cons_of_pos (by simp [e])]; rfl
theorem kndQ_len (is : List Ino) (q : Nat) : (kndQ is q).length ≤ q := by
  unfold kndQ
  rw [List.length_map]
  exact Nat.le_trans (List.length_filter_le _ _) (by simp)
theorem mem_kndL {is : List Ino} {i : Int} : i ∈ kndL is ↔ (1 ≤ i ∧ i ≤ 8) ∧ ¬ kindAt is i = 0 := by
  unfold kndL kndQ
  rw [List.mem_map]
  constructor
  · rintro ⟨q, hq, rfl⟩
    rw [List.mem_filter, List.mem_range] at hq
    exact ⟨by omega, by simpa using hq.2⟩
  · rintro ⟨h1, h2⟩
    refine ⟨(i - 1).toNat, ?_, by omega⟩
    rw [List.mem_filter, List.mem_range]
    refine ⟨by omega, ?_⟩
    rw [show (((i - 1).toNat : Nat) : Int) + 1 = i by omega]
    simpa using h2
set_option maxRecDepth 100000 in
set_option maxHeartbeats 3200000 in
theorem knd_any (dx dy iv bv : Value) (xs ys : List Bool) (is : List Ino) (bs : List Blk) (w : World) (h : DR w dx dy iv bv xs ys is bs) (hR : RD is bs) :
    Calls Tryz.prog 80 #[.agg #[dx, dy, iv, bv]] w fun e w' => ∃ v, e = .returned v ∧ ROwns w' w.heap.size 3 v (ic (kndL is)) ∧ Below w.heap.size w w' := by
  obtain ⟨a1, c1, a2, c2, a3, c3, a4, c4, rfl, rfl, rfl, rfl⟩ := h.form
  have CK := hide (fun (i : Int) (W : World) (hb : Below w.heap.size w W) => kindI_any i (.slice a1 xs.length c1) (.slice a2 ys.length c2) (.slice a3 is.length c3) (.slice a4 bs.length c4) xs ys is bs W (h.below hb (Nat.le_refl _)) hR)
  have HQ0 : Hid (ROwns (w.alloc (.cells #[.slice a1 xs.length c1, .slice a2 ys.length c2, .slice a3 is.length c3, .slice a4 bs.length c4] 34)) (w.heap.size + 1) 3 (.slice none 0 0) (ic (kndQ is 0)) ∧ Below w.heap.size w (w.alloc (.cells #[.slice a1 xs.length c1, .slice a2 ys.length c2, .slice a3 is.length c3, .slice a4 bs.length c4] 34)) ∧ AtC (w.alloc (.cells #[.slice a1 xs.length c1, .slice a2 ys.length c2, .slice a3 is.length c3, .slice a4 bs.length c4] 34)) w.heap.size 34 #[.slice a1 xs.length c1, .slice a2 ys.length c2, .slice a3 is.length c3, .slice a4 bs.length c4]) := ⟨by simpa [kndQ, ic] using ROwns.nil _ _ _, (Below.refl _ w).alloc (Nat.le_refl _) _, AtC.new _ _ _⟩
  clear h hR
  go_enter Tryz.func80, Tryz.ntmps80
  go_wp2_with fail
  go_loopw [3, 4] (fun sv kv wr => ∃ (s' : Value) (q : Nat), s' = sv ∧ q ≤ 8 ∧ kv = .int .i64 ((q : Int) + 1) ∧ Hid (ROwns wr (w.heap.size + 1) 3 s' (ic (kndQ is q)) ∧ Below w.heap.size w wr ∧ AtC wr w.heap.size 34 #[.slice a1 xs.length c1, .slice a2 ys.length c2, .slice a3 is.length c3, .slice a4 bs.length c4])) (fun _ kv _ => 9 - (intOf kv).toNat)
  case atStart => exact ⟨_, 0, rfl, Nat.zero_le _, rfl, HQ0.out⟩
  case round =>
    obtain ⟨sv, q, hsv, hq, rfl, HQ⟩ := hrel
    subst hsv
    clear HQ0
    by_cases hlt : q < 8
    rotate_left
    · have q1 : ¬ ((q : Int) + 1 ≤ 8) := by omega
      go_wp2
      go_ret
      obtain rfl : q = 8 := by omega
      exact ⟨_, rfl, HQ.out.1.base_le (by omega), HQ.out.2.1⟩
    have q1 : (q : Int) + 1 ≤ 8 := by omega
    have z0 : wr.cell? ⟨w.heap.size, 0, none⟩ = some (.slice a1 xs.length c1) := HQ.out.2.2.cell 0
    have z1 : wr.cell? ⟨w.heap.size, 1, none⟩ = some (.slice a2 ys.length c2) := HQ.out.2.2.cell 1
    have z2 : wr.cell? ⟨w.heap.size, 2, none⟩ = some (.slice a3 is.length c3) := HQ.out.2.2.cell 2
    have z3 : wr.cell? ⟨w.heap.size, 3, none⟩ = some (.slice a4 bs.length c4) := HQ.out.2.2.cell 3
    have CK1 := hide (CK.out ((q : Int) + 1) wr HQ.out.2.1)
    have HKS := hide (kndQ_succ is q)
    have HKL := hide (kndQ_len is q)
    obtain ⟨kd, hkd⟩ : ∃ k, kindAt is ((q : Int) + 1) = k := ⟨_, rfl⟩
    rw [hkd] at CK1 HKS
    clear hkd
    go_wp2_with fail
    refine CK1.out.mono ?_
    rintro e w2 ⟨rfl, B2⟩
    have HQ2 : Hid (ROwns w2 (w.heap.size + 1) 3 sv (ic (kndQ is q)) ∧ Below w.heap.size w w2 ∧ AtC w2 w.heap.size 34 #[.slice a1 xs.length c1, .slice a2 ys.length c2, .slice a3 is.length c3, .slice a4 bs.length c4]) := ⟨HQ.out.1.below B2 (Nat.le_refl _), HQ.out.2.1.trans (B2.mono HQ.out.2.1.size), HQ.out.2.2.over B2⟩
    clear B2 HQ CK1 z0 z1 z2 z3
    by_cases hk : kd = 0
    · subst hk
      have HE : Hid (kndQ is (q + 1) = kndQ is q) := hide (by have := HKS.out; simpa using this)
      go_wp2
      go_roundw
      case rel => exact ⟨sv, q + 1, rfl, by omega, by go_num, by rw [HE.out]; exact HQ2.out⟩
      case measure => simp [intOf]; omega
    · have hkb : (kd != 0) = true := by simp [hk]
      have HE : Hid (ic (kndQ is q) ++ [.int .i64 ((q : Int) + 1)] = ic (kndQ is (q + 1))) := by
        have := HKS.out
        rw [if_neg hk] at this
        show _ = ic _
        rw [this]
        simp [ic]
      have HT2 : Hid (ROwns (w2.alloc (.cells #[.int .i64 ((q : Int) + 1)] 3)) (w.heap.size + 1) 3 sv (ic (kndQ is q)) ∧ Below w.heap.size w (w2.alloc (.cells #[.int .i64 ((q : Int) + 1)] 3)) ∧ AtC (w2.alloc (.cells #[.int .i64 ((q : Int) + 1)] 3)) w.heap.size 34 #[.slice a1 xs.length c1, .slice a2 ys.length c2, .slice a3 is.length c3, .slice a4 bs.length c4] ∧ (w2.alloc (.cells #[.int .i64 ((q : Int) + 1)] 3)).cell? ⟨w2.heap.size, 0, none⟩ = some (.int .i64 ((q : Int) + 1))) := ⟨HQ2.out.1.alloc _, HQ2.out.2.1.alloc HQ2.out.2.1.size _, HQ2.out.2.2.alloc _, (AtC.new w2 3 #[.int .i64 ((q : Int) + 1)]).cell 0⟩
      have HSZ : Hid (w.heap.size + 1 ≤ (w2.alloc (.cells #[.int .i64 ((q : Int) + 1)] 3)).heap.size) := by have := HQ2.out.2.1.size; show _ ≤ _; simp; omega
      have HTL : Hid ((ic (kndQ is q)).length ≤ 100000000000) := by have := HKL.out; show _ ≤ _; rw [ic_length]; omega
      clear hk
      go_wp2_with (at_builtin; refine wpList_step fun K' hK' => ?_; refine step_append_one _ rfl (.tmp 13) (.tmp 15) 56 rfl (w.heap.size + 1) 3 Tryz.u56 _ 8 Tryz.i3 rfl (by decide) sv _ rfl HT2.out.1 HSZ.out w2.heap.size (.int .i64 ((q : Int) + 1)) rfl HT2.out.2.2.2 rfl HTL.out ?_; intro v9 w9 T9 G9 V9; refine hK' _ _ ?_; rw [HE.out] at T9; have HR9 := hide (And.intro T9 (And.intro (HT2.out.2.1.grown G9 HT2.out.2.1.size (fun k hk => by have := (HT2.out.1.lt k hk).1; omega)) (HT2.out.2.2.1.grown G9 (fun e => by have := (HT2.out.1.lt _ e).1; omega)))); clear T9 G9 V9 hK')
      go_roundw
      case rel => exact ⟨v9, q + 1, rfl, by omega, by go_num, HR9.out⟩
      case measure => simp [intOf]; omega
set_option maxRecDepth 100000 in
set_option maxHeartbeats 3200000 in
theorem rPtrs_any (dx dy iv bv : Value) (xs ys : List Bool) (is : List Ino) (bs : List Blk) (w : World) (h : DR w dx dy iv bv xs ys is bs) (hR : RD is bs) :
    Calls Tryz.prog 109 #[.agg #[dx, dy, iv, bv]] w fun e w' => ∃ v, e = .returned v ∧ POwns w' w.heap.size 107 v (ptrL is (reachL is bs)) ∧ Below w.heap.size w w' := by
  obtain ⟨a1, c1, a2, c2, a3, c3, a4, c4, rfl, rfl, rfl, rfl⟩ := h.form
  have HB0 : Hid (Below w.heap.size w (w.alloc (.cells #[.slice a1 xs.length c1, .slice a2 ys.length c2, .slice a3 is.length c3, .slice a4 bs.length c4] 34)).drew) := ((Below.refl _ w).alloc (Nat.le_refl _) _).drew
  have CR := hide (implReach_any (.slice a1 xs.length c1) (.slice a2 ys.length c2) (.slice a3 is.length c3) (.slice a4 bs.length c4) xs ys is bs (w.alloc (.cells #[.slice a1 xs.length c1, .slice a2 ys.length c2, .slice a3 is.length c3, .slice a4 bs.length c4] 34)).drew (h.below HB0.out (Nat.le_refl _)) hR)
  have CP : Hid (∀ (lv : Value) (W : World), Below w.heap.size w W → ROwns W w.heap.size 3 lv (ic (reachL is bs)) → Calls Tryz.prog 102 #[.agg #[.slice a1 xs.length c1, .slice a2 ys.length c2, .slice a3 is.length c3, .slice a4 bs.length c4], lv] W fun e w' => ∃ v, e = .returned v ∧ POwns w' W.heap.size 107 v (ptrL is (reachL is bs)) ∧ Below W.heap.size W w') := fun lv W hb ho => ptrsOf_any lv (reachL is bs) (.slice a1 xs.length c1) (.slice a2 ys.length c2) (.slice a3 is.length c3) (.slice a4 bs.length c4) xs ys is bs W (h.below hb (Nat.le_refl _)) hR ho.rints (reachL_len is bs) (fun i hi => reach8 hi)
  clear h hR
  go_enter Tryz.func109, Tryz.ntmps109
  go_upto_region 1 with fail
  obtain ⟨W0, hW0⟩ : ∃ W, (w.alloc (.cells #[.slice a1 xs.length c1, .slice a2 ys.length c2, .slice a3 is.length c3, .slice a4 bs.length c4] 34)) = W := ⟨_, rfl⟩
  have HA0 : Hid (AtC W0 w.heap.size 34 #[.slice a1 xs.length c1, .slice a2 ys.length c2, .slice a3 is.length c3, .slice a4 bs.length c4]) := by rw [← hW0]; exact AtC.new _ _ _
  have HSZ : Hid (w.heap.size ≤ W0.drew.heap.size) := by rw [← hW0]; show _ ≤ _; simp
  rw [hW0] at CR HB0 ⊢
  clear hW0
  have z0 : W0.drew.cell? ⟨w.heap.size, 0, none⟩ = some (.slice a1 xs.length c1) := HA0.out.drew.cell 0
  have z1 : W0.drew.cell? ⟨w.heap.size, 1, none⟩ = some (.slice a2 ys.length c2) := HA0.out.drew.cell 1
  have z2 : W0.drew.cell? ⟨w.heap.size, 2, none⟩ = some (.slice a3 is.length c3) := HA0.out.drew.cell 2
  have z3 : W0.drew.cell? ⟨w.heap.size, 3, none⟩ = some (.slice a4 bs.length c4) := HA0.out.drew.cell 3
  go_region_with (first | (go_at_call 84; refine CR.out.mono ?_; rintro e w1 ⟨rv, rfl, R1, B1⟩; have HB1 := hide (HB0.out.trans (B1.mono HB0.out.size)); have CP1 := hide (CP.out rv w1 HB1.out (R1.base_le HSZ.out)); obtain ⟨ra, rc, rfl, -⟩ := R1.form; have y0 : w1.cell? ⟨w.heap.size, 0, none⟩ = some (.slice a1 xs.length c1) := (HA0.out.drew.over B1).cell 0; have y1 : w1.cell? ⟨w.heap.size, 1, none⟩ = some (.slice a2 ys.length c2) := (HA0.out.drew.over B1).cell 1; have y2 : w1.cell? ⟨w.heap.size, 2, none⟩ = some (.slice a3 is.length c3) := (HA0.out.drew.over B1).cell 2; have y3 : w1.cell? ⟨w.heap.size, 3, none⟩ = some (.slice a4 bs.length c4) := (HA0.out.drew.over B1).cell 3; clear R1 B1) | (go_at_call 102; refine CP1.out.mono ?_; rintro e w2 ⟨pv, rfl, P2, B2⟩; obtain ⟨pa, pc', rfl, -⟩ := P2.form))
  all_goals (try go_wp2)
  all_goals go_ret
  all_goals exact ⟨_, rfl, P2.base_le HB1.out.size, HB1.out.trans (B2.mono HB1.out.size)⟩
end Go.Proofs.YtbebgnknjoclkaaGreat
/- What is shared, as plain functions. No Go function is spoken of. -/
namespace Go.Proofs.YtbebgnknjoclkaaGreat
open Go.RowKit Kit
/-- The blocks that all pointers have, in order. -/
def allP (is : List Ino) : List Int := (ptrL is (kndL is)).map (·.2)
/-- How many of the first m have a block that one ahead has. -/
def shrQ (l : List Int) (m : Nat) : Nat := (List.range m).countP fun k => decide (l.getD k 0 ∈ l.take k)
def sharedN (is : List Ino) : Nat := shrQ (allP is) (allP is).length
theorem kndL_len (is : List Ino) : (kndL is).length ≤ 8 := kndQ_len is 8
theorem allP_len {is : List Ino} {bs : List Blk} (h : RD is bs) : (allP is).length ≤ 16 := by
  unfold allP
  rw [List.length_map]
  have := ptrL_len h (kndL is)
  have := kndL_len is
  omega
theorem sharedN_le {is : List Ino} {bs : List Blk} (h : RD is bs) : sharedN is ≤ 16 := by
  have := allP_len h
  unfold sharedN shrQ
  exact Nat.le_trans List.countP_le_length (by rw [List.length_range]; exact this)
/-- The flags of those that were had. -/
structure Had (l : List Int) (k : Nat) (h : List Bool) : Prop where
  n : h.length = 16
  f : ∀ q : Nat, q < 16 → h.getD q false = decide (((q : Int) + 1) ∈ l.take k)
theorem Had.begin (l : List Int) : Had l 0 (List.replicate 16 false) := ⟨rfl, fun q _ => by
  rw [show l.take 0 = [] from rfl, List.getD_eq_getElem?_getD, List.getElem?_replicate]
  simp only [List.not_mem_nil, decide_false]
  split <;> rfl⟩
theorem Had.next {l : List Int} {k q : Nat} {h : List Bool} (H : Had l k h) (hk : k < l.length) (he : l[k] = (q : Int) + 1) (hq : q < 16) : Had l (k + 1) (h.set q true) := by
  refine ⟨by rw [List.length_set]; exact H.n, fun r hr => ?_⟩
  rw [getD_set (by rw [H.n]; exact hq), List.take_succ_eq_append_getElem hk, he]
  by_cases e : r = q
  · subst e; rw [if_pos rfl]; simp
  · rw [if_neg e, H.f r hr]
    have : ¬ ((r : Int) + 1 = (q : Int) + 1) := by omega
    simp [this]
/-- The state of the closure. -/
def HadW (l : List Int) (hb k : Nat) (W : World) : Prop := ∃ h, AtC W hb 104 (hA h) ∧ Had l k h
end Go.Proofs.YtbebgnknjoclkaaGreat
/- Mending pointers, as a plain function. No Go function is spoken of. -/
namespace Go.Proofs.YtbebgnknjoclkaaGreat
open Go.RowKit Kit
/-- The root is a directory. -/
def rootD (is : List Ino) : List Ino := if kindAt is 1 = 2 then is else is.set 0 (2, 1, [0, 0])
def wrongP (bs : List Blk) (kd p : Int) : Bool := (blkAt bs p).1 != (kd == 2)
/-- The inodes, and the blocks that are had. -/
abbrev PSt := List Ino × List Int
/-- One pointer. -/
def stepP (bs : List Blk) (st : PSt) (j k : Nat) : PSt :=
  if inB ((st.1.getD j (0, 0, [])).2.2.getD k 0) 1 16 = true then
    if (wrongP bs (st.1.getD j (0, 0, [])).1 ((st.1.getD j (0, 0, [])).2.2.getD k 0) || st.2.contains ((st.1.getD j (0, 0, [])).2.2.getD k 0)) = true then (st.1.set j ((st.1.getD j (0, 0, [])).1, (st.1.getD j (0, 0, [])).2.1, (st.1.getD j (0, 0, [])).2.2.set k 0), st.2) else (st.1, st.2 ++ [(st.1.getD j (0, 0, [])).2.2.getD k 0])
  else st
def mpK (bs : List Blk) (st : PSt) (j : Nat) : Nat → PSt
  | 0 => st
  | k + 1 => stepP bs (mpK bs st j k) j k
def mpF (bs : List Blk) (st : PSt) (l : List Int) : PSt := l.foldl (fun st i => mpK bs st (i - 1).toNat 2) st
def mendP (is : List Ino) (bs : List Blk) : List Ino := (mpF bs (rootD is, []) (kndL (rootD is))).1
def r16 : List Int := (List.range 16).map fun i : Nat => (i : Int) + 1
theorem nodup16 {l : List Int} (hn : l.Nodup) (h : ∀ p ∈ l, 1 ≤ p ∧ p ≤ 16) : l.length ≤ 16 := by
  have hp : l.Perm (r16.filter fun j => decide (j ∈ l)) := (List.perm_ext_iff_of_nodup hn ((show r16.Nodup by decide).sublist List.filter_sublist)).2 fun j => by
    rw [List.mem_filter, decide_eq_true_eq]
    refine ⟨fun hj => ⟨?_, hj⟩, fun hj => hj.2⟩
    have := h j hj
    exact List.mem_map.2 ⟨(j - 1).toNat, List.mem_range.2 (by omega), by omega⟩
  rw [hp.length_eq]
  exact List.length_filter_le _ _
theorem inoOk_form {q : Ino} (h : inoOk q = true) : ∃ a b, q.2.2 = [a, b] ∧ okR q.1 q.2.1 a b = true := by
  unfold inoOk at h
  obtain ⟨k, l, ps⟩ := q
  match ps, h with
  | [a, b], h => exact ⟨a, b, rfl, h⟩
  | [], h => cases h
  | [_], h => cases h
  | _ :: _ :: _ :: _, h => cases h
theorem inoOk_of {k l a b : Int} (h : okR k l a b = true) : inoOk (k, l, [a, b]) = true := h
theorem inoOk_set {q : Ino} (h : inoOk q = true) (k : Nat) : inoOk (q.1, q.2.1, q.2.2.set k 0) = true := by
  obtain ⟨a, b, e, ho⟩ := inoOk_form h
  rw [e]
  have h2 := of_decide_eq_true ho
  match k with
  | 0 => exact inoOk_of (decide_eq_true (by omega))
  | 1 => exact inoOk_of (decide_eq_true (by omega))
  | k + 2 => exact inoOk_of ho
theorem diskOk_parts {xs ys : List Bool} {is : List Ino} {bs : List Blk} (h : diskOk xs ys is bs = true) : okB xs.length ys.length = true ∧ (∀ q ∈ is, inoOk q = true) ∧ is.length = 8 ∧ (∀ q ∈ bs, blkOk q = true) ∧ bs.length = 16 := by
  unfold diskOk at h
  simp only [Bool.and_eq_true, decide_eq_true_eq] at h
  exact ⟨h.1.1, List.all_eq_true.1 h.1.2.1, h.1.2.2, List.all_eq_true.1 h.2.1, h.2.2⟩
theorem diskOk_of {xs ys : List Bool} {is : List Ino} {bs : List Blk} (h0 : okB xs.length ys.length = true) (h1 : ∀ q ∈ is, inoOk q = true) (h2 : is.length = 8) (h3 : ∀ q ∈ bs, blkOk q = true) (h4 : bs.length = 16) : diskOk xs ys is bs = true := by
  unfold diskOk
  simp only [Bool.and_eq_true, decide_eq_true_eq]
  exact ⟨⟨h0, List.all_eq_true.2 h1, h2⟩, List.all_eq_true.2 h3, h4⟩
theorem diskOk_setI {xs ys : List Bool} {is : List Ino} {bs : List Blk} (h : diskOk xs ys is bs = true) (j : Nat) (q : Ino) (hq : inoOk q = true) : diskOk xs ys (is.set j q) bs = true := by
  obtain ⟨h0, h1, h2, h3, h4⟩ := diskOk_parts h
  refine diskOk_of h0 (fun x hx => ?_) (by simpa using h2) h3 h4
  rcases List.mem_or_eq_of_mem_set hx with e | e
  · exact h1 x e
  · exact e ▸ hq
theorem rootD_ok {xs ys : List Bool} {is : List Ino} {bs : List Blk} (h : diskOk xs ys is bs = true) : diskOk xs ys (rootD is) bs = true := by
  unfold rootD
  split
  · exact h
  · exact diskOk_setI h 0 _ rfl
theorem getD_in {α : Type} {l : List α} {d : α} {j : Nat} (h : j < l.length) : l.getD j d = l[j] := by simp [List.getD, h]
theorem kindAt_set {is : List Ino} {j : Nat} {q : Ino} (hj : j < is.length) (i : Int) : kindAt (is.set j q) i = if i = (j : Int) + 1 then q.1 else kindAt is i := by
  unfold kindAt
  rw [List.length_set]
  cases hb : inB i 1 is.length with
  | false =>
    have := inB_false hb
    simp only [Bool.false_eq_true, if_false]
    rw [if_neg (by omega)]
  | true =>
    obtain ⟨h1, h2⟩ := inB_true hb
    simp only [if_true]
    by_cases e : i = (j : Int) + 1
    · rw [if_pos e]
      have : (i - 1).toNat = j := by omega
      rw [this, getD_in (by simpa using hj)]
      simp
    · rw [if_neg e]
      have hne : j ≠ (i - 1).toNat := by omega
      rw [getD_in (by rw [List.length_set]; omega), getD_in (by omega), List.getElem_set_ne hne]
theorem ptrsAt_set {is : List Ino} {j : Nat} {q : Ino} (hj : j < is.length) (i : Int) : ptrsAt (is.set j q) i = if i = (j : Int) + 1 then q.2.2 else ptrsAt is i := by
  unfold ptrsAt
  rw [List.length_set]
  cases hb : inB i 1 is.length with
  | false =>
    have := inB_false hb
    simp only [Bool.false_eq_true, if_false]
    rw [if_neg (by omega)]
  | true =>
    obtain ⟨h1, h2⟩ := inB_true hb
    simp only [if_true]
    by_cases e : i = (j : Int) + 1
    · rw [if_pos e]
      have : (i - 1).toNat = j := by omega
      rw [this, getD_in (by simpa using hj)]
      simp
    · rw [if_neg e]
      have hne : j ≠ (i - 1).toNat := by omega
      rw [getD_in (by rw [List.length_set]; omega), getD_in (by omega), List.getElem_set_ne hne]
/-- What stays so. -/
structure PI (xs ys : List Bool) (bs : List Blk) (is0 : List Ino) (st : PSt) : Prop where
  ok : diskOk xs ys st.1 bs = true
  kd : ∀ i, kindAt st.1 i = kindAt is0 i
  sn : ∀ p ∈ st.2, 1 ≤ p ∧ p ≤ 16
  nd : st.2.Nodup
theorem PI.len {xs ys : List Bool} {bs : List Blk} {is0 : List Ino} {st : PSt} (h : PI xs ys bs is0 st) : st.2.length ≤ 16 := nodup16 h.nd h.sn
theorem PI.begin {xs ys : List Bool} {bs : List Blk} {is : List Ino} (h : diskOk xs ys is bs = true) : PI xs ys bs (rootD is) (rootD is, []) := ⟨rootD_ok h, fun _ => rfl, fun _ h => (by cases h), List.nodup_nil⟩
theorem PI.step {xs ys : List Bool} {bs : List Blk} {is0 : List Ino} {st : PSt} (h : PI xs ys bs is0 st) (j k : Nat) : PI xs ys bs is0 (stepP bs st j k) := by
  unfold stepP
  split
  · rename_i hb
    have hj : j < st.1.length := by
      by_cases hj : j < st.1.length
      · exact hj
      · rw [show st.1.getD j (0, 0, []) = (0, 0, []) by simp [List.getD, List.getElem?_eq_none (by omega : st.1.length ≤ j)]] at hb
        exact absurd hb (by simp [inB])
    split
    · obtain ⟨h0, h1, h2, h3, h4⟩ := diskOk_parts h.ok
      refine ⟨diskOk_setI h.ok j _ (inoOk_set (h1 _ ?_) k), fun i => ?_, h.sn, h.nd⟩
      · rw [getD_in hj]; exact List.getElem_mem hj
      · show kindAt (st.1.set j _) i = _
        rw [kindAt_set hj, ← h.kd i]
        split
        · rename_i e
          rw [e, (kindAt_in hj).1, getD_in hj]
        · rfl
    · rename_i hc
      refine ⟨h.ok, h.kd, fun p hp => ?_, ?_⟩
      · rcases List.mem_append.1 hp with hp | hp
        · exact h.sn p hp
        · rw [List.mem_singleton.1 hp]; exact inB_true hb
      · refine List.nodup_append.2 ⟨h.nd, by simp, fun a ha b hb2 e => ?_⟩
        simp only [Bool.not_eq_true, Bool.or_eq_false_iff] at hc
        have h3 := hc.2
        rw [← List.mem_singleton.1 hb2, ← e] at h3
        rw [List.contains_iff_mem.2 ha] at h3
        cases h3
  · exact h
theorem PI.stepK {xs ys : List Bool} {bs : List Blk} {is0 : List Ino} {st : PSt} (h : PI xs ys bs is0 st) (j : Nat) : ∀ k, PI xs ys bs is0 (mpK bs st j k)
  | 0 => h
  | k + 1 => (PI.stepK h j k).step j k
theorem PI.steps {xs ys : List Bool} {bs : List Blk} {is0 : List Ino} : ∀ (l : List Int) {st : PSt}, PI xs ys bs is0 st → PI xs ys bs is0 (mpF bs st l)
  | [], _, h => h
  | i :: r, _, h => PI.steps r (h.stepK (i - 1).toNat 2)
theorem mpF_append (bs : List Blk) (st : PSt) (a b : List Int) : mpF bs st (a ++ b) = mpF bs (mpF bs st a) b := List.foldl_append
theorem mpF_one (bs : List Blk) (st : PSt) (i : Int) : mpF bs st [i] = mpK bs st (i - 1).toNat 2 := rfl
theorem mendP_ok {xs ys : List Bool} {is : List Ino} {bs : List Blk} (h : diskOk xs ys is bs = true) : diskOk xs ys (mendP is bs) bs = true := ((PI.begin h).steps _).ok
/-- What the specification's loop over inodes has done. -/
def mpI (is : List Ino) (bs : List Blk) (j : Nat) : PSt := mpF bs (rootD is, []) (kndQ (rootD is) j)
theorem mpI_succ (is : List Ino) (bs : List Blk) (j : Nat) : mpI is bs (j + 1) = if kindAt (rootD is) ((j : Int) + 1) = 0 then mpI is bs j else mpK bs (mpI is bs j) j 2 := by
  unfold mpI
  rw [kndQ_succ, mpF_append]
  split
  · rfl
  · rw [mpF_one, show ((j : Int) + 1 - 1).toNat = j by omega]
theorem mpI_all (is : List Ino) (bs : List Blk) : (mpI is bs 8).1 = mendP is bs := rfl
end Go.Proofs.YtbebgnknjoclkaaGreat
/- Mending names, as a plain function. No Go function is spoken of. -/
namespace Go.Proofs.YtbebgnknjoclkaaGreat
open Go.RowKit Kit
/-- A slot with a name: its directory, its block (from 0 on), its place there. -/
abbrev Tt := Int × Nat × Nat
def noS : Sl := (⟨#[]⟩, 0)
def slotN (bs : List Blk) (t : Tt) : Sl := (bs.getD t.2.1 zB).2.1.getD t.2.2 noS
def clrS (bs : List Blk) (t : Tt) : List Blk := bs.set t.2.1 ((bs.getD t.2.1 zB).1, (bs.getD t.2.1 zB).2.1.set t.2.2 noS, (bs.getD t.2.1 zB).2.2)
/-- Does one ahead take its name, or its directory? -/
def badA (is : List Ino) (bs : List Blk) (t a : Tt) : Bool := (decide (a.1 = t.1) && decide ((slotN bs a).1 = (slotN bs t).1)) || (decide (kindAt is (slotN bs t).2 = 2) && decide ((slotN bs a).2 = (slotN bs t).2))
def badT (is : List Ino) (dn : List Tt) (bs : List Blk) (t : Tt) : Bool := decide (kindAt is (slotN bs t).2 = 0) || decide ((slotN bs t).2 = 1) || dn.any (badA is bs t)
def stepN (is : List Ino) (dn : List Tt) (bs : List Blk) (t : Tt) : List Blk := if badT is dn bs t = true then clrS bs t else bs
def runN (is : List Ino) : List Tt → List Tt → List Blk → List Blk
  | _, [], bs => bs
  | dn, t :: r, bs => runN is (dn ++ [t]) r (stepN is dn bs t)
theorem runN_append (is : List Ino) : ∀ (a b dn : List Tt) (bs : List Blk), runN is dn (a ++ b) bs = runN is (dn ++ a) b (runN is dn a bs)
  | [], b, dn, bs => by simp [runN]
  | t :: r, b, dn, bs => by
    rw [List.cons_append, runN, runN, runN_append is r b]
    simp
theorem runN_snoc (is : List Ino) (a : List Tt) (t : Tt) (bs : List Blk) : runN is [] (a ++ [t]) bs = stepN is a (runN is [] a bs) t := by
  rw [runN_append]
  simp [runN]
/-- The slots with a name of a block, up to q. -/
def tlQ (i : Int) (p : Nat) (ss : List Sl) (q : Nat) : List Tt := ((List.range q).filter fun s : Nat => decide (¬ (ss.getD s noS).1 = ⟨#[]⟩)).map fun s : Nat => (i, p, s)
theorem tlQ_succ (i : Int) (p : Nat) (ss : List Sl) (q : Nat) : tlQ i p ss (q + 1) = tlQ i p ss q ++ if (ss.getD q noS).1 = ⟨#[]⟩ then [] else [(i, p, q)] := by
  unfold tlQ
  rw [List.range_succ, List.filter_append, List.map_append]
  congr 1
  by_cases e : (ss.getD q noS).1 = ⟨#[]⟩
  · rw [if_pos e, List.filter_cons_of_neg (by rw [decide_eq_true_eq]; exact fun h => h e)]; rfl
  · rw [if_neg e, List.filter_cons_of_pos (by exact decide_eq_true e)]; rfl
theorem tlQ_len (i : Int) (p : Nat) (ss : List Sl) (q : Nat) : (tlQ i p ss q).length ≤ q := by
  unfold tlQ
  rw [List.length_map]
  exact Nat.le_trans (List.length_filter_le _ _) (by simp)
theorem mem_tlQ {i : Int} {p : Nat} {ss : List Sl} {q : Nat} {t : Tt} (h : t ∈ tlQ i p ss q) : t.1 = i ∧ t.2.1 = p ∧ t.2.2 < q ∧ ¬ (ss.getD t.2.2 noS).1 = ⟨#[]⟩ := by
  obtain ⟨s, hs, rfl⟩ := List.mem_map.1 h
  obtain ⟨h1, h2⟩ := List.mem_filter.1 hs
  exact ⟨rfl, rfl, List.mem_range.1 h1, by simpa using h2⟩
/-- The slots of one pointer, and the blocks that are had. -/
abbrev TSt := List Tt × List Int
def stepT (is : List Ino) (bs : List Blk) (st : TSt) (x : Pr) : TSt := if (decide (¬ kindAt is x.1 = 2) || st.2.contains x.2) = true then st else (st.1 ++ tlQ x.1 (x.2 - 1).toNat (blkAt bs x.2).2.1 (blkAt bs x.2).2.1.length, st.2 ++ [x.2])
def runT (is : List Ino) (bs : List Blk) (st : TSt) (l : List Pr) : TSt := l.foldl (stepT is bs) st
theorem runT_append (is : List Ino) (bs : List Blk) (st : TSt) (a b : List Pr) : runT is bs st (a ++ b) = runT is bs (runT is bs st a) b := List.foldl_append
def titlesL (is : List Ino) (bs : List Blk) : List Tt := (runT is bs ([], []) (ptrL is (kndL is))).1
def mendN (is : List Ino) (bs : List Blk) : List Blk := runN is [] (titlesL is bs) bs
/-- As the specification has it: only blocks of directories are had. -/
def stepU (is : List Ino) (bs : List Blk) (st : TSt) (x : Pr) : TSt := if (decide (¬ kindAt is x.1 = 2) || !(blkAt bs x.2).1 || st.2.contains x.2) = true then st else (st.1 ++ tlQ x.1 (x.2 - 1).toNat (blkAt bs x.2).2.1 (blkAt bs x.2).2.1.length, st.2 ++ [x.2])
def runU (is : List Ino) (bs : List Blk) (st : TSt) (l : List Pr) : TSt := l.foldl (stepU is bs) st
theorem runU_append (is : List Ino) (bs : List Blk) (st : TSt) (a b : List Pr) : runU is bs st (a ++ b) = runU is bs (runU is bs st a) b := List.foldl_append
/-- Both ways of having blocks are one. -/
structure TU (bs : List Blk) (a b : TSt) : Prop where
  t : a.1 = b.1
  h : ∀ p, (blkAt bs p).1 = true → a.2.contains p = b.2.contains p
theorem TU.step {is : List Ino} {bs : List Blk} (ht : ∀ p, (blkAt bs p).1 = false → (blkAt bs p).2.1 = []) {a b : TSt} (h : TU bs a b) (x : Pr) : TU bs (stepT is bs a x) (stepU is bs b x) := by
  unfold stepT stepU
  by_cases hk : kindAt is x.1 = 2
  · cases hb : (blkAt bs x.2).1 with
    | true =>
      rw [h.h _ hb]
      cases hc : b.2.contains x.2 with
      | true => simpa [hk] using h
      | false =>
        simp only [hk, not_true, decide_false, Bool.or_self, Bool.not_true, Bool.false_eq_true, if_false]
        refine ⟨by rw [h.t], fun p hp => ?_⟩
        simp only [List.contains_append]
        rw [h.h p hp]
    | false =>
      have e := ht _ hb
      simp only [hk, not_true, decide_false, Bool.false_or, Bool.not_false, Bool.true_or, if_true]
      split
      · exact h
      · refine ⟨by rw [e]; simpa [tlQ] using h.t, fun p hp => ?_⟩
        simp only [List.contains_append]
        rw [h.h p hp]
        have : ¬ x.2 = p := fun e' => by rw [e', hp] at hb; cases hb
        have hpx : (p == x.2) = false := by simpa using fun e' => this e'.symm
        rw [show [x.2].contains p = false by rw [List.contains_cons, hpx]; rfl, Bool.or_false]
  · simpa [hk] using h
theorem TU.run {is : List Ino} {bs : List Blk} (ht : ∀ p, (blkAt bs p).1 = false → (blkAt bs p).2.1 = []) : ∀ (l : List Pr) {a b : TSt}, TU bs a b → TU bs (runT is bs a l) (runU is bs b l)
  | [], _, _, h => h
  | x :: r, _, _, h => TU.run ht r (h.step ht x)
theorem titlesU {is : List Ino} {bs : List Blk} (h : RD is bs) : titlesL is bs = (runU is bs ([], []) (ptrL is (kndL is))).1 := by
  refine (TU.run (is := is) (fun p hp => ?_) (ptrL is (kndL is)) ⟨rfl, fun _ _ => rfl⟩ : TU bs (runT is bs ([], []) _) (runU is bs ([], []) _)).t
  rcases blkAt_cases bs p with e | e
  · rw [e]
  · exact h.text _ e hp
end Go.Proofs.YtbebgnknjoclkaaGreat
/- Mending names: what stays so. No Go function is spoken of. -/
namespace Go.Proofs.YtbebgnknjoclkaaGreat
open Go.RowKit Kit
theorem plF_neg (name : ByteArray) : ∀ (l : List Sl) (j : Nat), plF name j l < 0 ↔ ∀ s ∈ l, ¬ s.1 = name
  | [], j => by simp [plF]
  | s :: r, j => by
    rw [plF]
    by_cases e : s.1 = name
    · rw [if_pos e]
      refine ⟨fun h => absurd h (by omega), fun h => absurd e (h s (by simp))⟩
    · rw [if_neg e, plF_neg name r]
      refine ⟨fun h x hx => ?_, fun h x hx => h x (by simp [hx])⟩
      rcases List.mem_cons.1 hx with rfl | hx
      · exact e
      · exact h x hx
theorem placeR_neg (xs : List Sl) (name : ByteArray) : placeR xs name < 0 ↔ name.size = 0 ∨ ∀ s ∈ xs, ¬ s.1 = name := by
  by_cases e : name.size = 0
  · rw [placeR_empty xs e]; simp [e]
  · rw [placeR_start xs e, List.drop_zero, plF_neg]
    exact ⟨.inr, fun h => h.resolve_left e⟩
theorem okF_less : ∀ (l p p' : List Sl), okF p l = true → (∀ x ∈ p', x ∈ p ∨ x = noS) → okF p' l = true
  | [], _, _, _, _ => rfl
  | s :: r, p, p', h, hp => by
    rw [okF, Bool.and_eq_true, Bool.and_eq_true] at h ⊢
    obtain ⟨⟨h1, h2⟩, h3⟩ := h
    refine ⟨⟨h1, decide_eq_true ((placeR_neg _ _).2 ?_)⟩, okF_less r (p ++ [s]) (p' ++ [s]) h3 fun x hx => ?_⟩
    · rcases (placeR_neg _ _).1 (of_decide_eq_true h2) with e | e
      · exact .inl e
      · by_cases h0 : s.1.size = 0
        · exact .inl h0
        · refine .inr fun x hx => ?_
          rcases hp x hx with e2 | e2
          · exact e x e2
          · rw [e2]
            intro e3
            exact h0 (by rw [← e3]; rfl)
    · rcases List.mem_append.1 hx with hx | hx
      · rcases hp x hx with e | e
        · exact .inl (List.mem_append_left _ e)
        · exact .inr e
      · exact .inl (List.mem_append_right _ hx)
theorem okF_clr : ∀ (l p : List Sl) (k : Nat), okF p l = true → okF p (l.set k noS) = true
  | [], _, _, _ => rfl
  | s :: r, p, 0, h => by
    rw [okF, Bool.and_eq_true, Bool.and_eq_true] at h
    rw [List.set_cons_zero, okF, Bool.and_eq_true, Bool.and_eq_true]
    refine ⟨⟨rfl, decide_eq_true ((placeR_neg _ _).2 (.inl rfl))⟩, okF_less r (p ++ [s]) (p ++ [noS]) h.2 fun x hx => ?_⟩
    rcases List.mem_append.1 hx with hx | hx
    · exact .inl (List.mem_append_left _ hx)
    · exact .inr (List.mem_singleton.1 hx)
  | s :: r, p, k + 1, h => by
    rw [okF, Bool.and_eq_true] at h
    rw [List.set_cons_succ, okF, Bool.and_eq_true]
    exact ⟨h.1, okF_clr r _ k h.2⟩
theorem blkOk_clr {q : Blk} (h : blkOk q = true) (k : Nat) : blkOk (q.1, q.2.1.set k noS, q.2.2) = true := by
  unfold blkOk blockOk at h ⊢
  cases e : q.1 with
  | true =>
    rw [e] at h
    simp only [if_true, Bool.and_eq_true] at h ⊢
    refine ⟨h.1, ?_⟩
    have h2 := h.2
    unfold slotsOk at h2 ⊢
    rw [Bool.and_eq_true] at h2 ⊢
    exact ⟨by rw [List.length_set]; exact h2.1, okF_clr _ _ _ h2.2⟩
  | false =>
    rw [e] at h
    simp only [Bool.false_eq_true, if_false] at h ⊢
    rw [List.length_set]; exact h
theorem diskOk_setB {xs ys : List Bool} {is : List Ino} {bs : List Blk} (h : diskOk xs ys is bs = true) (j : Nat) (q : Blk) (hq : blkOk q = true) : diskOk xs ys is (bs.set j q) = true := by
  obtain ⟨h0, h1, h2, h3, h4⟩ := diskOk_parts h
  refine diskOk_of h0 h1 h2 (fun x hx => ?_) (by simpa using h4)
  rcases List.mem_or_eq_of_mem_set hx with e | e
  · exact h3 x e
  · exact e ▸ hq
theorem clrS_ok {xs ys : List Bool} {is : List Ino} {bs : List Blk} (h : diskOk xs ys is bs = true) (t : Tt) : diskOk xs ys is (clrS bs t) = true := by
  unfold clrS
  by_cases hj : t.2.1 < bs.length
  · refine diskOk_setB h _ _ (blkOk_clr ?_ _)
    rw [getD_in hj]
    exact (diskOk_parts h).2.2.2.1 _ (List.getElem_mem hj)
  · rw [List.set_eq_of_length_le (by omega)]; exact h
theorem clrS_blk (bs : List Blk) (t : Tt) (p : Nat) (hp : t.2.1 < bs.length) : (clrS bs t).getD p zB = if p = t.2.1 then ((bs.getD p zB).1, (bs.getD p zB).2.1.set t.2.2 noS, (bs.getD p zB).2.2) else bs.getD p zB := by
  unfold clrS
  by_cases e : p = t.2.1
  · subst e
    rw [if_pos rfl, getD_in (by simpa using hp), List.getElem_set_self]
  · rw [if_neg e]
    simp only [List.getD_eq_getElem?_getD]
    rw [List.getElem?_set_ne (fun h => e h.symm)]
/-- A slot elsewhere stays; the slot itself is without anything. -/
theorem slotN_clr (bs : List Blk) (t a : Tt) (ht : t.2.1 < bs.length) (hs : t.2.2 < (bs.getD t.2.1 zB).2.1.length) : slotN (clrS bs t) a = if a.2 = t.2 then noS else slotN bs a := by
  unfold slotN
  rw [clrS_blk bs t a.2.1 ht]
  by_cases e : a.2.1 = t.2.1
  · rw [if_pos e]
    by_cases e2 : a.2.2 = t.2.2
    · rw [if_pos (Prod.ext e e2)]
      show (List.set _ _ _).getD _ _ = _
      rw [e, e2, getD_in (by simpa using hs), List.getElem_set_self]
    · rw [if_neg (fun h => e2 (by rw [h]))]
      show (List.set _ _ _).getD _ _ = _
      simp only [List.getD_eq_getElem?_getD]
      rw [List.getElem?_set_ne (fun h => e2 h.symm)]
  · rw [if_neg e, if_neg (fun h => e (by rw [h]))]
/-- What stays so while names go. -/
structure NI (xs ys : List Bool) (is : List Ino) (bs0 bs : List Blk) : Prop where
  ok : diskOk xs ys is bs = true
  dr : ∀ p, (bs.getD p zB).1 = (bs0.getD p zB).1
  ln : ∀ p, (bs.getD p zB).2.1.length = (bs0.getD p zB).2.1.length
theorem NI.begin {xs ys : List Bool} {is : List Ino} {bs : List Blk} (h : diskOk xs ys is bs = true) : NI xs ys is bs bs := ⟨h, fun _ => rfl, fun _ => rfl⟩
theorem NI.clr {xs ys : List Bool} {is : List Ino} {bs0 bs : List Blk} (h : NI xs ys is bs0 bs) (t : Tt) : NI xs ys is bs0 (clrS bs t) := by
  by_cases hj : t.2.1 < bs.length
  · refine ⟨clrS_ok h.ok t, fun p => ?_, fun p => ?_⟩
    · rw [clrS_blk bs t p hj, ← h.dr p]; split <;> rfl
    · rw [clrS_blk bs t p hj, ← h.ln p]; split
      · exact List.length_set
      · rfl
  · have : clrS bs t = bs := by unfold clrS; exact List.set_eq_of_length_le (by omega)
    rw [this]; exact h
theorem NI.step {xs ys : List Bool} {is : List Ino} {bs0 bs : List Blk} (h : NI xs ys is bs0 bs) (dn : List Tt) (t : Tt) : NI xs ys is bs0 (stepN is dn bs t) := by
  unfold stepN
  split
  · exact h.clr t
  · exact h
theorem NI.run {xs ys : List Bool} {is : List Ino} {bs0 : List Blk} : ∀ (l dn : List Tt) {bs : List Blk}, NI xs ys is bs0 bs → NI xs ys is bs0 (runN is dn l bs)
  | [], _, _, h => h
  | t :: r, dn, _, h => NI.run r (dn ++ [t]) (h.step dn t)
theorem mendN_ok {xs ys : List Bool} {is : List Ino} {bs : List Blk} (h : diskOk xs ys is bs = true) : diskOk xs ys is (mendN is bs) = true := ((NI.begin h).run (titlesL is bs) []).ok
/-- Places that there are. -/
def InT (bs : List Blk) (t : Tt) : Prop := t.2.1 < bs.length ∧ t.2.2 < (bs.getD t.2.1 zB).2.1.length
theorem blkAt_getD {bs : List Blk} {p : Nat} (h : p < bs.length) : blkAt bs ((p : Int) + 1) = bs.getD p zB := by
  unfold blkAt
  rw [show inB ((p : Int) + 1) 1 bs.length = true by simp [inB]; omega, if_pos rfl, show ((p : Int) + 1 - 1).toNat = p by omega]
  rfl
/-- What titles are. -/
structure TI (bs : List Blk) (st : TSt) : Prop where
  h : ∀ t ∈ st.1, InT bs t ∧ st.2.contains ((t.2.1 : Int) + 1) = true ∧ ¬ (slotN bs t).1 = ⟨#[]⟩
  n : (st.1.map (·.2)).Nodup
theorem TI.begin (bs : List Blk) : TI bs ([], []) := ⟨fun _ h => (by cases h), List.nodup_nil⟩
theorem tlQ_nodup (i : Int) (p : Nat) (ss : List Sl) (q : Nat) : ((tlQ i p ss q).map (·.2)).Nodup := by
  unfold tlQ
  rw [List.map_map]
  refine List.Pairwise.map _ (R := (· ≠ ·)) (fun a b h e => h ?_) (List.nodup_range.filter _)
  simpa using e
theorem TI.add {bs : List Blk} {st : TSt} (h : TI bs st) (i : Int) (p : Nat) (hp : p < bs.length) (hn : st.2.contains ((p : Int) + 1) = false) (q : Nat) (hq : q ≤ (bs.getD p zB).2.1.length) : TI bs (st.1 ++ tlQ i p (bs.getD p zB).2.1 q, st.2 ++ [(p : Int) + 1]) := by
  refine ⟨fun t ht => ?_, ?_⟩
  · show InT bs t ∧ (st.2 ++ [(p : Int) + 1]).contains _ = true ∧ _
    rw [List.contains_append]
    rcases List.mem_append.1 ht with ht | ht
    · obtain ⟨h1, h2, h3⟩ := h.h t ht
      exact ⟨h1, by rw [h2]; rfl, h3⟩
    · obtain ⟨-, e2, e3, e4⟩ := mem_tlQ ht
      refine ⟨⟨by omega, by rw [e2]; omega⟩, by rw [e2]; simp, ?_⟩
      unfold slotN
      rw [e2]; exact e4
  · rw [List.map_append]
    refine List.nodup_append.2 ⟨h.n, tlQ_nodup _ _ _ _, fun a ha b hb e => ?_⟩
    obtain ⟨t, ht, rfl⟩ := List.mem_map.1 ha
    obtain ⟨t', ht', rfl⟩ := List.mem_map.1 hb
    obtain ⟨-, h2, -⟩ := h.h t ht
    obtain ⟨-, e2, -⟩ := mem_tlQ ht'
    have : t.2.1 = p := by rw [e, e2]
    rw [this, hn] at h2
    cases h2
theorem TI.step {is : List Ino} {bs : List Blk} (hb : bs.length = 16) {st : TSt} (h : TI bs st) (x : Pr) (hx : 1 ≤ x.2 ∧ x.2 ≤ 16) : TI bs (stepT is bs st x) := by
  unfold stepT
  split
  · exact h
  · rename_i hc
    rw [Bool.not_eq_true, Bool.or_eq_false_iff] at hc
    obtain ⟨p, hp⟩ : ∃ p : Nat, x.2 = (p : Int) + 1 := ⟨(x.2 - 1).toNat, by omega⟩
    have hc2 := hc.2
    rw [hp] at hc2
    rw [hp, show ((p : Int) + 1 - 1).toNat = p by omega, blkAt_getD (by omega)]
    exact h.add x.1 p (by omega) hc2 _ (Nat.le_refl _)
theorem TI.run {is : List Ino} {bs : List Blk} (hb : bs.length = 16) : ∀ (l : List Pr) {st : TSt}, (∀ x ∈ l, 1 ≤ x.2 ∧ x.2 ≤ 16) → TI bs st → TI bs (runT is bs st l)
  | [], _, _, h => h
  | x :: r, _, hl, h => TI.run hb r (fun y hy => hl y (by simp [hy])) (h.step hb x (hl x (by simp)))
end Go.Proofs.YtbebgnknjoclkaaGreat
/- Mending names: slots that were not come to yet. No Go function is spoken of. -/
namespace Go.Proofs.YtbebgnknjoclkaaGreat
open Go.RowKit Kit
/-- A slot that was not come to yet stays. -/
theorem slotN_other (is : List Ino) : ∀ (l dn : List Tt) (bs : List Blk) (a : Tt), (∀ t ∈ l, InT bs t ∧ ¬ a.2 = t.2) → slotN (runN is dn l bs) a = slotN bs a
  | [], _, _, _, _ => rfl
  | t :: r, dn, bs, a, h => by
    obtain ⟨h1, h2⟩ := h t (by simp)
    have e1 : slotN (stepN is dn bs t) a = slotN bs a := by
      unfold stepN
      split
      · rw [slotN_clr bs t a h1.1 h1.2, if_neg h2]
      · rfl
    have hin : ∀ x, InT bs x → InT (stepN is dn bs t) x := fun x hx => by
      unfold stepN
      split
      · refine ⟨by unfold clrS; simpa using hx.1, ?_⟩
        rw [clrS_blk bs t x.2.1 h1.1]
        split
        · show _ < (List.set _ _ _).length
          rw [List.length_set]; exact hx.2
        · exact hx.2
      · exact hx
    rw [runN, slotN_other is r _ _ a (fun x hx => ⟨hin x (h x (by simp [hx])).1, (h x (by simp [hx])).2⟩), e1]
theorem slotN_run {xs ys : List Bool} (is : List Ino) {bs : List Blk} (L : List Tt) (q : Nat) (hq : q < L.length) (hn : (L.map (·.2)).Nodup) (hi : ∀ t ∈ L, InT bs t) (_ : diskOk xs ys is bs = true) : slotN (runN is [] (L.take q) bs) L[q] = slotN bs L[q] := by
  refine slotN_other is _ _ _ _ fun t ht => ⟨hi t (List.mem_of_mem_take ht), fun e => ?_⟩
  obtain ⟨k, hk, rfl⟩ := List.getElem_of_mem ht
  rw [List.length_take] at hk
  rw [List.getElem_take] at e
  have h1 := List.pairwise_iff_getElem.1 hn k q (by simp; omega) (by simpa using hq) (by omega)
  exact h1 (by simpa using e.symm)
end Go.Proofs.YtbebgnknjoclkaaGreat
/- Of the specification: l16Keep by its contract. -/
namespace Go.Proofs.YtbebgnknjoclkaaGreat
open Go.RowKit Kit
/-- A list of texts is read so. -/
def RTx (w : World) (v : Value) (l : List ByteArray) : Prop := ∃ a c, v = .slice a l.length c ∧ ∀ (j : Nat) (h : j < l.length), ∃ g off, a = some ⟨g, off, none⟩ ∧ g < w.heap.size ∧ w.cell? ⟨g, off + j, none⟩ = some (.string l[j])
theorem RTx.below {w w' : World} {v : Value} {l : List ByteArray} (h : RTx w v l) (hb : Below w.heap.size w w') : RTx w' v l := by
  obtain ⟨a, c, e, h⟩ := h
  refine ⟨a, c, e, fun j hj => ?_⟩
  obtain ⟨g, off, e1, hg, k⟩ := h j hj
  exact ⟨g, off, e1, Nat.lt_of_lt_of_le hg hb.size, (hb.cell (p := ⟨g, off + j, none⟩) hg).trans k⟩
def keepB (is : List Ino) (s : Sl) (names : List ByteArray) (dirs : List Int) : Bool := !(decide (s.2 = 1) || decide (kindAt is s.2 = 0) || dirs.contains s.2) && !names.any (fun n => decide (n = s.1))
set_option maxRecDepth 100000 in
set_option maxHeartbeats 3200000 in
theorem keep_any (sn : ByteArray) (j : Nat) (nv dv : Value) (names : List ByteArray) (dirs : List Int) (u v iv bv : Value) (xs ys : List Bool) (is : List Ino) (bs : List Blk) (w : World) (h : DR w u v iv bv xs ys is bs) (hR : RD is bs) (hj : j < 8) (hn : RTx w nv names) (hd : RInts w dv dirs) (hnl : names.length ≤ 1048576) (hdl : dirs.length ≤ 1048576) :
    Calls Tryz.prog 42 #[.agg #[u, v, iv, bv], .agg #[.string sn, .int .i64 ((j : Int) + 1)], nv, dv] w fun e w' => e = .returned (.bool (keepB is (sn, (j : Int) + 1) names dirs)) ∧ Below w.heap.size w w' := by
  obtain ⟨a1, c1, a2, c2, a3, c3, a4, c4, rfl, rfl, rfl, rfl⟩ := h.form
  have hji : j < is.length := by rw [hR.hi]; exact hj
  obtain ⟨g3, o3, sa, sc, rfl, hg3, k0, -⟩ := DR.ino h j hji
  obtain ⟨W0, hW0⟩ : ∃ W, ((w.alloc (.cells #[.slice a1 xs.length c1, .slice a2 ys.length c2, .slice (some ⟨g3, o3, none⟩) is.length c3, .slice a4 bs.length c4] 34)).alloc (.cells #[.string sn, .int .i64 ((j : Int) + 1)] 74)) = W := ⟨_, rfl⟩
  have H0 : Hid (Below w.heap.size w W0 ∧ AtC W0 w.heap.size 34 #[.slice a1 xs.length c1, .slice a2 ys.length c2, .slice (some ⟨g3, o3, none⟩) is.length c3, .slice a4 bs.length c4] ∧ AtC W0 (w.heap.size + 1) 74 #[.string sn, .int .i64 ((j : Int) + 1)]) := by
    rw [← hW0]
    have q := AtC.new (w.alloc (.cells #[.slice a1 xs.length c1, .slice a2 ys.length c2, .slice (some ⟨g3, o3, none⟩) is.length c3, .slice a4 bs.length c4] 34)) 74 #[.string sn, .int .i64 ((j : Int) + 1)]
    rw [World.size_alloc] at q
    exact ⟨((Below.refl _ w).alloc (Nat.le_refl _) _).alloc (by simp) _, (AtC.new w 34 _).alloc _, q⟩
  have x2 : W0.cell? ⟨w.heap.size, 2, none⟩ = some (.slice (some ⟨g3, o3, none⟩) is.length c3) := H0.out.2.1.cell 2
  have s0 : W0.cell? ⟨w.heap.size + 1, 0, none⟩ = some (.string sn) := H0.out.2.2.cell 0
  have s1 : W0.cell? ⟨w.heap.size + 1, 1, none⟩ = some (.int .i64 ((j : Int) + 1)) := H0.out.2.2.cell 1
  have kk := (H0.out.1.cell (p := ⟨g3, o3 + j * 3, none⟩) hg3).trans k0
  have HD := hide (has10_any dv dirs ((j : Int) + 1) W0 (hd.below H0.out.1 (Nat.le_refl _)) hdl)
  have HN := hide (hn.below H0.out.1)
  obtain ⟨kd, hkd⟩ : ∃ k, kindAt is ((j : Int) + 1) = k := ⟨_, rfl⟩
  rw [hkd] at kk
  have HK : Hid (∀ r, (!(decide ((j : Int) + 1 = 1) || decide (kd = 0) || dirs.contains ((j : Int) + 1)) && !names.any (fun n => decide (n = sn))) = r → keepB is (sn, (j : Int) + 1) names dirs = r) := fun r e => by unfold keepB; rw [hkd]; exact e
  have j0 : (0 : Int) ≤ (j : Int) := by omega
  have j1 : (j : Int) < (is.length : Int) := by omega
  have hwj : IntKind.i64.wrap (j : Int) = (j : Int) := wrap_small _ (by omega) (by omega)
  clear h hR hn hd hkd k0 hji
  by_cases hj0 : (j : Int) + 1 = 1
  · have n0 : ((j : Int) + 1 == 1) = true := by simpa using hj0
    have HE := hide (HK.out false (by simp [hj0]))
    clear hj0
    rw [HE.out]
    go_enter Tryz.func42, Tryz.ntmps42
    go_wp2
    go_ret
    exact ⟨rfl, H0.out.1⟩
  have n0 : ((j : Int) + 1 == 1) = false := by simpa using hj0
  by_cases hk0 : kd = 0
  · have n1 : (kd == 0) = true := by simp [hk0]
    have HE := hide (HK.out false (by simp [hk0]))
    clear hj0 hk0
    rw [HE.out]
    go_enter Tryz.func42, Tryz.ntmps42
    go_wp2
    go_ret
    exact ⟨rfl, H0.out.1⟩
  have n1 : (kd == 0) = false := by simp [hk0]
  cases hdc : dirs.contains ((j : Int) + 1) with
  | true =>
    rw [hdc] at HD
    have HE := hide (HK.out false (by rw [hdc, Bool.or_true]; rfl))
    clear hj0 hk0 hdc
    rw [HE.out]
    go_enter Tryz.func42, Tryz.ntmps42
    go_wp2_with fail
    refine HD.out.mono ?_
    rintro e w1 ⟨rfl, rfl⟩
    go_wp2
    go_ret
    exact ⟨rfl, H0.out.1⟩
  | false =>
    rw [hdc] at HD
    have HK2 : Hid (keepB is (sn, (j : Int) + 1) names dirs = !names.any (fun n => decide (n = sn))) := HK.out _ (by simp only [hj0, hk0, decide_false, hdc, Bool.or_self, Bool.not_false, Bool.true_and])
    clear hj0 hk0 hdc HK
    obtain ⟨na, nc, rfl, hnc⟩ := HN.out
    have HNC := hide hnc
    clear hnc
    rw [HK2.out]
    go_enter Tryz.func42, Tryz.ntmps42
    go_wp2_with fail
    refine HD.out.mono ?_
    rintro e w1 ⟨rfl, hw1⟩
    subst hw1
    have HN0 : Hid ((names.take 0).any (fun n => decide (n = sn)) = false) := rfl
    clear kk x2 s1
    go_wp2_with fail
    go_loopw [9] (fun kv wr => ∃ q : Nat, q ≤ names.length ∧ kv = .int .i64 q ∧ Hid ((names.take q).any (fun n => decide (n = sn)) = false ∧ ∃ m, wr = w1.drewN m)) (fun kv _ => names.length - (intOf kv).toNat)
    case atStart => exact ⟨0, Nat.zero_le _, rfl, rfl, 0, rfl⟩
    case round =>
      obtain ⟨q, hq, rfl, HR⟩ := hrel
      obtain ⟨m, hm⟩ := HR.out.2
      subst hm
      have q0 : (0 : Int) ≤ (q : Int) := by omega
      by_cases hlt : q < names.length
      rotate_left
      · have q1 : ¬ ((q : Int) < (names.length : Int)) := by omega
        have HE : Hid ((!names.any (fun n => decide (n = sn))) = true) := by
          have h1 := HR.out.1
          rw [List.take_of_length_le (by omega)] at h1
          show (!names.any (fun n => decide (n = sn))) = true
          rw [h1]; rfl
        go_wp2
        go_ret
        exact ⟨by rw [HE.out]; rfl, below_drewN H0.out.1 _⟩
      have q1 : (q : Int) < (names.length : Int) := by omega
      obtain ⟨g, off, rfl, hg, k⟩ := HNC.out q hlt
      obtain ⟨nm, hnm⟩ : ∃ x, names[q] = x := ⟨_, rfl⟩
      rw [hnm] at k
      have HTK : Hid ((names.take (q + 1)).any (fun n => decide (n = sn)) = decide (nm = sn)) := by
        show _ = _
        rw [List.take_succ_eq_append_getElem hlt, List.any_append, HR.out.1, hnm]
        simp
      by_cases he : nm = sn
      · have ne : (nm.toList == sn.toList) = true := by simp [he]
        have HE : Hid ((!names.any (fun n => decide (n = sn))) = false) := by
          have : names.any (fun n => decide (n = sn)) = true := List.any_eq_true.2 ⟨names[q], List.getElem_mem hlt, decide_eq_true (by rw [hnm]; exact he)⟩
          show (!names.any (fun n => decide (n = sn))) = false
          rw [this]; rfl
        clear he hnm
        go_upto_region 6 with fail
        go_quiet (fail)
        go_wp2
        go_ret
        exact ⟨by rw [HE.out]; rfl, by first | exact below_drewN H0.out.1 _ | exact below_drewN (below_drewN H0.out.1 _) _⟩
      · have ne : (nm.toList == sn.toList) = false := beq_false he
        have HE : Hid ((names.take (q + 1)).any (fun n => decide (n = sn)) = false) := by
          show _ = _
          rw [HTK.out]
          exact decide_eq_false he
        clear he hnm
        go_upto_region 6 with fail
        go_quiet (fail)
        go_wp2
        go_roundw
        case rel => exact ⟨q + 1, by omega, by go_num, HE.out, by first | exact ⟨_, rfl⟩ | exact ⟨_, World.drewN_drewN⟩⟩
        case measure => simp [intOf]; omega
end Go.Proofs.YtbebgnknjoclkaaGreat
/- Mending names as the specification does: names and directories that were kept. No Go function is spoken of. -/
namespace Go.Proofs.YtbebgnknjoclkaaGreat
open Go.RowKit Kit
def hasNm (bs : List Blk) (t : Tt) : Bool := decide (¬ (slotN bs t).1 = ⟨#[]⟩)
/-- Names that were kept, of one directory. -/
def NM (bs : List Blk) (i : Int) (T : List Tt) : List ByteArray := (T.filter fun t => decide (t.1 = i) && hasNm bs t).map fun t => (slotN bs t).1
/-- Directories that were named. -/
def DS (is : List Ino) (bs : List Blk) (T : List Tt) : List Int := (T.filter fun t => hasNm bs t && decide (kindAt is (slotN bs t).2 = 2)).map fun t => (slotN bs t).2
theorem slot_zero {xs ys : List Bool} {is : List Ino} {bs : List Blk} (h : diskOk xs ys is bs = true) {t : Tt} (ht : InT bs t) (he : (slotN bs t).1 = ⟨#[]⟩) : (slotN bs t).2 = 0 := by
  have hb := (diskOk_parts h).2.2.2.1 (bs.getD t.2.1 zB) (by rw [getD_in ht.1]; exact List.getElem_mem _)
  have hm : slotN bs t ∈ (bs.getD t.2.1 zB).2.1 := by unfold slotN; rw [getD_in ht.2]; exact List.getElem_mem _
  unfold blkOk blockOk at hb
  cases hd : (bs.getD t.2.1 zB).1 with
  | false =>
    rw [hd] at hb
    simp only [Bool.false_eq_true, if_false, decide_eq_true_eq] at hb
    have := ht.2
    omega
  | true =>
    rw [hd] at hb
    simp only [if_true, Bool.and_eq_true] at hb
    have h2 := hb.2
    unfold slotsOk at h2
    rw [Bool.and_eq_true] at h2
    rcases of_decide_eq_true (okF_all _ _ h2.2 _ hm) with e | e
    · exact e.2
    · have h3 := e.1
      rw [he] at h3
      exact absurd h3 (by decide)
theorem keep_bad {xs ys : List Bool} {is : List Ino} {bs : List Blk} (h : diskOk xs ys is bs = true) {T : List Tt} (hT : ∀ t ∈ T, InT bs t) {t : Tt} (hn : ¬ (slotN bs t).1 = ⟨#[]⟩) (hi : 1 ≤ (slotN bs t).2) : keepB is (slotN bs t) (NM bs t.1 T) (DS is bs T) = !badT is T bs t := by
  unfold keepB badT
  have e1 : (NM bs t.1 T).any (fun n => decide (n = (slotN bs t).1)) = T.any (fun a => decide (a.1 = t.1) && decide ((slotN bs a).1 = (slotN bs t).1)) := by
    rw [Bool.eq_iff_iff, List.any_eq_true, List.any_eq_true]
    constructor
    · rintro ⟨n, hm, e⟩
      obtain ⟨a, ha, rfl⟩ := List.mem_map.1 hm
      obtain ⟨h1, h2⟩ := List.mem_filter.1 ha
      rw [Bool.and_eq_true] at h2
      exact ⟨a, h1, by rw [h2.1, e]; rfl⟩
    · rintro ⟨a, ha, e⟩
      rw [Bool.and_eq_true, decide_eq_true_eq, decide_eq_true_eq] at e
      refine ⟨(slotN bs a).1, List.mem_map.2 ⟨a, List.mem_filter.2 ⟨ha, ?_⟩, rfl⟩, decide_eq_true e.2⟩
      rw [Bool.and_eq_true]
      exact ⟨decide_eq_true e.1, decide_eq_true (by rw [e.2]; exact hn)⟩
  have e2 : (DS is bs T).contains (slotN bs t).2 = T.any (fun a => decide (kindAt is (slotN bs t).2 = 2) && decide ((slotN bs a).2 = (slotN bs t).2)) := by
    rw [Bool.eq_iff_iff, List.contains_iff_mem, List.any_eq_true]
    constructor
    · intro hm
      obtain ⟨a, ha, e⟩ := List.mem_map.1 hm
      obtain ⟨h1, h2⟩ := List.mem_filter.1 ha
      rw [Bool.and_eq_true, decide_eq_true_eq] at h2
      refine ⟨a, h1, ?_⟩
      rw [Bool.and_eq_true, decide_eq_true_eq, decide_eq_true_eq]
      exact ⟨by rw [← e]; exact h2.2, e⟩
    · rintro ⟨a, ha, e⟩
      rw [Bool.and_eq_true, decide_eq_true_eq, decide_eq_true_eq] at e
      refine List.mem_map.2 ⟨a, List.mem_filter.2 ⟨ha, ?_⟩, e.2⟩
      rw [Bool.and_eq_true, decide_eq_true_eq]
      refine ⟨decide_eq_true fun e3 => ?_, by rw [e.2]; exact e.1⟩
      have := slot_zero h (hT a ha) e3
      omega
  rw [e1, e2]
  have e3 : T.any (badA is bs t) = (T.any (fun a => decide (a.1 = t.1) && decide ((slotN bs a).1 = (slotN bs t).1)) || T.any (fun a => decide (kindAt is (slotN bs t).2 = 2) && decide ((slotN bs a).2 = (slotN bs t).2))) := by
    rw [Bool.eq_iff_iff, Bool.or_eq_true, List.any_eq_true, List.any_eq_true, List.any_eq_true]
    unfold badA
    constructor
    · rintro ⟨a, ha, e⟩
      rw [Bool.or_eq_true] at e
      exact e.elim (fun e => .inl ⟨a, ha, e⟩) (fun e => .inr ⟨a, ha, e⟩)
    · rintro (⟨a, ha, e⟩ | ⟨a, ha, e⟩)
      · exact ⟨a, ha, by rw [e]; rfl⟩
      · exact ⟨a, ha, by rw [e, Bool.or_true]⟩
  rw [e3]
  generalize decide ((slotN bs t).2 = 1) = A
  generalize decide (kindAt is (slotN bs t).2 = 0) = B
  generalize T.any (fun a => decide (a.1 = t.1) && decide ((slotN bs a).1 = (slotN bs t).1)) = C
  generalize T.any (fun a => decide (kindAt is (slotN bs t).2 = 2) && decide ((slotN bs a).2 = (slotN bs t).2)) = E
  cases A <;> cases B <;> cases C <;> cases E <;> rfl
theorem NM_keep (bs : List Blk) (T : List Tt) {t : Tt} (hn : ¬ (slotN bs t).1 = ⟨#[]⟩) : NM bs t.1 (T ++ [t]) = NM bs t.1 T ++ [(slotN bs t).1] := by
  unfold NM
  rw [List.filter_append, List.map_append, List.filter_cons_of_pos (by simp [hasNm, hn])]
  rfl
theorem DS_keep (is : List Ino) (bs : List Blk) (T : List Tt) {t : Tt} (hn : ¬ (slotN bs t).1 = ⟨#[]⟩) : DS is bs (T ++ [t]) = DS is bs T ++ if kindAt is (slotN bs t).2 = 2 then [(slotN bs t).2] else [] := by
  unfold DS
  rw [List.filter_append, List.map_append]
  by_cases e : kindAt is (slotN bs t).2 = 2
  · rw [if_pos e, List.filter_cons_of_pos (by simp [hasNm, hn, e])]; rfl
  · rw [if_neg e, List.filter_cons_of_neg (by simp [e])]; rfl
theorem filter_map_congr {α β : Type} {p q : α → Bool} {f g : α → β} : ∀ (l : List α), (∀ x ∈ l, p x = q x ∧ f x = g x) → (l.filter p).map f = (l.filter q).map g
  | [], _ => rfl
  | x :: r, h => by
    obtain ⟨h1, h2⟩ := h x (by simp)
    have ih := filter_map_congr r fun y hy => h y (by simp [hy])
    rw [List.filter_cons, List.filter_cons, h1]
    split
    · rw [List.map_cons, List.map_cons, h2, ih]
    · exact ih
theorem NM_clr (bs : List Blk) (i : Int) (T : List Tt) {t : Tt} (ht : InT bs t) (hd : ∀ a ∈ T, ¬ a.2 = t.2) : NM (clrS bs t) i (T ++ [t]) = NM bs i T := by
  unfold NM
  rw [List.filter_append, List.map_append, List.filter_cons_of_neg (by simp [hasNm, slotN_clr bs t t ht.1 ht.2, noS]), List.filter_nil, List.map_nil, List.append_nil]
  refine filter_map_congr T fun a ha => ?_
  have e := slotN_clr bs t a ht.1 ht.2
  rw [if_neg (hd a ha)] at e
  unfold hasNm
  rw [e]
  exact ⟨rfl, rfl⟩
theorem DS_clr (is : List Ino) (bs : List Blk) (T : List Tt) {t : Tt} (ht : InT bs t) (hd : ∀ a ∈ T, ¬ a.2 = t.2) : DS is (clrS bs t) (T ++ [t]) = DS is bs T := by
  unfold DS
  rw [List.filter_append, List.map_append, List.filter_cons_of_neg (by simp [hasNm, slotN_clr bs t t ht.1 ht.2, noS]), List.filter_nil, List.map_nil, List.append_nil]
  refine filter_map_congr T fun a ha => ?_
  have e := slotN_clr bs t a ht.1 ht.2
  rw [if_neg (hd a ha)] at e
  unfold hasNm
  rw [e]
  exact ⟨rfl, rfl⟩
theorem NM_none (bs : List Blk) (i : Int) (T : List Tt) (h : ∀ t ∈ T, ¬ t.1 = i) : NM bs i T = [] := by
  unfold NM
  rw [List.filter_eq_nil_iff.2 fun t ht => by simp [h t ht]]
  rfl
theorem NM_len (bs : List Blk) (i : Int) (T : List Tt) : (NM bs i T).length ≤ T.length := by unfold NM; rw [List.length_map]; exact List.length_filter_le _ _
theorem DS_len (is : List Ino) (bs : List Blk) (T : List Tt) : (DS is bs T).length ≤ T.length := by unfold DS; rw [List.length_map]; exact List.length_filter_le _ _
/-- What titles are, as the specification has them. -/
theorem TI.stepU {is : List Ino} {bs : List Blk} (hb : bs.length = 16) {st : TSt} (h : TI bs st) (x : Pr) (hx : 1 ≤ x.2 ∧ x.2 ≤ 16) : TI bs (stepU is bs st x) := by
  unfold Go.Proofs.YtbebgnknjoclkaaGreat.stepU
  split
  · exact h
  · rename_i hc
    rw [Bool.not_eq_true, Bool.or_eq_false_iff] at hc
    obtain ⟨p, hp⟩ : ∃ p : Nat, x.2 = (p : Int) + 1 := ⟨(x.2 - 1).toNat, by omega⟩
    have hc2 := hc.2
    rw [hp] at hc2
    rw [hp, show ((p : Int) + 1 - 1).toNat = p by omega, blkAt_getD (by omega)]
    exact h.add x.1 p (by omega) hc2 _ (Nat.le_refl _)
theorem TI.runU {is : List Ino} {bs : List Blk} (hb : bs.length = 16) : ∀ (l : List Pr) {st : TSt}, (∀ x ∈ l, 1 ≤ x.2 ∧ x.2 ≤ 16) → TI bs st → TI bs (runU is bs st l)
  | [], _, _, h => h
  | x :: r, _, hl, h => TI.runU hb r (fun y hy => hl y (by simp [hy])) (h.stepU hb x (hl x (by simp)))
theorem runU_skip (is : List Ino) (bs : List Blk) : ∀ (l : List Pr) (st : TSt), (∀ x ∈ l, ¬ kindAt is x.1 = 2) → runU is bs st l = st
  | [], _, _ => rfl
  | x :: r, st, h => by
    show runU is bs (stepU is bs st x) r = st
    rw [show stepU is bs st x = st by unfold stepU; simp [h x (by simp)]]
    exact runU_skip is bs r st fun y hy => h y (by simp [hy])
theorem runU_dirs (is : List Ino) (bs : List Blk) (P : Int → Prop) : ∀ (l : List Pr) (st : TSt), (∀ x ∈ l, P x.1) → (∀ t ∈ st.1, P t.1) → ∀ t ∈ (runU is bs st l).1, P t.1
  | [], _, _, h => h
  | x :: r, st, hl, h => by
    refine runU_dirs is bs P r (stepU is bs st x) (fun y hy => hl y (by simp [hy])) ?_
    unfold stepU
    split
    · exact h
    · intro t ht
      rcases List.mem_append.1 ht with ht | ht
      · exact h t ht
      · rw [(mem_tlQ ht).1]; exact hl x (by simp)
theorem runU_len {is : List Ino} {bs : List Blk} (h : RD is bs) : ∀ (l : List Pr) (st : TSt), (runU is bs st l).1.length ≤ st.1.length + 4 * l.length
  | [], st => by simp [runU]
  | x :: r, st => by
    have h1 := runU_len h r (stepU is bs st x)
    have h2 : (stepU is bs st x).1.length ≤ st.1.length + 4 := by
      unfold stepU
      split
      · omega
      · show (st.1 ++ tlQ _ _ _ _).length ≤ _
        rw [List.length_append]
        have := tlQ_len x.1 (x.2 - 1).toNat (blkAt bs x.2).2.1 (blkAt bs x.2).2.1.length
        have := h.blk4 x.2
        omega
    show (runU is bs (stepU is bs st x) r).1.length ≤ _
    rw [List.length_cons]
    omega
end Go.Proofs.YtbebgnknjoclkaaGreat
/- Copies: impl.newList, strings.Clone, spec.l03Copy, spec.l04Copy by their contracts. -/
namespace Go.Proofs.YtbebgnknjoclkaaGreat
open Go.RowKit Kit
set_option maxRecDepth 100000 in
theorem newB_any (v : Value) (xs : List Bool) (w : World) (h : RFl w v xs) (hl : xs.length ≤ 1048576) :
    Calls Tryz.prog 88 #[v] w fun e w' => ∃ u, e = .returned u ∧ ROwns w' w.heap.size 4 u (fc xs) ∧ Below w.heap.size w w' := by
  have HR := hide h
  have HL : Hid (xs.length ≤ 100000000000) := Nat.le_trans hl (by decide)
  clear h hl
  go_enter Tryz.func88, Tryz.ntmps88
  go_wp2_with (at_builtin; refine wpList_append_copy _ rfl _ _ 22 rfl w.heap.size 4 Tryz.underlying22 _ 1 1 Tryz.i4 rfl (by decide) (by decide) _ rfl (World.ownsRow_nil _ _ _ _) (Nat.le_refl _) _ rfl xs.length (fc xs) HR.out.rc (by rw [fc_length, Nat.mul_one]) (fc_one xs) HL.out ?_; intro v' w1 R1 R2 R3)
  have HX : Hid (ROwns w1 w.heap.size 4 v' (fc xs) ∧ Below w.heap.size w w1) := ⟨by unfold ROwns; rw [fc_length]; exact R1, below_of_append (Below.refl _ _) (Nat.le_refl _) R2 (fun k hk => by cases hk)⟩
  clear R1 R2 R3
  go_wp2
  go_ret
  exact ⟨_, rfl, HX.out.1, HX.out.2⟩
set_option maxRecDepth 100000 in
theorem newI_any (v : Value) (xs : List Int) (w : World) (h : RInts w v xs) (hl : xs.length ≤ 1048576) :
    Calls Tryz.prog 89 #[v] w fun e w' => ∃ u, e = .returned u ∧ ROwns w' w.heap.size 3 u (ic xs) ∧ Below w.heap.size w w' := by
  have HR := hide h
  have HL : Hid (xs.length ≤ 100000000000) := Nat.le_trans hl (by decide)
  clear h hl
  go_enter Tryz.func89, Tryz.ntmps89
  go_wp2_with (at_builtin; refine wpList_append_copy _ rfl _ _ 56 rfl w.heap.size 3 Tryz.underlying56 _ 1 8 Tryz.i3 rfl (by decide) (by decide) _ rfl (World.ownsRow_nil _ _ _ _) (Nat.le_refl _) _ rfl xs.length (ic xs) HR.out.rc (by rw [ic_length, Nat.mul_one]) (ic_one xs) HL.out ?_; intro v' w1 R1 R2 R3)
  have HX : Hid (ROwns w1 w.heap.size 3 v' (ic xs) ∧ Below w.heap.size w w1) := ⟨by unfold ROwns; rw [ic_length]; exact R1, below_of_append (Below.refl _ _) (Nat.le_refl _) R2 (fun k hk => by cases hk)⟩
  clear R1 R2 R3
  go_wp2
  go_ret
  exact ⟨_, rfl, HX.out.1, HX.out.2⟩
set_option maxRecDepth 100000 in
theorem newS_any (v : Value) (xs : List Sl) (w : World) (h : RSl w v xs) (hl : xs.length ≤ 1048576) :
    Calls Tryz.prog 111 #[v] w fun e w' => ∃ u, e = .returned u ∧ SOwns w' w.heap.size 74 u xs ∧ Below w.heap.size w w' := by
  have HR := hide h
  have HL : Hid (xs.length ≤ 100000000000) := Nat.le_trans hl (by decide)
  clear h hl
  go_enter Tryz.func111, Tryz.ntmps111
  go_wp2_with (at_builtin; refine wpList_append_copy _ rfl _ _ 68 rfl w.heap.size 74 Tryz.underlying68 _ 2 24 Tryz.i74 rfl (by decide) (by decide) _ rfl (World.ownsRow_nil _ _ _ _) (Nat.le_refl _) _ rfl xs.length (sc xs) HR.out.rc (sc_length xs) (sc_one xs) HL.out ?_; intro v' w1 R1 R2 R3)
  have HX : Hid (SOwns w1 w.heap.size 74 v' xs ∧ Below w.heap.size w w1) := ⟨R1, below_of_append (Below.refl _ _) (Nat.le_refl _) R2 (fun k hk => by cases hk)⟩
  clear R1 R2 R3
  go_wp2
  go_ret
  exact ⟨_, rfl, HX.out.1, HX.out.2⟩
theorem clone_any (s : ByteArray) (w : World) (h : s.size ≤ 281474976710656) :
    Calls Tryz.prog 110 #[.string s] w fun e w' => e = .returned (.string s) ∧ Below w.heap.size w w' := by
  go_enter Tryz.func110, Tryz.ntmps110
  go_wp2_with (go_at_call 119; refine (Tryz.stringslite_Clone _ _ h).mono ?_; rintro e w1 ⟨rfl, hb⟩)
  go_ret
  exact ⟨rfl, hb⟩
end Go.Proofs.YtbebgnknjoclkaaGreat
/- Copies of an inode, of a block: spec.l03Copy, spec.l04Copy, impl.newBlock by their contracts. -/
namespace Go.Proofs.YtbebgnknjoclkaaGreat.Kit
open Go.RowKit
theorem lit0_at (w : World) (A B : Obj) (e : TypeId) (m : Nat) : (((w.alloc A).alloc B).alloc (.cells #[] e)).ownsRow (w.heap.size + 1 + 1) e m (.slice (some ⟨w.heap.size + 1 + 1, 0, none⟩) 0 0) 0 [] := by
  have := World.ownsRow_lit (base := w.heap.size + 1 + 1) (e := e) (size := m) ((w.alloc A).alloc B) #[] 0 (by simp) (Nat.zero_le _) (by simp)
  simpa using this
theorem alloc3_below (w : World) (A B C : Obj) : Below w.heap.size w (((w.alloc A).alloc B).alloc C) := (((Below.refl _ w).alloc (Nat.le_refl _) _).alloc (by simp) _).alloc (by simp; omega) _
theorem AtC.two3 (w : World) (T1 T2 : TypeId) (cs ds : Array Value) (C : Obj) : AtC (((w.alloc (.cells cs T1)).alloc (.cells ds T2)).alloc C) w.heap.size T1 cs ∧ AtC (((w.alloc (.cells cs T1)).alloc (.cells ds T2)).alloc C) (w.heap.size + 1) T2 ds := by
  refine ⟨((AtC.new w T1 cs).alloc _).alloc _, ?_⟩
  have := (AtC.new (w.alloc (.cells cs T1)) T2 ds).alloc C
  simpa using this
theorem cp_after {w w1 : World} {T e : TypeId} {m n : Nat} {cs Z : Array Value} {ds : List Value} {v' : Value} (R1 : w1.ownsRow (w.heap.size + 1 + 1) e m v' n ds)
    (R2 : (((w.alloc (.cells cs T)).alloc (.cells Z T)).alloc (.cells #[] e)).grownBy w1 (Value.slice (some ⟨w.heap.size + 1 + 1, 0, none⟩) 0 0).ownBlock) :
    ∃ a1 c1, v' = .slice a1 n c1 ∧ Below w.heap.size w w1 ∧ AtC w1 w.heap.size T cs ∧ AtC w1 (w.heap.size + 1) T Z := by
  obtain ⟨k0, k1⟩ := AtC.two3 w T T cs Z (.cells #[] e)
  obtain ⟨a1, c1, e1⟩ : ∃ a1 c1, v' = .slice a1 n c1 := by
    rcases R1.2 with ⟨h1, h0⟩ | ⟨g, cap, cur, h1, -⟩
    · exact ⟨none, 0, by rw [h1, h0]⟩
    · exact ⟨_, _, h1⟩
  exact ⟨a1, c1, e1, below_of_append (alloc3_below w _ _ _) (by simp; omega) R2 (fun k hk => by simp [Value.ownBlock] at hk; omega), k0.grown R2 (by simp [Value.ownBlock]; omega), k1.grown R2 (by simp [Value.ownBlock])⟩
end Go.Proofs.YtbebgnknjoclkaaGreat.Kit
namespace Go.Proofs.YtbebgnknjoclkaaGreat
open Go.RowKit Kit
set_option maxRecDepth 100000 in
set_option maxHeartbeats 800000 in
theorem copyI_any (k l : Int) (v : Value) (xs : List Int) (w : World) (hv : RInts w v xs) (hl : xs.length ≤ 1048576) :
    Calls Tryz.prog 66 #[.agg #[.int .i64 k, .int .i64 l, v]] w fun e w' => ∃ u, e = .returned (.agg #[.int .i64 k, .int .i64 l, u]) ∧ ROwns w' w.heap.size 3 u (ic xs) ∧ Below w.heap.size w w' := by
  have HV := hide hv
  obtain ⟨a, c, rfl, -⟩ := hv
  have HL : Hid (xs.length ≤ 100000000000) := Nat.le_trans hl (by decide)
  clear hl
  go_enter Tryz.func66, Tryz.ntmps66
  go_wp2_with (at_builtin; refine wpList_append_copy _ rfl _ _ 56 rfl (w.heap.size + 1 + 1) 3 Tryz.underlying56 _ 1 8 Tryz.i3 rfl (by decide) (by decide) (.slice (some ⟨w.heap.size + 1 + 1, 0, none⟩) 0 0) rfl (lit0_at w _ _ 3 1) (by simp) _ rfl xs.length (ic xs) (((HV.out.alloc _).alloc _).alloc _).rc (by rw [ic_length, Nat.mul_one]) (ic_one xs) HL.out ?_; intro v' w1 R1 R2 R3; obtain ⟨a1, c1, rfl, B1, K0, K1⟩ := cp_after R1 R2; have p0 : w1.cell? ⟨w.heap.size, 0, none⟩ = some (.int .i64 k) := K0.cell 0; have p1 : w1.cell? ⟨w.heap.size, 1, none⟩ = some (.int .i64 l) := K0.cell 1; have p2 : w1.cell? ⟨w.heap.size, 2, none⟩ = some (.slice a xs.length c) := K0.cell 2; have y2 := K0.frozen 2; have q0 : w1.cell? ⟨w.heap.size + 1, 0, none⟩ = some (.int .i64 0) := K1.cell 0; have q1 : w1.cell? ⟨w.heap.size + 1, 1, none⟩ = some (.int .i64 0) := K1.cell 1; have q2 : w1.cell? ⟨w.heap.size + 1, 2, none⟩ = some (.slice none 0 0) := K1.cell 2; have z0 := K1.frozen 0; have z1 := K1.frozen 1; have z2 := K1.frozen 2; have HR := hide R1; have HB := hide B1; clear R1 R2 R3 K0 K1 B1)
  have HO : Hid (ROwns w1 (w.heap.size + 1 + 1) 3 (.slice a1 xs.length c1) (ic xs)) := by show ROwns _ _ _ _ _; unfold ROwns; rw [ic_length]; exact HR.out
  refine bodyPost_ret (v := .agg #[.int .i64 k, .int .i64 l, .slice a1 xs.length c1]) (by simp [results, go_sem, q0, q1, q2]) rfl ⟨_, rfl, ?_, ?_⟩
  · exact ((((((HO.out.setCell_other (by omega) _).setCell_other (by omega) _).setCell_other (by omega) _).setCell_other (by omega) _)).base_le (by omega))
  · exact ((((HB.out.setCell (by simp) _).setCell (by simp) _).setCell (by simp) _).setCell (by simp) _)
set_option maxRecDepth 100000 in
set_option maxHeartbeats 800000 in
theorem copyK_any (d : Bool) (t : ByteArray) (v : Value) (xs : List Sl) (w : World) (hv : RSl w v xs) (hl : xs.length ≤ 1048576) :
    Calls Tryz.prog 67 #[.agg #[.bool d, v, .string t]] w fun e w' => ∃ u, e = .returned (.agg #[.bool d, u, .string t]) ∧ SOwns w' w.heap.size 74 u xs ∧ Below w.heap.size w w' := by
  have HV := hide hv
  obtain ⟨a, c, rfl, -⟩ := hv
  have HL : Hid (xs.length ≤ 100000000000) := Nat.le_trans hl (by decide)
  clear hl
  go_enter Tryz.func67, Tryz.ntmps67
  go_wp2_with (at_builtin; refine wpList_append_copy _ rfl _ _ 68 rfl (w.heap.size + 1 + 1) 74 Tryz.underlying68 _ 2 24 Tryz.i74 rfl (by decide) (by decide) (.slice (some ⟨w.heap.size + 1 + 1, 0, none⟩) 0 0) rfl (lit0_at w _ _ 74 2) (by simp) _ rfl xs.length (sc xs) (((HV.out.alloc _).alloc _).alloc _).rc (sc_length xs) (sc_one xs) HL.out ?_; intro v' w1 R1 R2 R3; obtain ⟨a1, c1, rfl, B1, K0, K1⟩ := cp_after R1 R2; have p0 : w1.cell? ⟨w.heap.size, 0, none⟩ = some (.bool d) := K0.cell 0; have p1 : w1.cell? ⟨w.heap.size, 1, none⟩ = some (.slice a xs.length c) := K0.cell 1; have p2 : w1.cell? ⟨w.heap.size, 2, none⟩ = some (.string t) := K0.cell 2; have y2 := K0.frozen 1; have q0 : w1.cell? ⟨w.heap.size + 1, 0, none⟩ = some (.bool false) := K1.cell 0; have q1 : w1.cell? ⟨w.heap.size + 1, 1, none⟩ = some (.slice none 0 0) := K1.cell 1; have q2 : w1.cell? ⟨w.heap.size + 1, 2, none⟩ = some (.string ⟨#[]⟩) := K1.cell 2; have z0 := K1.frozen 0; have z1 := K1.frozen 1; have z2 := K1.frozen 2; have HR := hide R1; have HB := hide B1; clear R1 R2 R3 K0 K1 B1)
  have HO : Hid (SOwns w1 (w.heap.size + 1 + 1) 74 (.slice a1 xs.length c1) xs) := HR.out
  refine bodyPost_ret (v := .agg #[.bool d, .slice a1 xs.length c1, .string t]) (by simp [results, go_sem, q0, q1, q2]) rfl ⟨_, rfl, ?_, ?_⟩
  · exact ((((((HO.out.setCell_low (by omega) _).setCell_low (by omega) _).setCell_low (by omega) _).setCell_low (by omega) _)).base_le (by omega))
  · exact ((((HB.out.setCell (by simp) _).setCell (by simp) _).setCell (by simp) _).setCell (by simp) _)
/-- A block while its names are cloned: its box, the result's block, its slots. -/
structure Nb (w w' : World) (d : Bool) (t : ByteArray) (u : Value) (xs : List Sl) : Prop where
  box : AtC w' w.heap.size 70 #[.bool d, u, .string t]
  res : AtC w' (w.heap.size + 1) 70 #[.bool false, .slice none 0 0, .string ⟨#[]⟩]
  own : SOwns w' (w.heap.size + 1 + 1) 74 u xs
  bel : Below w.heap.size w w'
theorem Nb.below {w w' w1 : World} {d : Bool} {t : ByteArray} {u : Value} {xs : List Sl} (h : Nb w w' d t u xs) (hb : Below w'.heap.size w' w1) : Nb w w1 d t u xs := ⟨h.box.over hb, h.res.over hb, h.own.below hb (Nat.le_refl _), h.bel.trans (hb.mono h.bel.size)⟩
theorem Nb.set {w w' : World} {d : Bool} {t : ByteArray} {g c : Nat} {xs : List Sl} (h : Nb w w' d t (.slice (some ⟨g, 0, none⟩) xs.length c) xs) (j : Nat) (hj : j < xs.length) : Nb w (w'.setCell ⟨g, j * 2, none⟩ (.string xs[j].1)) d t (.slice (some ⟨g, 0, none⟩) xs.length c) xs := by
  have hg := (h.own.lt g rfl).1
  have h2 := (h.own.set_name j hj xs[j].1).1
  have e : xs.set j (xs[j].1, xs[j].2) = xs := by rw [show (xs[j].1, xs[j].2) = xs[j] from rfl, List.set_getElem_self]
  rw [e] at h2
  exact ⟨h.box.other (by omega) _, h.res.other (by omega) _, h2, h.bel.setCell (by show w.heap.size ≤ g; omega) _⟩
set_option maxRecDepth 100000 in
set_option maxHeartbeats 1600000 in
theorem newK_any (d : Bool) (t : ByteArray) (v : Value) (xs : List Sl) (w : World) (hv : RSl w v xs) (hB : bigB 1048576 (d, xs, t)) :
    Calls Tryz.prog 90 #[.agg #[.bool d, v, .string t]] w fun e w' => ∃ u, e = .returned (.agg #[.bool d, u, .string t]) ∧ SOwns w' w.heap.size 74 u xs ∧ Below w.heap.size w w' := by
  have HV := hide hv
  have HB := hide hB
  obtain ⟨a, c, rfl, -⟩ := hv
  have hxl : xs.length ≤ 1048576 := hB.1
  clear hB
  go_enter Tryz.func90, Tryz.ntmps90
  go_wp2_with fail
  refine (clone_any t _ (Nat.le_trans HB.out.2.2 (by decide))).mono ?_
  rintro e w1 ⟨rfl, B1⟩
  obtain ⟨k0, k1⟩ := AtC.two3 w 70 70 #[.bool d, .slice a xs.length c, .string t] #[.bool false, .slice none 0 0, .string ⟨#[]⟩] (.cells #[] 74)
  have K0 : AtC w1 w.heap.size 70 #[.bool d, .slice a xs.length c, .string t] := ((AtC.new w 70 _).alloc _).over B1
  have K1 : AtC w1 (w.heap.size + 1) 70 #[.bool false, .slice none 0 0, .string ⟨#[]⟩] := by
    have := (AtC.new (w.alloc (.cells #[.bool d, .slice a xs.length c, .string t] 70)) 70 #[.bool false, .slice none 0 0, .string ⟨#[]⟩]).over B1
    simpa using this
  have BW : Below w.heap.size w w1 := (((Below.refl _ w).alloc (Nat.le_refl _) _).alloc (by simp) _).trans (B1.mono (by simp; omega))
  have p1 : w1.cell? ⟨w.heap.size, 1, none⟩ = some (.slice a xs.length c) := K0.cell 1
  have p2 : w1.cell? ⟨w.heap.size, 2, none⟩ = some (.string t) := K0.cell 2
  have y2 := K0.frozen 2
  have KS := K0.set 2 (.string t)
  have HK : Hid (AtC (w1.setCell ⟨w.heap.size, 2, none⟩ (.string t)) w.heap.size 70 #[.bool d, .slice a xs.length c, .string t] ∧ AtC (w1.setCell ⟨w.heap.size, 2, none⟩ (.string t)) (w.heap.size + 1) 70 #[.bool false, .slice none 0 0, .string ⟨#[]⟩] ∧ Below w.heap.size w (w1.setCell ⟨w.heap.size, 2, none⟩ (.string t))) := ⟨K0.set 2 (.string t), K1.other (by omega) _, BW.setCell (by simp) _⟩
  have hsz : w.heap.size + 1 + 1 ≤ w1.heap.size := by have := B1.size; simpa using this
  have x1 := HK.out.1
  obtain ⟨W1, hW1⟩ : ∃ W1, w1.setCell ⟨w.heap.size, 2, none⟩ (.string t) = W1 := ⟨_, rfl⟩
  have hsz1 : W1.heap.size = w1.heap.size := by rw [← hW1]; simp
  rw [hW1] at HK x1
  have r1 : W1.cell? ⟨w.heap.size, 1, none⟩ = some (.slice a xs.length c) := x1.cell 1
  clear B1 K0 K1 BW KS k0 k1 x1
  go_wp2_with fail
  refine (newS_any _ xs _ (HV.out.below HK.out.2.2 (Nat.le_refl _)) HB.out.1).mono ?_
  rintro e w2 ⟨u, rfl, O2, B2⟩
  obtain ⟨a2, c2, rfl⟩ := O2.rsl.form
  have ND : Nb w (w2.setCell ⟨w.heap.size, 1, none⟩ (.slice a2 xs.length c2)) d t (.slice a2 xs.length c2) xs := by
    have O3 : SOwns w2 (w.heap.size + 1 + 1) 74 (.slice a2 xs.length c2) xs := O2.base_le (by omega)
    exact ⟨(HK.out.1.over B2).set 1 _, (HK.out.2.1.over B2).other (by omega) _, O3.setCell_low (by omega) _, (HK.out.2.2.trans (B2.mono HK.out.2.2.size)).setCell (by simp) _⟩
  have x2 := HK.out.1.over B2
  have s1 : w2.cell? ⟨w.heap.size, 1, none⟩ = some (.slice a xs.length c) := x2.cell 1
  have f1 := x2.frozen 1
  obtain ⟨W2, hW2⟩ : ∃ W2, w2.setCell ⟨w.heap.size, 1, none⟩ (.slice a2 xs.length c2) = W2 := ⟨_, rfl⟩
  rw [hW2] at ND
  have HN := hide ND
  have t1 : W2.cell? ⟨w.heap.size, 1, none⟩ = some (.slice a2 xs.length c2) := ND.box.cell 1
  clear x2 O2 B2 ND HK r1 p1 p2 y2 hW1 hsz1 hsz
  go_wp2
  go_loopw [16] (fun i wr => ∃ j : Nat, j ≤ xs.length ∧ i = .int .i64 j ∧ Hid (Nb w wr d t (.slice a2 xs.length c2) xs)) (fun i _ => xs.length - (intOf i).toNat)
  case atStart => exact ⟨0, Nat.zero_le _, rfl, HN.out⟩
  case round =>
    obtain ⟨j, hj, rfl, HR⟩ := hrel
    by_cases hlt : j < xs.length
    · obtain ⟨g, c3, e3, m1, m2, m3, m4, m5, -⟩ := HR.out.own.at j hlt
      simp only [Value.slice.injEq] at e3
      obtain ⟨rfl, -, rfl⟩ := e3
      have HZ : Hid (∀ w6, Below (wr.alloc (.cells #[.string xs[j].1, .int .i64 xs[j].2] 74)).heap.size (wr.alloc (.cells #[.string xs[j].1, .int .i64 xs[j].2] 74)) w6 → Nb w w6 d t (.slice (some ⟨g, 0, none⟩) xs.length c2) xs ∧ Nb w (w6.setCell ⟨g, j * 2, none⟩ (.string xs[j].1)) d t (.slice (some ⟨g, 0, none⟩) xs.length c2) xs ∧ AtC w6 wr.heap.size 74 #[.string xs[j].1, .int .i64 xs[j].2] ∧ AtC (w6.setCell ⟨g, j * 2, none⟩ (.string xs[j].1)) wr.heap.size 74 #[.string xs[j].1, .int .i64 xs[j].2]) := fun w6 b6 =>
        have n6 := (HR.out.below ((Below.refl _ wr).alloc (Nat.le_refl _) _)).below b6
        have a6 := (AtC.new wr 74 #[.string xs[j].1, .int .i64 xs[j].2]).over b6
        ⟨n6, n6.set j hlt, a6, a6.other (by omega) _⟩
      have HSZ : Hid (xs[j].1.size ≤ 281474976710656) := Nat.le_trans (HB.out.2.1 j hlt) (by decide)
      obtain ⟨nm, hnm⟩ : ∃ nm, xs[j].1 = nm := ⟨_, rfl⟩
      obtain ⟨z, hz⟩ : ∃ z, xs[j].2 = z := ⟨_, rfl⟩
      rw [hnm] at m1 HZ HSZ
      rw [hz] at m2 HZ
      have HS : Hid (∀ w6, Below (wr.alloc (.cells #[.string nm, .int .i64 z] 74)).heap.size (wr.alloc (.cells #[.string nm, .int .i64 z] 74)) w6 → (w6.cell? ⟨w.heap.size, 1, none⟩ = some (.slice (some ⟨g, 0, none⟩) xs.length c2) ∧ w6.cell? ⟨wr.heap.size, 0, none⟩ = some (.string nm)) ∧ ((w6.setCell ⟨g, j * 2, none⟩ (.string nm)).cell? ⟨w.heap.size, 1, none⟩ = some (.slice (some ⟨g, 0, none⟩) xs.length c2) ∧ (w6.setCell ⟨g, j * 2, none⟩ (.string nm)).cell? ⟨wr.heap.size, 0, none⟩ = some (.string nm)) ∧ w6.cell? ⟨g, j * 2, none⟩ = some (.string nm) ∧ w6.frozen? ⟨g, j * 2, none⟩ = false) := fun w6 b6 => by
        obtain ⟨h1, h2, h3, h4⟩ := HZ.out w6 b6
        obtain ⟨g', c', e', n1, n2, n3, -⟩ := h1.own.at j hlt
        simp only [Value.slice.injEq, Option.some.injEq, Addr.mk.injEq] at e'
        obtain ⟨⟨rfl, -, -⟩, -, -⟩ := e'
        rw [hnm] at n1
        exact ⟨⟨h1.box.cell 1, h3.cell 0⟩, ⟨h2.box.cell 1, h4.cell 0⟩, n1, n3 _⟩
      have b1 : wr.cell? ⟨w.heap.size, 1, none⟩ = some (.slice (some ⟨g, 0, none⟩) xs.length c2) := HR.out.box.cell 1
      have j0 : (0 : Int) ≤ (j : Int) := by omega
      have j1 : (j : Int) < (xs.length : Int) := by omega
      have hbx := HR.out.box.lt
      clear hnm hz m3 HR HV HB t1
      go_wp2_with fail
      go_region_held3 (fun w' => w'.cell? ⟨w.heap.size, 1, none⟩ = some (.slice (some ⟨g, 0, none⟩) xs.length c2) ∧ w'.cell? ⟨wr.heap.size, 0, none⟩ = some (.string nm)) (first | exact (HS.out _ (Below.refl _ _).drew).1 | exact (HS.out _ (of_drew B6)).1 | exact (HS.out _ (of_drew B6)).2.1) ((go_at_call 110; refine (clone_any nm _ HSZ.out).mono ?_; rintro e w6 ⟨rfl, B6⟩; obtain ⟨-, -, n1, n2⟩ := HS.out _ (of_drew B6)))
      have HN6 := hide (HZ.out _ (of_drew B6)).2.1
      clear B6 n1 n2
      go_wp2
      go_roundw
      case rel => exact ⟨j + 1, by omega, by go_num, HN6.out⟩
      case measure => simp [intOf]; omega
    · have q0 : wr.cell? ⟨w.heap.size, 0, none⟩ = some (.bool d) := HR.out.box.cell 0
      have q1 : wr.cell? ⟨w.heap.size, 1, none⟩ = some (.slice a2 xs.length c2) := HR.out.box.cell 1
      have q2 : wr.cell? ⟨w.heap.size, 2, none⟩ = some (.string t) := HR.out.box.cell 2
      have r0 : wr.cell? ⟨w.heap.size + 1, 0, none⟩ = some (.bool false) := HR.out.res.cell 0
      have r1 : wr.cell? ⟨w.heap.size + 1, 1, none⟩ = some (.slice none 0 0) := HR.out.res.cell 1
      have r2 : wr.cell? ⟨w.heap.size + 1, 2, none⟩ = some (.string ⟨#[]⟩) := HR.out.res.cell 2
      have z0 := HR.out.res.frozen 0
      have z1 := HR.out.res.frozen 1
      have z2 := HR.out.res.frozen 2
      clear t1
      go_wp2
      refine bodyPost_ret (v := .agg #[.bool d, .slice a2 xs.length c2, .string t]) (by simp [results, go_sem, r0, r1, r2]) rfl ⟨_, rfl, ?_, ?_⟩
      · exact (((HR.out.own.setCell_low (by omega) _).setCell_low (by omega) _).setCell_low (by omega) _).base_le (by omega)
      · exact ((HR.out.bel.setCell (by simp) _).setCell (by simp) _).setCell (by simp) _
end Go.Proofs.YtbebgnknjoclkaaGreat
/- A copy of bits: spec.l05Copy by its contract. -/
namespace Go.Proofs.YtbebgnknjoclkaaGreat.Kit
open Go.RowKit
/-- A new list without any. -/
def MkE (T : TypeId) : Mk := .val [] (fun lo hi w v => v = .slice (some ⟨lo, 0, none⟩) 0 0 ∧ hi = lo + 1 ∧ AtC w lo T #[]) (fun _ _ _ _ _ h hb => ⟨h.1, h.2.1, h.2.2.over hb⟩)
/-- A copy of flags, appended to a new list without any (the k-th operation's). -/
def MkC (k j : Nat) (xs : List Bool) (B : Nat) : Mk := .val1 [k, j] k (by simp) (fun lo hi w u v => ∃ a c, v = .slice a xs.length c ∧ ROwns w B 4 v (fc xs) ∧ ∀ i, v.ownBlock = some i → (lo ≤ i ∧ i < hi) ∨ u.ownBlock = some i)
  (fun _ _ _ _ _ _ h hb => by obtain ⟨a, c, h1, h2, h3⟩ := h; exact ⟨a, c, h1, h2.below hb (Nat.le_refl _), h3⟩)
theorem AtC.empty {w : World} {g : Nat} {T : TypeId} (h : AtC w g T #[]) (B : Nat) (hB : B ≤ g) (m : Nat) : w.ownsRow B T m (.slice (some ⟨g, 0, none⟩) 0 0) 0 [] :=
  ⟨by simp, .inr ⟨g, 0, #[], rfl, hB, h, Nat.le_refl _, Nat.zero_le _, by simp, by simp⟩⟩
end Go.Proofs.YtbebgnknjoclkaaGreat.Kit
namespace Go.Proofs.YtbebgnknjoclkaaGreat
open Go.RowKit Kit
set_option maxRecDepth 100000 in
set_option maxHeartbeats 1600000 in
theorem copyB_any (u v : Value) (xs ys : List Bool) (w : World) (hu : RFl w u xs) (hv : RFl w v ys) (hx : xs.length ≤ 1048576) (hy : ys.length ≤ 1048576) :
    Calls Tryz.prog 65 #[.agg #[u, v]] w fun e w' => ∃ u' v', e = .returned (.agg #[u', v']) ∧ Two w' w.heap.size u' v' xs ys ∧ Below w.heap.size w w' := by
  have HU := hide hu
  have HV := hide hv
  obtain ⟨a1, c1, rfl, -⟩ := hu
  obtain ⟨a2, c2, rfl, -⟩ := hv
  have HX : Hid (xs.length ≤ 100000000000) := Nat.le_trans hx (by decide)
  have HY : Hid (ys.length ≤ 100000000000) := Nat.le_trans hy (by decide)
  clear hx hy
  go_enter Tryz.func65, Tryz.ntmps65
  go_wp2_with fail
  have HC : Hid (∀ W, Below ((w.alloc (.cells #[.slice a1 xs.length c1, .slice a2 ys.length c2] 30)).alloc (.cells #[.slice none 0 0, .slice none 0 0] 30)).drew.heap.size ((w.alloc (.cells #[.slice a1 xs.length c1, .slice a2 ys.length c2] 30)).alloc (.cells #[.slice none 0 0, .slice none 0 0] 30)).drew W → AtC W w.heap.size 30 #[.slice a1 xs.length c1, .slice a2 ys.length c2] ∧ AtC W (w.heap.size + 1) 30 #[.slice none 0 0, .slice none 0 0] ∧ Below w.heap.size w W ∧ w.heap.size + 1 + 1 ≤ W.heap.size) := fun W b => by
    have b2 := of_drew b
    have k1 := (AtC.new (w.alloc (.cells #[.slice a1 xs.length c1, .slice a2 ys.length c2] 30)) 30 #[.slice none 0 0, .slice none 0 0]).over b2
    have sz := b2.size
    simp at k1 sz
    exact ⟨((AtC.new w 30 _).alloc _).over b2, k1, (((Below.refl _ w).alloc (Nat.le_refl _) _).alloc (by simp) _).trans (b2.mono (by simp; omega)), sz⟩
  refine wp_region_mks (by kernel_rfl) [0, 1, 2, 3, 4, 5, 6, 7] [8, 9] [3, 4, 5, 6, 7, 8, 9, 10] (fun i => match i with | 0 => MkE 4 | 1 => .const [] (.pointer (some ⟨w.heap.size, 0, none⟩)) | 2 => .const [1] (.slice a1 xs.length c1) | 3 => MkC 0 2 xs (w.heap.size + 1 + 1) | 4 => MkE 4 | 5 => .const [] (.pointer (some ⟨w.heap.size, 1, none⟩)) | 6 => .const [5] (.slice a2 ys.length c2) | 7 => MkC 4 6 ys (w.heap.size + 1 + 1) | _ => .triv) (by kernel_rfl) (by kernel_rfl) (by kernel_rfl) (by kernel_rfl) rfl ?_ ?_
  · intro j hj s x iv W hd hp K hK
    simp only [List.mem_cons, List.not_mem_nil, or_false] at hj
    rcases hj with rfl | rfl | rfl | rfl | rfl | rfl | rfl | rfl
    · refine wpOp_step (o := _) rfl fun K' hK' => ?_
      have HK := hide (fun v W' h1 h2 => hK' _ _ (hK v W' h1 h2))
      clear hK hK' hp hd
      simp only [actOf]
      go_simp
      have F := HK.out (.slice (some ⟨W.heap.size, 0, none⟩) 0 0) (W.alloc (.cells #[] 4)) ((Below.refl _ W).alloc (Nat.le_refl _) _) ⟨rfl, by simp, AtC.new W 4 _⟩
      simp [go_sem, actOf, upd] at F
      exact F
    · refine wpOp_step (o := _) rfl fun K' hK' => ?_
      have HK := hide (fun v W' h1 h2 => hK' _ _ (hK v W' h1 h2))
      clear hK hK' hp hd
      simp only [actOf]
      go_simp
      have F := HK.out (.pointer (some ⟨w.heap.size, 0, none⟩)) W (Below.refl _ _) rfl
      simp [go_sem, actOf, upd] at F
      exact F
    · refine wpOp_step (o := _) rfl fun K' hK' => ?_
      have HK := hide (fun v W' h1 h2 => hK' _ _ (hK v W' h1 h2))
      have e1 : x 1 = .pointer (some ⟨w.heap.size, 0, none⟩) := hp.post 1 (hd 1 (show 1 ∈ [1] from by decide))
      have q0 : W.cell? ⟨w.heap.size, 0, none⟩ = some (.slice a1 xs.length c1) := (HC.out W hp.bel).1.cell 0
      clear hK hK' hp hd
      simp only [actOf]
      go_simp
      have F := HK.out (.slice a1 xs.length c1) W (Below.refl _ _) rfl
      simp [go_sem, actOf, upd, e1] at F
      exact F
    · refine wpOp_step (o := _) rfl fun K' hK' => ?_
      have HK := hide (fun v W' h1 h2 => hK' _ _ (hK v W' h1 h2))
      have e0 : x 0 = .slice (some ⟨(iv 0).1, 0, none⟩) 0 0 ∧ (iv 0).2 = (iv 0).1 + 1 ∧ AtC W (iv 0).1 4 #[] := hp.post 0 (hd 0 (show 0 ∈ [0, 2] from by decide))
      have e2 : x 2 = .slice a1 xs.length c1 := hp.post 2 (hd 2 (show 2 ∈ [0, 2] from by decide))
      have bl := HC.out W hp.bel
      have l0 := (hp.lo 0 (hd 0 (show 0 ∈ [0, 2] from by decide))).1
      simp [World.drew] at l0
      clear hK hK' hp hd
      obtain ⟨f0, -, A0⟩ := e0
      simp only [actOf, Act.put, List.setIfInBounds_toArray, List.set_cons_succ, List.set_cons_zero, Nat.reduceAdd, List.getElem_toArray, List.getElem_cons_succ, List.getElem_cons_zero]
      refine step_append_copy0 (a := ⟨_, []⟩) W rfl (.tmp 3) (.tmp 5) 22 rfl (w.heap.size + 1 + 1) 4 Tryz.underlying22 _ 1 1 Tryz.i4 rfl (by decide) (by decide) (some ⟨(iv 0).1, 0, none⟩) (by exact f0) (A0.empty _ (by omega) 1) bl.2.2.2 (.slice a1 xs.length c1) (by exact e2) xs.length (fc xs) (HU.out.below bl.2.2.1 (Nat.le_refl _)).rc (by rw [fc_length, Nat.mul_one]) (fc_one xs) HX.out ?_
      intro v' w' R1 R2 R3
      have O1 : ROwns w' (w.heap.size + 1 + 1) 4 v' (fc xs) := by unfold ROwns; rw [fc_length]; exact R1
      obtain ⟨a3, c3, e3⟩ := O1.rfl.form
      have F := HK.out v' w' R2 ⟨a3, c3, e3, O1, fun i hi => R3.elim (fun e => .inr (by rw [upd_ne _ _ _ _ (by decide), f0]; rw [hi] at e; exact e.symm)) (fun e => .inl ⟨by rw [hi] at e; cases e; exact Nat.le_refl _, (O1.lt i hi).2⟩)⟩
      simp [go_sem, actOf, upd] at F
      simp only [Act.put, List.setIfInBounds_toArray, List.set_cons_succ, List.set_cons_zero]
      exact F
    · refine wpOp_step (o := _) rfl fun K' hK' => ?_
      have HK := hide (fun v W' h1 h2 => hK' _ _ (hK v W' h1 h2))
      clear hK hK' hp hd
      simp only [actOf]
      go_simp
      have F := HK.out (.slice (some ⟨W.heap.size, 0, none⟩) 0 0) (W.alloc (.cells #[] 4)) ((Below.refl _ W).alloc (Nat.le_refl _) _) ⟨rfl, by simp, AtC.new W 4 _⟩
      simp [go_sem, actOf, upd] at F
      exact F
    · refine wpOp_step (o := _) rfl fun K' hK' => ?_
      have HK := hide (fun v W' h1 h2 => hK' _ _ (hK v W' h1 h2))
      clear hK hK' hp hd
      simp only [actOf]
      go_simp
      have F := HK.out (.pointer (some ⟨w.heap.size, 1, none⟩)) W (Below.refl _ _) rfl
      simp [go_sem, actOf, upd] at F
      exact F
    · refine wpOp_step (o := _) rfl fun K' hK' => ?_
      have HK := hide (fun v W' h1 h2 => hK' _ _ (hK v W' h1 h2))
      have e5 : x 5 = .pointer (some ⟨w.heap.size, 1, none⟩) := hp.post 5 (hd 5 (show 5 ∈ [5] from by decide))
      have q0 : W.cell? ⟨w.heap.size, 1, none⟩ = some (.slice a2 ys.length c2) := (HC.out W hp.bel).1.cell 1
      clear hK hK' hp hd
      simp only [actOf]
      go_simp
      have F := HK.out (.slice a2 ys.length c2) W (Below.refl _ _) rfl
      simp [go_sem, actOf, upd, e5] at F
      exact F
    · refine wpOp_step (o := _) rfl fun K' hK' => ?_
      have HK := hide (fun v W' h1 h2 => hK' _ _ (hK v W' h1 h2))
      have e4 : x 4 = .slice (some ⟨(iv 4).1, 0, none⟩) 0 0 ∧ (iv 4).2 = (iv 4).1 + 1 ∧ AtC W (iv 4).1 4 #[] := hp.post 4 (hd 4 (show 4 ∈ [4, 6] from by decide))
      have e6 : x 6 = .slice a2 ys.length c2 := hp.post 6 (hd 6 (show 6 ∈ [4, 6] from by decide))
      have bl := HC.out W hp.bel
      have l0 := (hp.lo 4 (hd 4 (show 4 ∈ [4, 6] from by decide))).1
      simp [World.drew] at l0
      clear hK hK' hp hd
      obtain ⟨f0, -, A0⟩ := e4
      simp only [actOf, Act.put, List.setIfInBounds_toArray, List.set_cons_succ, List.set_cons_zero, Nat.reduceAdd, List.getElem_toArray, List.getElem_cons_succ, List.getElem_cons_zero]
      refine step_append_copy0 (a := ⟨_, []⟩) W rfl (.tmp 7) (.tmp 9) 22 rfl (w.heap.size + 1 + 1) 4 Tryz.underlying22 _ 1 1 Tryz.i4 rfl (by decide) (by decide) (some ⟨(iv 4).1, 0, none⟩) (by exact f0) (A0.empty _ (by omega) 1) bl.2.2.2 (.slice a2 ys.length c2) (by exact e6) ys.length (fc ys) (HV.out.below bl.2.2.1 (Nat.le_refl _)).rc (by rw [fc_length, Nat.mul_one]) (fc_one ys) HY.out ?_
      intro v' w' R1 R2 R3
      have O1 : ROwns w' (w.heap.size + 1 + 1) 4 v' (fc ys) := by unfold ROwns; rw [fc_length]; exact R1
      obtain ⟨a3, c3, e3⟩ := O1.rfl.form
      have F := HK.out v' w' R2 ⟨a3, c3, e3, O1, fun i hi => R3.elim (fun e => .inr (by rw [upd_ne _ _ _ _ (by decide), f0]; rw [hi] at e; exact e.symm)) (fun e => .inl ⟨by rw [hi] at e; cases e; exact Nat.le_refl _, (O1.lt i hi).2⟩)⟩
      simp [go_sem, actOf, upd] at F
      simp only [Act.put, List.setIfInBounds_toArray, List.set_cons_succ, List.set_cons_zero]
      exact F
  · intro x iv W hp
    obtain ⟨a3, c3, e3, O3, own3⟩ := hp.post 3 (by decide)
    obtain ⟨a7, c7, e7, O7, own7⟩ := hp.post 7 (by decide)
    obtain ⟨f0, z0, -⟩ := hp.post 0 (by decide)
    obtain ⟨f4, z4, -⟩ := hp.post 4 (by decide)
    have p04 := hp.apart 0 (by decide) 4 (by decide) (by decide)
    have p07 := hp.apart 0 (by decide) 7 (by decide) (by decide)
    have p34 := hp.apart 3 (by decide) 4 (by decide) (by decide)
    have p37 := hp.apart 3 (by decide) 7 (by decide) (by decide)
    have l3 := (hp.lo 3 (by decide)).2.1
    have l7 := (hp.lo 7 (by decide)).2.1
    have hne : ∀ k, (x 3).ownBlock = some k → (x 7).ownBlock ≠ some k := fun k h1 h2 => by
      have q3 := own3 k h1
      have q7 := own7 k h2
      rw [f0] at q3
      rw [f4] at q7
      simp only [Value.ownBlock, Option.some.injEq] at q3 q7
      omega
    obtain ⟨k0, k1, bel, -⟩ := HC.out W hp.bel
    rw [e3] at O3 hne
    rw [e7] at O7 hne
    have HT : Hid (Two W (w.heap.size + 1 + 1) (.slice a3 xs.length c3) (.slice a7 ys.length c7) xs ys ∧ Below w.heap.size w W) := ⟨⟨O3, O7, hne⟩, bel⟩
    have r0 : W.cell? ⟨w.heap.size + 1, 0, none⟩ = some (.slice none 0 0) := k1.cell 0
    have r1 : W.cell? ⟨w.heap.size + 1, 1, none⟩ = some (.slice none 0 0) := k1.cell 1
    have z5 := k1.frozen 0
    have z6 := k1.frozen 1
    clear hp own3 own7 O3 O7 hne k0 k1 bel f0 f4 z0 z4 p04 p07 p34 p37 l3 l7
    simp only [actOf, e3, e7]
    go_wp2_with fail
    rw [List.filterMap_nil]
    go_wp2
    refine bodyPost_ret (v := .agg #[.slice a3 xs.length c3, .slice a7 ys.length c7]) (by simp [results, go_sem, r0, r1]) rfl ⟨_, _, rfl, ?_, ?_⟩
    · exact ((HT.out.1.set_other (by omega) _).set_other (by omega) _).base_le (by omega)
    · exact (HT.out.2.setCell (by simp) _).setCell (by simp) _
end Go.Proofs.YtbebgnknjoclkaaGreat
/- A disk of memory of its own, into which an inode or a block is put. No Go function is spoken of. -/
namespace Go.Proofs.YtbebgnknjoclkaaGreat.Kit
open Go.RowKit
theorem TOwns.of_at {w : World} {e : TypeId} {g : Nat} {cs : Array Value} {ts : List V3} (h : AtC w g e cs) (hc : cs.toList = f3 ts) (hm : ts.length ≤ maxLen) : TOwns w e (.slice (some ⟨g, 0, none⟩) ts.length ts.length) ts := by
  have hs : cs.size = ts.length * 3 := by rw [← Array.length_toList, hc, f3_length]
  refine ⟨by rw [f3_length], .inr ⟨g, ts.length, cs, rfl, Nat.zero_le _, h, Nat.le_refl _, hm, hs, ?_⟩⟩
  rw [hc, List.take_of_length_le (by rw [f3_length]; exact Nat.le_refl _)]
/-- As many of one kind, in one block, without memory of their own. -/
theorem GO.of_at {α : Type} {K : Kd α} {w : World} {g n : Nat} {cs : Array Value} {z : V3} {x : α} (h : AtC w g K.T cs) (hc : cs.toList = f3 (List.replicate n z)) (hm : n ≤ maxLen) (hO : K.O w z x) (hz : (K.p z).ownBlock = none) :
    GO K w (fun k => k = g) (.slice (some ⟨g, 0, none⟩) n n) (List.replicate n z) (List.replicate n x) := by
  refine ⟨by simp, ?_, fun j hj hj' => ?_, fun i j hi hj _ k e => ?_, fun j hj k e => ?_, fun k e => ?_, fun j hj k e => ?_⟩
  · have := TOwns.of_at (ts := List.replicate n z) h hc (by simpa using hm)
    simpa using this
  · simp only [List.getElem_replicate]
    exact hO
  · simp only [List.getElem_replicate] at e
    rw [hz] at e; cases e
  · simp only [List.getElem_replicate] at e
    rw [hz] at e; cases e
  · simpa [Value.ownBlock] using e.symm
  · simp only [List.getElem_replicate] at e
    rw [hz] at e; cases e
theorem DO.two {w : World} {S : Nat → Prop} {u v iv bv : Value} {xs ys : List Bool} {is : List Ino} {bs : List Blk} (h : DO w S u v iv bv xs ys is bs) : Two w 0 u v xs ys := by
  obtain ⟨S1, S2, S3, ti, tb, h1, -⟩ := h
  exact h1
/-- The cells of an inode's place, and that they may be written. -/
theorem DO.atI {w : World} {S : Nat → Prop} {u v iv bv : Value} {xs ys : List Bool} {is : List Ino} {bs : List Blk} (h : DO w S u v iv bv xs ys is bs) {g n cap : Nat} (hv : iv = .slice (some ⟨g, 0, none⟩) n cap) (j : Nat) (hj : j < is.length) :
    (∃ a b p, w.cell? ⟨g, j * 3, none⟩ = some (.int .i64 a) ∧ w.cell? ⟨g, j * 3 + 1, none⟩ = some (.int .i64 b) ∧ w.cell? ⟨g, j * 3 + 2, none⟩ = some p ∧ a = is[j].1 ∧ b = is[j].2.1 ∧ RInts w p is[j].2.2) ∧ (∀ k, w.frozen? ⟨g, k, none⟩ = false) ∧ g < w.heap.size ∧ n = is.length ∧ S g := by
  obtain ⟨S1, S2, S3, ti, tb, h1, -, hi, -, -, -, hU⟩ := h
  have hl := hi.len
  obtain ⟨g', c', e', k1, k2, k3, k4, k5, -⟩ := hi.row.at j (by omega)
  rw [hv] at e'
  simp only [Value.slice.injEq, Option.some.injEq, Addr.mk.injEq] at e'
  obtain ⟨⟨rfl, -⟩, hn, -⟩ := e'
  obtain ⟨i1, i2, i3⟩ := hi.inn j (by omega) hj
  exact ⟨⟨_, _, _, by rw [k1, i1], by rw [k2, i2], k3, rfl, rfl, i3.rints⟩, k4, k5, by omega, hU _ (.inr (.inl (hi.so _ (by rw [hv]; rfl))))⟩
theorem DO.atB {w : World} {S : Nat → Prop} {u v iv bv : Value} {xs ys : List Bool} {is : List Ino} {bs : List Blk} (h : DO w S u v iv bv xs ys is bs) {g n cap : Nat} (hv : bv = .slice (some ⟨g, 0, none⟩) n cap) (j : Nat) (hj : j < bs.length) :
    (∃ a p t, w.cell? ⟨g, j * 3, none⟩ = some (.bool a) ∧ w.cell? ⟨g, j * 3 + 1, none⟩ = some p ∧ w.cell? ⟨g, j * 3 + 2, none⟩ = some (.string t) ∧ a = bs[j].1 ∧ t = bs[j].2.2 ∧ RSl w p bs[j].2.1) ∧ (∀ k, w.frozen? ⟨g, k, none⟩ = false) ∧ g < w.heap.size ∧ n = bs.length ∧ S g := by
  obtain ⟨S1, S2, S3, ti, tb, h1, -, -, hi, -, -, hU⟩ := h
  have hl := hi.len
  obtain ⟨g', c', e', k1, k2, k3, k4, k5, -⟩ := hi.row.at j (by omega)
  rw [hv] at e'
  simp only [Value.slice.injEq, Option.some.injEq, Addr.mk.injEq] at e'
  obtain ⟨⟨rfl, -⟩, hn, -⟩ := e'
  obtain ⟨i1, i2, i3⟩ := hi.inn j (by omega) hj
  exact ⟨⟨_, _, _, by rw [k1, i1], k2, by rw [k3, i3], rfl, rfl, i2.rsl⟩, k4, k5, by omega, hU _ (.inr (.inr (hi.so _ (by rw [hv]; rfl))))⟩
/-- An inode of new memory is put in its place. -/
theorem DO.putI {w w1 : World} {S : Nat → Prop} {u v iv bv : Value} {xs ys : List Bool} {is : List Ino} {bs : List Blk} (h : DO w S u v iv bv xs ys is bs) {g n cap : Nat} (hv : iv = .slice (some ⟨g, 0, none⟩) n cap) (j : Nat) (hj : j < is.length) (t' : V3) (x' : Ino)
    (hb : Below w.heap.size w w1) (hO : KI.O w1 t' x') (hn : ∀ k, t'.2.2.ownBlock = some k → w.heap.size ≤ k) :
    DO (((w1.setCell ⟨g, j * 3, none⟩ t'.1).setCell ⟨g, j * 3 + 1, none⟩ t'.2.1).setCell ⟨g, j * 3 + 2, none⟩ t'.2.2) (fun k => S k ∨ w.heap.size ≤ k) u v iv bv xs ys (is.set j x') bs := by
  obtain ⟨S1, S2, S3, ti, tb, h1, hs1, hi, hk, d1, d2, hU⟩ := h
  have hg : g < w.heap.size := hi.row.lt g (by rw [hv]; rfl)
  have hg2 : S2 g := hi.so g (by rw [hv]; rfl)
  have hoth : ∀ k, k < w.heap.size → k ≠ g → (((w1.setCell ⟨g, j * 3, none⟩ t'.1).setCell ⟨g, j * 3 + 1, none⟩ t'.2.1).setCell ⟨g, j * 3 + 2, none⟩ t'.2.2).heap[k]? = w.heap[k]? := fun k hk1 hk =>
    (((heap_setCell_other _ ⟨g, j * 3 + 2, none⟩ k _ (by simpa using hk)).trans (heap_setCell_other _ ⟨g, j * 3 + 1, none⟩ k _ (by simpa using hk))).trans (heap_setCell_other _ ⟨g, j * 3, none⟩ k _ (by simpa using hk))).trans (hb.block k hk1)
  have h12 : ∀ m, (u.ownBlock = some m ∨ v.ownBlock = some m) → m < w.heap.size := fun m hm => hm.elim (fun e => (h1.a.lt m e).2) (fun e => (h1.b.lt m e).2)
  have hi2 := hi.bound.put hv j (by rw [hi.len]; exact hj) t' x' hb hO hn (S' := fun k => (S2 k ∧ k < w.heap.size) ∨ w.heap.size ≤ k) (fun k hk => .inl hk) (fun k hk => .inr hk)
  refine ⟨fun k => u.ownBlock = some k ∨ v.ownBlock = some k, _, fun k => S3 k ∧ k < w.heap.size, _, tb, ⟨h1.a.of_heap fun k hk => hoth k (h12 k (.inl hk)) (fun e => (d1 k (hs1 k (.inl hk))).1 (e ▸ hg2)), h1.b.of_heap fun k hk => hoth k (h12 k (.inr hk)) (fun e => (d1 k (hs1 k (.inr hk))).1 (e ▸ hg2)), h1.ne⟩, fun k hk => hk, hi2, hk.bound.of_heap fun k hk hlt => hoth k hlt (fun e => d2 g hg2 (e ▸ hk.1)), fun k hk => ⟨fun e => ?_, fun e => (d1 k (hs1 k hk)).2 e.1⟩, fun k hk e => ?_, fun k hk => ?_⟩
  · rcases e with e | e
    · exact (d1 k (hs1 k hk)).1 e.1
    · have := h12 k hk; omega
  · rcases hk with hk | hk
    · exact d2 k hk.1 e.1
    · have := e.2; omega
  · rcases hk with hk | (hk | hk) | hk
    · exact .inl (hU k (.inl (hs1 k hk)))
    · exact .inl (hU k (.inr (.inl hk.1)))
    · exact .inr hk
    · exact .inl (hU k (.inr (.inr hk.1)))
/-- A block of new memory is put in its place. -/
theorem DO.putB {w w1 : World} {S : Nat → Prop} {u v iv bv : Value} {xs ys : List Bool} {is : List Ino} {bs : List Blk} (h : DO w S u v iv bv xs ys is bs) {g n cap : Nat} (hv : bv = .slice (some ⟨g, 0, none⟩) n cap) (j : Nat) (hj : j < bs.length) (t' : V3) (x' : Blk)
    (hb : Below w.heap.size w w1) (hO : KB.O w1 t' x') (hn : ∀ k, t'.2.1.ownBlock = some k → w.heap.size ≤ k) :
    DO (((w1.setCell ⟨g, j * 3, none⟩ t'.1).setCell ⟨g, j * 3 + 1, none⟩ t'.2.1).setCell ⟨g, j * 3 + 2, none⟩ t'.2.2) (fun k => S k ∨ w.heap.size ≤ k) u v iv bv xs ys is (bs.set j x') := by
  obtain ⟨S1, S2, S3, ti, tb, h1, hs1, hi, hk, d1, d2, hU⟩ := h
  have hg : g < w.heap.size := hk.row.lt g (by rw [hv]; rfl)
  have hg3 : S3 g := hk.so g (by rw [hv]; rfl)
  have hoth : ∀ k, k < w.heap.size → k ≠ g → (((w1.setCell ⟨g, j * 3, none⟩ t'.1).setCell ⟨g, j * 3 + 1, none⟩ t'.2.1).setCell ⟨g, j * 3 + 2, none⟩ t'.2.2).heap[k]? = w.heap[k]? := fun k hk1 hk =>
    (((heap_setCell_other _ ⟨g, j * 3 + 2, none⟩ k _ (by simpa using hk)).trans (heap_setCell_other _ ⟨g, j * 3 + 1, none⟩ k _ (by simpa using hk))).trans (heap_setCell_other _ ⟨g, j * 3, none⟩ k _ (by simpa using hk))).trans (hb.block k hk1)
  have h12 : ∀ m, (u.ownBlock = some m ∨ v.ownBlock = some m) → m < w.heap.size := fun m hm => hm.elim (fun e => (h1.a.lt m e).2) (fun e => (h1.b.lt m e).2)
  have hk2 := hk.bound.put hv j (by rw [hk.len]; exact hj) t' x' hb hO hn (S' := fun k => (S3 k ∧ k < w.heap.size) ∨ w.heap.size ≤ k) (fun k hk => .inl hk) (fun k hk => .inr hk)
  refine ⟨fun k => u.ownBlock = some k ∨ v.ownBlock = some k, fun k => S2 k ∧ k < w.heap.size, _, ti, _, ⟨h1.a.of_heap fun k hk => hoth k (h12 k (.inl hk)) (fun e => (d1 k (hs1 k (.inl hk))).2 (e ▸ hg3)), h1.b.of_heap fun k hk => hoth k (h12 k (.inr hk)) (fun e => (d1 k (hs1 k (.inr hk))).2 (e ▸ hg3)), h1.ne⟩, fun k hk => hk, hi.bound.of_heap fun k hk hlt => hoth k hlt (fun e => d2 k hk.1 (e.symm ▸ hg3)), hk2, fun k hk => ⟨fun e => (d1 k (hs1 k hk)).1 e.1, fun e => ?_⟩, fun k hk e => ?_, fun k hk => ?_⟩
  · rcases e with e | e
    · exact (d1 k (hs1 k hk)).2 e.1
    · have := h12 k hk; omega
  · rcases e with e | e
    · exact d2 k hk.1 e.1
    · have := hk.2; omega
  · rcases hk with hk | hk | (hk | hk)
    · exact .inl (hU k (.inl (hs1 k hk)))
    · exact .inl (hU k (.inr (.inl hk.1)))
    · exact .inl (hU k (.inr (.inr hk.1)))
    · exact .inr hk
end Go.Proofs.YtbebgnknjoclkaaGreat.Kit
/- 'xs = append(xs, x)' of inodes or blocks: the step's law, and what it makes of a list and of a disk of memory of their own. No Go function is spoken of. -/
namespace Go.Proofs.YtbebgnknjoclkaaGreat.Kit
open Go.RowKit
theorem step_append_three {P : Program} (W : World) {ops : Array Oper} {o : Oper} {a : Act} {K : Act → World → Prop} {Q : Exit → Act → World → Prop} {E : Prop} (hgd : o.guard = none) (s x : Operand) (t : TypeId)
    (ho : o.op = .call { callee := .builtin .append, args := #[s, x], argTypes := #[t, t] }) (e : TypeId) (ht : P.underlying t = some (.slice e)) (z : Value) (bytes : Nat)
    (hi : (P.info? e).map (fun i => (i.zero, i.size, i.bytes)) = some (some z, 3, bytes)) (hzc : z.cells.size = 3) (hby : bytes ≤ 64) (v : Value) (ts : List V3) (hs : a.eval s = v) (hown : TOwns W e v ts)
    (g : Nat) (y : V3) (hx : a.eval x = .slice (some ⟨g, 0, none⟩) 1 1) (hc : W.cell? ⟨g, 0, none⟩ = some y.1 ∧ W.cell? ⟨g, 1, none⟩ = some y.2.1 ∧ W.cell? ⟨g, 2, none⟩ = some y.2.2) (h1 : y.1.oneCell' = true ∧ y.2.1.oneCell' = true ∧ y.2.2.oneCell' = true) (hl : ts.length ≤ 1000000000000)
    (h : ∀ v' w', TOwns w' e v' (ts ++ [y]) → W.grownBy w' v.ownBlock → (∀ k, v'.ownBlock = some k → v.ownBlock = some k ∨ W.heap.size ≤ k) → K (a.put o.dst v') w') :
    if Region.wanted o (yielded ops a.tmps) = true then Oper.wp P o a W K Q else E := by
  obtain ⟨i0, hi, hz0, hz1, hz2⟩ := info_parts hi
  have hown2 : W.ownsRow 0 e 3 v ts.length (f3 ts) := hown
  refine step_append_lies _ hgd s x t ho 0 e i0 z 3 bytes ht hi hz0 hz1 hz2 hzc (by decide) v ts.length (f3 ts) hs hown2 ⟨g, 0, none⟩ 1 1 (f3 [y]) hx rfl ?_ ?_ (by decide) ?_ ?_ (Nat.zero_le _) W.heap.size rfl ?_
  · intro j u hj
    match j, hj with
    | 0, hj => simp [f3] at hj; subst hj; simpa [Addr.add] using hc.1
    | 1, hj => simp [f3] at hj; subst hj; simpa [Addr.add] using hc.2.1
    | 2, hj => simp [f3] at hj; subst hj; simpa [Addr.add] using hc.2.2
    | j + 3, hj => simp [f3] at hj
  · intro u hu
    simp only [f3, List.mem_cons, List.not_mem_nil, or_false] at hu
    rcases hu with rfl | rfl | rfl
    · exact h1.1
    · exact h1.2.1
    · exact h1.2.2
  · unfold maxLen; omega
  · have : (ts.length + 1) * bytes ≤ 1000000000001 * 64 := Nat.mul_le_mul (by omega) hby
    omega
  · intro g' cap w' hown' hgrow hat _
    refine h _ w' ?_ hgrow fun k hk => ?_
    · unfold TOwns
      rw [List.length_append, f3_append]
      exact hown'
    · simp only [Value.ownBlock, Option.some.injEq] at hk
      subst hk
      rcases hat with hat | hat
      · exact .inl hat
      · exact .inr (by omega)
theorem GO.append {α : Type} {K : Kd α} {w w1 w2 : World} {S : Nat → Prop} {v v' : Value} {ts : List V3} {xs : List α} {t' : V3} {x' : α} (h : GO K w S v ts xs) (hb : Below w.heap.size w w1) (hO : K.O w1 t' x') (hn : ∀ k, (K.p t').ownBlock = some k → w.heap.size ≤ k)
    (hr : TOwns w2 K.T v' (ts ++ [t'])) (hg : w1.grownBy w2 v.ownBlock) (hv : ∀ k, v'.ownBlock = some k → v.ownBlock = some k ∨ w1.heap.size ≤ k) : GO K w2 (fun k => (S k ∧ k < w.heap.size) ∨ w.heap.size ≤ k) v' (ts ++ [t']) (xs ++ [x']) := by
  have hl := h.len
  have hsz := hb.size
  have hlt : ∀ (i : Nat) (hi : i < ts.length) (k : Nat), (K.p ts[i]).ownBlock = some k → k < w.heap.size := fun i hi k hk => K.lt (h.inn i hi (by omega)) k hk
  have hlt' : ∀ k, (K.p t').ownBlock = some k → k < w1.heap.size := fun k hk => K.lt hO k hk
  have hvl : ∀ k, v.ownBlock = some k → k < w.heap.size := h.row.lt
  have at_l : ∀ (i : Nat) (hi : i < (ts ++ [t']).length), (∃ h' : i < ts.length, (ts ++ [t'])[i] = ts[i]) ∨ (i = ts.length ∧ (ts ++ [t'])[i] = t') := fun i hi => by
    by_cases e : i < ts.length
    · exact .inl ⟨e, List.getElem_append_left e⟩
    · have e2 : i = ts.length := by simp at hi; omega
      refine .inr ⟨e2, ?_⟩
      subst e2
      simp
  refine ⟨by simp [hl], hr, fun i hi hi' => ?_, fun i j hi hj hne k e1 e2 => ?_, fun i hi k e1 e2 => ?_, fun k e => ?_, fun i hi k e => ?_⟩
  · rcases at_l i hi with ⟨h', e⟩ | ⟨rfl, e⟩
    · rw [e, List.getElem_append_left (by omega)]
      exact K.heap (h.inn i h' (by omega)) fun k hk => (hg.block k (by have := hlt i h' k hk; omega) (fun e => h.out i h' k hk e.symm)).trans (hb.block k (hlt i h' k hk))
    · have e2 : (xs ++ [x'])[ts.length] = x' := by simp [hl]
      rw [e, e2]
      exact K.heap hO fun k hk => hg.block k (hlt' k hk) (fun e => by have := hvl k e.symm; have := hn k hk; omega)
  · rcases at_l i hi with ⟨h1, q1⟩ | ⟨q0, q1⟩ <;> rcases at_l j hj with ⟨h2, q2⟩ | ⟨q3, q2⟩ <;> rw [q1] at e1 <;> rw [q2] at e2
    · exact h.sep i j h1 h2 hne k e1 e2
    · have := hlt i h1 k e1; have := hn k e2; omega
    · have := hlt j h2 k e2; have := hn k e1; omega
    · omega
  · rcases at_l i hi with ⟨h1, q1⟩ | ⟨q0, q1⟩ <;> rw [q1] at e1
    · rcases hv k e2 with q | q
      · exact h.out i h1 k e1 q
      · have := hlt i h1 k e1; omega
    · rcases hv k e2 with q | q
      · have := hvl k q; have := hn k e1; omega
      · have := hlt' k e1; omega
  · rcases hv k e with q | q
    · exact .inl ⟨h.so k q, hvl k q⟩
    · exact .inr (by omega)
  · rcases at_l i hi with ⟨h1, q1⟩ | ⟨q0, q1⟩ <;> rw [q1] at e
    · exact .inl ⟨h.si i h1 k e, hlt i h1 k e⟩
    · exact .inr (hn k e)
/-- An inode of new memory is appended. -/
theorem DO.appI {w : World} {S : Nat → Prop} {u v iv bv : Value} {xs ys : List Bool} {is : List Ino} {bs : List Blk} (h : DO w S u v iv bv xs ys is bs) :
    ∃ ti, TOwns w 65 iv ti ∧ ti.length = is.length ∧ ∀ (w1 w2 : World) (iv' : Value) (t' : V3) (x' : Ino), Below w.heap.size w w1 → KI.O w1 t' x' → (∀ k, t'.2.2.ownBlock = some k → w.heap.size ≤ k) →
      TOwns w2 65 iv' (ti ++ [t']) → w1.grownBy w2 iv.ownBlock → (∀ k, iv'.ownBlock = some k → iv.ownBlock = some k ∨ w1.heap.size ≤ k) → DO w2 (fun k => S k ∨ w.heap.size ≤ k) u v iv' bv xs ys (is ++ [x']) bs := by
  obtain ⟨S1, S2, S3, ti, tb, h1, hs1, hi, hk, d1, d2, hU⟩ := h
  refine ⟨ti, hi.row, hi.len, fun w1 w2 iv' t' x' hb hO hn hr hg hv => ?_⟩
  have hsz := hb.size
  have h12 : ∀ m, (u.ownBlock = some m ∨ v.ownBlock = some m) → m < w.heap.size := fun m hm => hm.elim (fun e => (h1.a.lt m e).2) (fun e => (h1.b.lt m e).2)
  have hoth : ∀ k, k < w.heap.size → iv.ownBlock ≠ some k → w2.heap[k]? = w.heap[k]? := fun k hk hne => (hg.block k (by omega) (fun e => hne e.symm)).trans (hb.block k hk)
  refine ⟨fun k => u.ownBlock = some k ∨ v.ownBlock = some k, _, fun k => S3 k ∧ k < w.heap.size, _, tb, ⟨h1.a.of_heap fun k hk => hoth k (h12 k (.inl hk)) (fun e => (d1 k (hs1 k (.inl hk))).1 (hi.so k e)), h1.b.of_heap fun k hk => hoth k (h12 k (.inr hk)) (fun e => (d1 k (hs1 k (.inr hk))).1 (hi.so k e)), h1.ne⟩, fun k hk => hk, hi.append hb hO hn hr hg hv, hk.bound.of_heap fun k hk hlt => hoth k hlt (fun e => d2 k (hi.so k e) hk.1), fun k hk => ⟨fun e => ?_, fun e => (d1 k (hs1 k hk)).2 e.1⟩, fun k hk e => ?_, fun k hk => ?_⟩
  · rcases e with e | e
    · exact (d1 k (hs1 k hk)).1 e.1
    · have := h12 k hk; omega
  · rcases hk with hk | hk
    · exact d2 k hk.1 e.1
    · have := e.2; omega
  · rcases hk with hk | (hk | hk) | hk
    · exact .inl (hU k (.inl (hs1 k hk)))
    · exact .inl (hU k (.inr (.inl hk.1)))
    · exact .inr hk
    · exact .inl (hU k (.inr (.inr hk.1)))
/-- Blocks of new memory come in the place of none. -/
theorem DO.setB {w w1 : World} {S S' : Nat → Prop} {u v iv bv bv' : Value} {xs ys : List Bool} {is : List Ino} {bs bs' : List Blk} (h : DO w S u v iv bv xs ys is bs) (hb : Below w.heap.size w w1) {tb' : List V3} (hk' : GO KB w1 S' bv' tb' bs') (hs' : ∀ k, S' k → w.heap.size ≤ k) :
    DO w1 (fun k => S k ∨ w.heap.size ≤ k) u v iv bv' xs ys is bs' := by
  obtain ⟨S1, S2, S3, ti, tb, h1, hs1, hi, hk, d1, d2, hU⟩ := h
  have h12 : ∀ m, (u.ownBlock = some m ∨ v.ownBlock = some m) → m < w.heap.size := fun m hm => hm.elim (fun e => (h1.a.lt m e).2) (fun e => (h1.b.lt m e).2)
  refine ⟨fun k => u.ownBlock = some k ∨ v.ownBlock = some k, fun k => S2 k ∧ k < w.heap.size, S', ti, tb', h1.below hb (Nat.le_refl _), fun k hk => hk, hi.bound.below hb (Nat.le_refl _), hk', fun k hk => ⟨fun e => (d1 k (hs1 k hk)).1 e.1, fun e => ?_⟩, fun k hk e => ?_, fun k hk => ?_⟩
  · have := h12 k hk; have := hs' k e; omega
  · have := hk.2; have := hs' k e; omega
  · rcases hk with hk | hk | hk
    · exact .inl (hU k (.inl (hs1 k hk)))
    · exact .inl (hU k (.inr (.inl hk.1)))
    · exact .inr (hs' k hk)
end Go.Proofs.YtbebgnknjoclkaaGreat.Kit
/- A disk while it is copied: its variable, its parts, what is appended to them. No Go function is spoken of. -/
namespace Go.Proofs.YtbebgnknjoclkaaGreat.Kit
open Go.RowKit
theorem DO.appB {w : World} {S : Nat → Prop} {u v iv bv : Value} {xs ys : List Bool} {is : List Ino} {bs : List Blk} (h : DO w S u v iv bv xs ys is bs) :
    ∃ tb, TOwns w 70 bv tb ∧ tb.length = bs.length ∧ ∀ (w1 w2 : World) (bv' : Value) (t' : V3) (x' : Blk), Below w.heap.size w w1 → KB.O w1 t' x' → (∀ k, t'.2.1.ownBlock = some k → w.heap.size ≤ k) →
      TOwns w2 70 bv' (tb ++ [t']) → w1.grownBy w2 bv.ownBlock → (∀ k, bv'.ownBlock = some k → bv.ownBlock = some k ∨ w1.heap.size ≤ k) → DO w2 (fun k => S k ∨ w.heap.size ≤ k) u v iv bv' xs ys is (bs ++ [x']) := by
  obtain ⟨S1, S2, S3, ti, tb, h1, hs1, hi, hk, d1, d2, hU⟩ := h
  refine ⟨tb, hk.row, hk.len, fun w1 w2 bv' t' x' hb hO hn hr hg hv => ?_⟩
  have hsz := hb.size
  have h12 : ∀ m, (u.ownBlock = some m ∨ v.ownBlock = some m) → m < w.heap.size := fun m hm => hm.elim (fun e => (h1.a.lt m e).2) (fun e => (h1.b.lt m e).2)
  have hoth : ∀ k, k < w.heap.size → bv.ownBlock ≠ some k → w2.heap[k]? = w.heap[k]? := fun k hk hne => (hg.block k (by omega) (fun e => hne e.symm)).trans (hb.block k hk)
  refine ⟨fun k => u.ownBlock = some k ∨ v.ownBlock = some k, fun k => S2 k ∧ k < w.heap.size, _, ti, _, ⟨h1.a.of_heap fun m hm => hoth m (h12 m (.inl hm)) (fun e => (d1 m (hs1 m (.inl hm))).2 (hk.so m e)), h1.b.of_heap fun m hm => hoth m (h12 m (.inr hm)) (fun e => (d1 m (hs1 m (.inr hm))).2 (hk.so m e)), h1.ne⟩, fun k hk => hk, hi.bound.of_heap fun m hm hlt => hoth m hlt (fun e => d2 m hm.1 (hk.so m e)), hk.append hb hO hn hr hg hv, fun m hm => ⟨fun e => (d1 m (hs1 m hm)).1 e.1, fun e => ?_⟩, fun m hm e => ?_, fun m hm => ?_⟩
  · rcases e with e | e
    · exact (d1 m (hs1 m hm)).2 e.1
    · have := h12 m hm; omega
  · rcases e with e | e
    · exact d2 m hm.1 e.1
    · have := hm.2; omega
  · rcases hm with hm | hm | (hm | hm)
    · exact .inl (hU m (.inl (hs1 m hm)))
    · exact .inl (hU m (.inr (.inl hm.1)))
    · exact .inl (hU m (.inr (.inr hm.1)))
    · exact .inr hm
theorem DO.soI {w : World} {S : Nat → Prop} {u v iv bv : Value} {xs ys : List Bool} {is : List Ino} {bs : List Blk} (h : DO w S u v iv bv xs ys is bs) : ∀ k, (iv.ownBlock = some k ∨ bv.ownBlock = some k) → S k := by
  obtain ⟨S1, S2, S3, ti, tb, a1, a2, a3, a4, a5, a6, a7⟩ := h
  exact fun k hk => hk.elim (fun e => a7 k (.inr (.inl (a3.so k e)))) (fun e => a7 k (.inr (.inr (a4.so k e))))
/-- Bits of new memory, without inodes and blocks. -/
theorem DO.bits {w : World} {B : Nat} {u v : Value} {xs ys : List Bool} (h : Two w B u v xs ys) : DO w (fun k => B ≤ k) u v (.slice none 0 0) (.slice none 0 0) xs ys [] [] := by
  refine ⟨fun k => B ≤ k, fun _ => False, fun _ => False, [], [], h.base_le (Nat.zero_le _), fun k hk => hk.elim (fun e => (h.a.lt k e).1) (fun e => (h.b.lt k e).1), ?_, ?_, fun k hk => ⟨id, id⟩, fun k hk => hk.elim, fun k hk => hk.elim id (fun e => e.elim (fun e => e.elim) (fun e => e.elim))⟩
  · exact ⟨rfl, TOwns.nil _ _, fun j hj => by simp at hj, fun i j hi => by simp at hi, fun j hj => by simp at hj, (fun k e => by cases e), fun j hj => by simp at hj⟩
  · exact ⟨rfl, TOwns.nil _ _, fun j hj => by simp at hj, fun i j hi => by simp at hi, fun j hj => by simp at hj, (fun k e => by cases e), fun j hj => by simp at hj⟩
/-- The cells of no disk. -/
def noD : Array Value := #[.slice none 0 0, .slice none 0 0, .slice none 0 0, .slice none 0 0]
/-- A disk while it is copied: the argument's box at the first new block, the result's at the second, the variable's block b, its parts. -/
structure Dz (w w' : World) (A : Array Value) (b : Nat) (u v iv bv : Value) (xs ys : List Bool) (is : List Ino) (bs : List Blk) : Prop where
  arg : AtC w' w.heap.size 34 A
  res : AtC w' (w.heap.size + 1) 34 noD
  box : AtC w' b 34 #[u, v, iv, bv]
  dsk : DO w' (fun k => w.heap.size + 1 < k ∧ k ≠ b) u v iv bv xs ys is bs
  bel : Below w.heap.size w w'
  hb : w.heap.size + 1 < b
namespace Dz
variable {w w' w1 : World} {A : Array Value} {b : Nat} {u v iv bv : Value} {xs ys : List Bool} {is : List Ino} {bs : List Blk}
theorem below (h : Dz w w' A b u v iv bv xs ys is bs) (hb : Below w'.heap.size w' w1) : Dz w w1 A b u v iv bv xs ys is bs :=
  ⟨h.arg.over hb, h.res.over hb, h.box.over hb, h.dsk.below hb (Nat.le_refl _), h.bel.trans (hb.mono h.bel.size), h.hb⟩
theorem drew (h : Dz w w' A b u v iv bv xs ys is bs) : Dz w w'.drew A b u v iv bv xs ys is bs := h.below (Below.refl _ _).drew
theorem alloc (h : Dz w w' A b u v iv bv xs ys is bs) (o : Obj) : Dz w (w'.alloc o) A b u v iv bv xs ys is bs := h.below ((Below.refl _ _).alloc (Nat.le_refl _) o)
/-- A new block that is nobody's yet may be written. -/
theorem other (h : Dz w w' A b u v iv bv xs ys is bs) {B j : Nat} (hB : w.heap.size + 1 < B) (hb : B ≠ b) (hn : ∀ k, k = B → ¬ (w.heap.size + 1 < k ∧ k ≠ b ∧ k < w1.heap.size)) (x : Value) (hw : Below w1.heap.size w1 w') (h1 : Dz w w1 A b u v iv bv xs ys is bs) : Dz w (w'.setCell ⟨B, j, none⟩ x) A b u v iv bv xs ys is bs := by
  have hlt : w1.heap.size ≤ B := by
    rcases Nat.lt_or_ge B w1.heap.size with e | e
    · exact absurd ⟨hB, hb, e⟩ (hn B rfl)
    · exact e
  have hbb := h1.box.lt
  have hrr := h1.res.lt
  refine ⟨h.arg.other (by omega) _, h.res.other (by omega) _, h.box.other (by omega) _, ?_, h.bel.setCell (by show w.heap.size ≤ B; omega) _, h.hb⟩
  exact h1.dsk.of_heap fun k hk hkl => (heap_setCell_other w' ⟨B, j, none⟩ k x (by show k ≠ B; omega)).trans (hw.block k hkl)
/-- An inode is appended, and the list is stored. -/
theorem appI (h : Dz w w' A b u v iv bv xs ys is bs) : ∃ ti, TOwns w' 65 iv ti ∧ ti.length = is.length ∧ ∀ (w1 w2 : World) (iv' : Value) (t' : V3) (x' : Ino), Below w'.heap.size w' w1 → KI.O w1 t' x' → (∀ k, t'.2.2.ownBlock = some k → w'.heap.size ≤ k) →
    TOwns w2 65 iv' (ti ++ [t']) → w1.grownBy w2 iv.ownBlock → (∀ k, iv'.ownBlock = some k → iv.ownBlock = some k ∨ w1.heap.size ≤ k) →
    AtC w2 b 34 #[u, v, iv, bv] ∧ Dz w (w2.setCell ⟨b, 2, none⟩ iv') A b u v iv' bv xs ys (is ++ [x']) bs := by
  obtain ⟨ti, h1, h2, h3⟩ := h.dsk.appI
  refine ⟨ti, h1, h2, fun w1 w2 iv' t' x' hb hO hn hr hg hv => ?_⟩
  have hso := fun k (hk : iv.ownBlock = some k) => h.dsk.soI k (.inl hk)
  have hbs := h.box.lt
  have hsz := h.bel.size
  have hsz1 := hb.size
  have hr0 := h.res.lt
  have ha0 := h.arg.lt
  have e0 : AtC w2 w.heap.size 34 A := (hg.block _ (by omega) (fun e => by have := hso _ e.symm; omega)).trans (h.arg.over hb)
  have e1 : AtC w2 (w.heap.size + 1) 34 noD := (hg.block _ (by omega) (fun e => by have := hso _ e.symm; omega)).trans (h.res.over hb)
  have e2 : AtC w2 b 34 #[u, v, iv, bv] := (hg.block _ (by omega) (fun e => by have := hso _ e.symm; omega)).trans (h.box.over hb)
  have d := h3 w1 w2 iv' t' x' hb hO hn hr hg hv
  have b2 : Below w.heap.size w w2 := (h.bel.trans (hb.mono hsz)).grown hg (by omega) (fun k hk => by have := hso k hk; omega)
  have hbb := h.hb
  refine ⟨e2, ⟨e0.other (by omega) _, e1.other (by omega) _, e2.set 2 iv', ?_, b2.setCell (by show w.heap.size ≤ b; omega) _, h.hb⟩⟩
  have d2 := d.mono (S' := fun k => w.heap.size + 1 < k ∧ k ≠ b) fun k hk => hk.elim id (fun e => ⟨by omega, by omega⟩)
  exact d2.of_heap fun k hk _ => heap_setCell_other w2 ⟨b, 2, none⟩ k iv' (by show k ≠ b; omega)
/-- A block is appended, and the list is stored. -/
theorem appB (h : Dz w w' A b u v iv bv xs ys is bs) : ∃ tb, TOwns w' 70 bv tb ∧ tb.length = bs.length ∧ ∀ (w1 w2 : World) (bv' : Value) (t' : V3) (x' : Blk), Below w'.heap.size w' w1 → KB.O w1 t' x' → (∀ k, t'.2.1.ownBlock = some k → w'.heap.size ≤ k) →
    TOwns w2 70 bv' (tb ++ [t']) → w1.grownBy w2 bv.ownBlock → (∀ k, bv'.ownBlock = some k → bv.ownBlock = some k ∨ w1.heap.size ≤ k) →
    AtC w2 b 34 #[u, v, iv, bv] ∧ Dz w (w2.setCell ⟨b, 3, none⟩ bv') A b u v iv bv' xs ys is (bs ++ [x']) := by
  obtain ⟨ti, h1, h2, h3⟩ := h.dsk.appB
  refine ⟨ti, h1, h2, fun w1 w2 iv' t' x' hb hO hn hr hg hv => ?_⟩
  have hso := fun k (hk : bv.ownBlock = some k) => h.dsk.soI k (.inr hk)
  have hbs := h.box.lt
  have hsz := h.bel.size
  have hsz1 := hb.size
  have hr0 := h.res.lt
  have ha0 := h.arg.lt
  have e0 : AtC w2 w.heap.size 34 A := (hg.block _ (by omega) (fun e => by have := hso _ e.symm; omega)).trans (h.arg.over hb)
  have e1 : AtC w2 (w.heap.size + 1) 34 noD := (hg.block _ (by omega) (fun e => by have := hso _ e.symm; omega)).trans (h.res.over hb)
  have e2 : AtC w2 b 34 #[u, v, iv, bv] := (hg.block _ (by omega) (fun e => by have := hso _ e.symm; omega)).trans (h.box.over hb)
  have d := h3 w1 w2 iv' t' x' hb hO hn hr hg hv
  have b2 : Below w.heap.size w w2 := (h.bel.trans (hb.mono hsz)).grown hg (by omega) (fun k hk => by have := hso k hk; omega)
  have hbb := h.hb
  refine ⟨e2, ⟨e0.other (by omega) _, e1.other (by omega) _, e2.set 3 iv', ?_, b2.setCell (by show w.heap.size ≤ b; omega) _, h.hb⟩⟩
  have d2 := d.mono (S' := fun k => w.heap.size + 1 < k ∧ k ≠ b) fun k hk => hk.elim id (fun e => ⟨by omega, by omega⟩)
  exact d2.of_heap fun k hk _ => heap_setCell_other w2 ⟨b, 3, none⟩ k iv' (by show k ≠ b; omega)
end Dz
/-- The bits are copied; the variable is laid. -/
theorem dz_start {w w1 : World} {A : Array Value} {u v : Value} {xs ys : List Bool} (B1 : Below ((w.alloc (.cells A 34)).alloc (.cells noD 34)).heap.size ((w.alloc (.cells A 34)).alloc (.cells noD 34)) w1) (T1 : Two w1 ((w.alloc (.cells A 34)).alloc (.cells noD 34)).heap.size u v xs ys) :
    Dz w (w1.alloc (.cells #[u, v, .slice none 0 0, .slice none 0 0] 34)) A w1.heap.size u v (.slice none 0 0) (.slice none 0 0) xs ys [] [] := by
  have hsz := B1.size
  simp at hsz
  have k1 := (AtC.new (w.alloc (.cells A 34)) 34 noD).over B1
  simp at k1
  refine ⟨(((AtC.new w 34 A).alloc _).over B1).alloc _, k1.alloc _, AtC.new w1 34 _, ?_, ((((Below.refl _ w).alloc (Nat.le_refl _) _).alloc (by simp) _).trans (B1.mono (by simp; omega))).alloc (by omega) _, by omega⟩
  have T2 : Two w1 (w.heap.size + 1 + 1) u v xs ys := T1.base_le (by simp)
  obtain ⟨S1, S2, S3, ti, tb, h1, h2, h3, h4, h5, h6, h7⟩ := DO.bits T2
  have hlt : ∀ k, (u.ownBlock = some k ∨ v.ownBlock = some k) → w.heap.size + 1 < k ∧ k ≠ w1.heap.size := fun k hk => hk.elim (fun e => by have := T2.a.lt k e; omega) (fun e => by have := T2.b.lt k e; omega)
  exact ⟨fun k => u.ownBlock = some k ∨ v.ownBlock = some k, fun _ => False, fun _ => False, [], [], (T2.base_le (Nat.zero_le _)).alloc _, fun k hk => hk, ⟨rfl, TOwns.nil _ _, fun j hj => by simp at hj, fun i j hi => by simp at hi, fun j hj => by simp at hj, (fun k e => by cases e), fun j hj => by simp at hj⟩, ⟨rfl, TOwns.nil _ _, fun j hj => by simp at hj, fun i j hi => by simp at hi, fun j hj => by simp at hj, (fun k e => by cases e), fun j hj => by simp at hj⟩, fun k hk => ⟨id, id⟩, fun k hk => hk.elim, fun k hk => hk.elim (hlt k) (fun e => e.elim (fun e => e.elim) (fun e => e.elim))⟩
/-- A copied inode. -/
def MkI (k : Nat) (y s : Int) (z : List Int) : Mk := .val [k] (fun lo hi w v => ∃ u, v = .agg #[.int .i64 y, .int .i64 s, u] ∧ ROwns w lo 3 u (ic z) ∧ ∀ i, u.ownBlock = some i → i < hi)
  (fun _ _ _ _ _ h hb => by obtain ⟨u, h1, h2, h3⟩ := h; exact ⟨u, h1, h2.below hb (Nat.le_refl _), h3⟩)
/-- The list of one inode, the k-th value. -/
def MkI1 (k : Nat) (y s : Int) : Mk := .val1 [k] k (by simp) (fun lo hi w u v => v = .slice (some ⟨lo, 0, none⟩) 1 1 ∧ hi = lo + 1 ∧ ∃ p, u = .agg #[.int .i64 y, .int .i64 s, p] ∧ AtC w lo 65 #[.int .i64 y, .int .i64 s, p])
  (fun _ _ _ _ _ _ h hb => by obtain ⟨h1, h2, p, h3, h4⟩ := h; exact ⟨h1, h2, p, h3, h4.over hb⟩)
/-- A copied block. -/
def MkK (k : Nat) (d : Bool) (t : ByteArray) (z : List Sl) : Mk := .val [k] (fun lo hi w v => ∃ u, v = .agg #[.bool d, u, .string t] ∧ SOwns w lo 74 u z ∧ ∀ i, u.ownBlock = some i → i < hi)
  (fun _ _ _ _ _ h hb => by obtain ⟨u, h1, h2, h3⟩ := h; exact ⟨u, h1, h2.below hb (Nat.le_refl _), h3⟩)
/-- The list of one block, the k-th value. -/
def MkK1 (k : Nat) (d : Bool) (t : ByteArray) : Mk := .val1 [k] k (by simp) (fun lo hi w u v => v = .slice (some ⟨lo, 0, none⟩) 1 1 ∧ hi = lo + 1 ∧ ∃ p, u = .agg #[.bool d, p, .string t] ∧ AtC w lo 70 #[.bool d, p, .string t])
  (fun _ _ _ _ _ _ h hb => by obtain ⟨h1, h2, p, h3, h4⟩ := h; exact ⟨h1, h2, p, h3, h4.over hb⟩)
end Go.Proofs.YtbebgnknjoclkaaGreat.Kit
/- Lists of inodes and of blocks that are marked, and held against their marks: the mathematics, laws.markInodeS, laws.markBlockS, laws.heldInodeS, laws.heldBlockS by their contracts. -/
namespace Go.Proofs.YtbebgnknjoclkaaGreat.Kit
open Go.RowKit
/-- The number behind a list whose members take so many marks each. -/
def cnt {α : Type} (sz : α → Nat) : Nat → List α → Nat
  | k, [] => k
  | k, x :: r => cnt sz (k + sz x) r
/-- The list, each member marked from its number on. -/
def mkL {α : Type} (sz : α → Nat) (mk : Nat → α → α) : Nat → List α → List α
  | _, [] => []
  | k, x :: r => mk k x :: mkL sz mk (k + sz x) r
section
variable {α : Type} {sz : α → Nat} {mk : Nat → α → α}
theorem cnt_append (k : Nat) (a b : List α) : cnt sz k (a ++ b) = cnt sz (cnt sz k a) b := by
  induction a generalizing k with
  | nil => rfl
  | cons x r ih => exact ih _
theorem mkL_append (k : Nat) (a b : List α) : mkL sz mk k (a ++ b) = mkL sz mk k a ++ mkL sz mk (cnt sz k a) b := by
  induction a generalizing k with
  | nil => rfl
  | cons x r ih => simp only [List.cons_append, mkL, cnt, ih]
theorem mkL_length (k : Nat) (l : List α) : (mkL sz mk k l).length = l.length := by
  induction l generalizing k with
  | nil => rfl
  | cons x r ih => simp only [mkL, List.length_cons, ih]
theorem cnt_ge (k : Nat) (l : List α) : k ≤ cnt sz k l := by
  induction l generalizing k with
  | nil => exact Nat.le_refl _
  | cons x r ih => have := ih (k + sz x); simp only [cnt]; omega
theorem cnt_len (hs : ∀ x, 1 ≤ sz x) (k : Nat) (l : List α) : k + l.length ≤ cnt sz k l := by
  induction l generalizing k with
  | nil => exact Nat.le_refl _
  | cons x r ih => have := ih (k + sz x); have := hs x; simp only [cnt, List.length_cons]; omega
theorem take_split (l : List α) (j : Nat) (h : j < l.length) : l.take (j + 1) = l.take j ++ [l[j]] := by simp
theorem cnt_succ (k : Nat) (l : List α) (j : Nat) (h : j < l.length) : cnt sz k (l.take (j + 1)) = cnt sz k (l.take j) + sz l[j] := by
  rw [take_split l j h, cnt_append]; rfl
theorem cnt_le (k : Nat) (l : List α) (j : Nat) (h : j < l.length) : cnt sz k (l.take j) + sz l[j] ≤ cnt sz k l := by
  rw [← cnt_succ k l j h]
  conv => rhs; rw [← List.take_append_drop (j + 1) l, cnt_append]
  exact cnt_ge _ _
theorem cnt_all (k : Nat) (l : List α) : cnt sz k (l.take l.length) = cnt sz k l := by rw [List.take_length]
/-- The first j members are marked already. -/
def mkd (sz : α → Nat) (mk : Nat → α → α) (k j : Nat) (l : List α) : List α := mkL sz mk k (l.take j) ++ l.drop j
theorem mkd_length (k j : Nat) (l : List α) : (mkd sz mk k j l).length = l.length := by
  rw [mkd, List.length_append, mkL_length, List.length_take, List.length_drop]; omega
theorem mkd_zero (k : Nat) (l : List α) : mkd sz mk k 0 l = l := by simp [mkd, mkL]
theorem mkd_all (k : Nat) (l : List α) : mkd sz mk k l.length l = mkL sz mk k l := by simp [mkd]
theorem mkd_at (k j : Nat) (l : List α) (h : j < l.length) (h' : j < (mkd sz mk k j l).length) : (mkd sz mk k j l)[j] = l[j] := by
  have e : (mkL sz mk k (l.take j)).length = j := by rw [mkL_length, List.length_take]; omega
  simp only [mkd]
  rw [List.getElem_append_right (by omega)]
  simp [e]
theorem mkd_set (k j : Nat) (l : List α) (h : j < l.length) : (mkd sz mk k j l).set j (mk (cnt sz k (l.take j)) l[j]) = mkd sz mk k (j + 1) l := by
  have e : (mkL sz mk k (l.take j)).length = j := by rw [mkL_length, List.length_take]; omega
  simp only [mkd]
  rw [take_split l j h, mkL_append, List.set_append_right _ _ (by omega), e, List.drop_eq_getElem_cons h]
  simp only [Nat.sub_self, List.set_cons_zero, mkL, List.append_assoc, List.cons_append, List.nil_append]
theorem mkL_at (k j : Nat) (l : List α) (h : j < l.length) (h' : j < (mkL sz mk k l).length) : (mkL sz mk k l)[j] = mk (cnt sz k (l.take j)) l[j] := by
  have e : (mkL sz mk k (l.take j)).length = j := by rw [mkL_length, List.length_take]; omega
  have s : mkL sz mk k l = mkL sz mk k (l.take j) ++ mk (cnt sz k (l.take j)) l[j] :: mkL sz mk (cnt sz k (l.take j) + sz l[j]) (l.drop (j + 1)) := by
    conv => lhs; rw [← List.take_append_drop j l, mkL_append, List.drop_eq_getElem_cons h]
    rfl
  have key : ∀ m : List α, mkL sz mk k l = m → ∀ q : j < m.length, (mkL sz mk k l)[j] = m[j] := by rintro m rfl q; rfl
  rw [key _ s (by rw [← s]; exact h')]
  rw [List.getElem_append_right (by omega)]
  simp [e]
end
theorem TOwns.set01 {w : World} {g cap : Nat} {e : TypeId} {l : List V3} (h : TOwns w e (.slice (some ⟨g, 0, none⟩) l.length cap) l) (k : Nat) (hk : k < l.length) (x y : Value) :
    TOwns ((w.setCell ⟨g, k * 3, none⟩ x).setCell ⟨g, k * 3 + 1, none⟩ y) e (.slice (some ⟨g, 0, none⟩) l.length cap) (l.set k (x, y, l[k].2.2)) := by
  have h1 := h.set0 k hk x
  have h2 : TOwns (w.setCell ⟨g, k * 3, none⟩ x) e (.slice (some ⟨g, 0, none⟩) (l.set k (x, l[k].2.1, l[k].2.2)).length cap) (l.set k (x, l[k].2.1, l[k].2.2)) := by rw [List.length_set]; exact h1
  have h3 := h2.set1 k (by simpa using hk) y
  simp only [List.length_set, List.getElem_set_self, List.set_set] at h3
  exact h3
theorem GO.len_of {α : Type} {K : Kd α} {w : World} {S : Nat → Prop} {v : Value} {ts : List V3} {xs : List α} (h : GO K w S v ts xs) {a : Option Addr} {n cap : Nat} (hv : v = .slice a n cap) : n = ts.length := by
  obtain ⟨a', c, e, _⟩ := h.row.form
  rw [hv] at e
  simp only [Value.slice.injEq] at e
  exact e.2.1
/-- One inode is marked: two cells are stored, and its list is turned. -/
theorem GO.markI {w w1 : World} {S : Nat → Prop} {v : Value} {ts : List V3} {xs : List Ino} (h : GO KI w S v ts xs) {g n cap : Nat} (hv : v = .slice (some ⟨g, 0, none⟩) n cap) (j : Nat) (hj : j < ts.length) (a b : Int) (l' : List Int)
    (hr : ROwns w1 0 3 ts[j].2.2 (ic l')) (hg : ((w.setCell ⟨g, j * 3, none⟩ (.int .i64 a)).setCell ⟨g, j * 3 + 1, none⟩ (.int .i64 b)).grownBy w1 ts[j].2.2.ownBlock) :
    GO KI w1 S v (ts.set j (.int .i64 a, .int .i64 b, ts[j].2.2)) (xs.set j (a, b, l')) ∧ Chg S w w1 := by
  have hlen := h.len_of hv
  subst hlen
  have ho := h.out j hj
  have hgw : g < w.heap.size := h.row.lt g (by rw [hv]; rfl)
  have hoth : ∀ k, k ≠ g → ((w.setCell ⟨g, j * 3, none⟩ (.int .i64 a)).setCell ⟨g, j * 3 + 1, none⟩ (.int .i64 b)).heap[k]? = w.heap[k]? := fun k hk =>
    (heap_setCell_other _ ⟨g, j * 3 + 1, none⟩ k _ (by simpa using hk)).trans (heap_setCell_other _ ⟨g, j * 3, none⟩ k _ (by simpa using hk))
  have hsz : ((w.setCell ⟨g, j * 3, none⟩ (.int .i64 a)).setCell ⟨g, j * 3 + 1, none⟩ (.int .i64 b)).heap.size = w.heap.size := by simp
  have hvg : v.ownBlock = some g := by rw [hv]; rfl
  have hrow := (hv ▸ h.row : TOwns w KI.T (.slice (some ⟨g, 0, none⟩) ts.length cap) ts).set01 j hj (.int .i64 a) (.int .i64 b)
  have hf : ∀ k, k < w.heap.size → v.ownBlock ≠ some k → (KI.p ts[j]).ownBlock ≠ some k → w1.heap[k]? = w.heap[k]? := fun k hk h1 h2 =>
    (hg.block k (by rw [hsz]; exact hk) (fun e => h2 (by rw [show (KI.p ts[j]) = ts[j].2.2 from rfl, ← e]))).trans (hoth k (fun e => h1 (by rw [e, hvg])))
  refine ⟨h.turn j hj _ _ ?_ ⟨rfl, rfl, hr⟩ hf (fun k hk => .inl hk) (fun _ h => h) (fun k hk => h.si j hj k hk), ⟨by rw [hg.os]; rfl, by rw [hg.tape]; rfl, by rw [hg.output]; rfl, by have := hg.size; rw [hsz] at this; exact this, fun k hk hn => hf k hk (fun e => hn (h.so k e)) (fun e => hn (h.si j hj k e))⟩⟩
  rw [hv]
  exact hrow.of_heap fun k hk => by
    have e : k = g := by simpa [Value.ownBlock] using hk.symm
    subst e
    exact hg.block k (by rw [hsz]; exact hgw) (fun e => ho k (by rw [show (KI.p ts[j]) = ts[j].2.2 from rfl, ← e]) hvg)
/-- One block is marked: a cell is stored, its slots are turned, a text is made and stored. -/
theorem GO.markB {w w1 w2 : World} {S : Nat → Prop} {v : Value} {ts : List V3} {xs : List Blk} (h : GO KB w S v ts xs) {g n cap : Nat} (hv : v = .slice (some ⟨g, 0, none⟩) n cap) (j : Nat) (hj : j < ts.length) (a : Bool) (t : ByteArray) (l' : List Sl)
    (hr : SOwns w1 0 74 ts[j].2.1 l') (hg : (w.setCell ⟨g, j * 3, none⟩ (.bool a)).grownBy w1 ts[j].2.1.ownBlock) (hb : Below w1.heap.size w1 w2) :
    GO KB (w2.setCell ⟨g, j * 3 + 2, none⟩ (.string t)) S v (ts.set j (.bool a, ts[j].2.1, .string t)) (xs.set j (a, l', t)) ∧ Chg S w (w2.setCell ⟨g, j * 3 + 2, none⟩ (.string t)) := by
  have hlen := h.len_of hv
  subst hlen
  have ho := h.out j hj
  have hgw : g < w.heap.size := h.row.lt g (by rw [hv]; rfl)
  have hsz : (w.setCell ⟨g, j * 3, none⟩ (.bool a)).heap.size = w.heap.size := by simp
  have hsz1 : w.heap.size ≤ w1.heap.size := by have := hg.size; rw [hsz] at this; exact this
  have hvg : v.ownBlock = some g := by rw [hv]; rfl
  have hin : ∀ k, ts[j].2.1.ownBlock = some k → k ≠ g := fun k hk e => ho k hk (by rw [e, hvg])
  have hrow := (hv ▸ h.row : TOwns w KB.T (.slice (some ⟨g, 0, none⟩) ts.length cap) ts).set0 j hj (.bool a)
  have hrow2 : TOwns w2 KB.T (.slice (some ⟨g, 0, none⟩) ts.length cap) (ts.set j (.bool a, ts[j].2.1, ts[j].2.2)) := hrow.of_heap fun k hk => by
    have e : k = g := by simpa [Value.ownBlock] using hk.symm
    subst e
    exact (hb.block k (by omega)).trans (hg.block k (by rw [hsz]; exact hgw) (fun e => hin k e.symm rfl))
  have hrow3 : TOwns w2 KB.T (.slice (some ⟨g, 0, none⟩) (ts.set j (.bool a, ts[j].2.1, ts[j].2.2)).length cap) (ts.set j (.bool a, ts[j].2.1, ts[j].2.2)) := by rw [List.length_set]; exact hrow2
  have hrow4 := hrow3.set2 j (by simpa using hj) (.string t)
  simp only [List.length_set, List.getElem_set_self, List.set_set] at hrow4
  have hf : ∀ k, k < w.heap.size → v.ownBlock ≠ some k → (KB.p ts[j]).ownBlock ≠ some k → (w2.setCell ⟨g, j * 3 + 2, none⟩ (.string t)).heap[k]? = w.heap[k]? := fun k hk h1 h2 =>
    have hne : k ≠ g := fun e => h1 (by rw [e, hvg])
    ((heap_setCell_other w2 ⟨g, j * 3 + 2, none⟩ k _ (by simpa using hne)).trans (hb.block k (by omega))).trans ((hg.block k (by rw [hsz]; exact hk) (fun e => h2 (by rw [show (KB.p ts[j]) = ts[j].2.1 from rfl, ← e]))).trans (heap_setCell_other w ⟨g, j * 3, none⟩ k _ (by simpa using hne)))
  have hr2 : SOwns (w2.setCell ⟨g, j * 3 + 2, none⟩ (.string t)) 0 74 ts[j].2.1 l' := (hr.below hb (Nat.le_refl _)).setCell_other (fun e => hin g e rfl) _
  refine ⟨h.turn j hj _ _ ?_ ⟨rfl, hr2, rfl⟩ hf (fun k hk => .inl hk) (fun _ h => h) (fun k hk => h.si j hj k hk), ⟨by show w2.os = w.os; rw [hb.os, hg.os]; rfl, by show w2.tape = w.tape; rw [hb.tape, hg.tape]; rfl, by show w2.output = w.output; rw [hb.output, hg.output]; rfl, by have := hb.size; simp; omega, fun k hk hn => hf k hk (fun e => hn (h.so k e)) (fun e => hn (h.si j hj k e))⟩⟩
  rw [hv]
  exact hrow4
end Go.Proofs.YtbebgnknjoclkaaGreat.Kit
/- A disk that is owned, and how it lies: what is stored into it. No Go function is spoken of. -/
namespace Go.Proofs.YtbebgnknjoclkaaGreat.Kit
open Go.RowKit
/-- The parts of a disk are owned; how they lie is told. -/
def DL (w : World) (S : Nat → Prop) (u v iv bv : Value) (ti tb : List V3) (xs ys : List Bool) (is : List Ino) (bs : List Blk) : Prop :=
  ∃ (S1 S2 S3 : Nat → Prop), Two w 0 u v xs ys ∧ (∀ k, (u.ownBlock = some k ∨ v.ownBlock = some k) → S1 k) ∧ GO KI w S2 iv ti is ∧ GO KB w S3 bv tb bs ∧ (∀ k, S1 k → ¬ S2 k ∧ ¬ S3 k) ∧ (∀ k, S2 k → ¬ S3 k) ∧ ∀ k, S1 k ∨ S2 k ∨ S3 k → S k
theorem DO.dl {w : World} {S : Nat → Prop} {u v iv bv : Value} {xs ys : List Bool} {is : List Ino} {bs : List Blk} (h : DO w S u v iv bv xs ys is bs) : ∃ ti tb, DL w S u v iv bv ti tb xs ys is bs := by
  obtain ⟨S1, S2, S3, ti, tb, h⟩ := h
  exact ⟨ti, tb, S1, S2, S3, h⟩
namespace DL
variable {w w' : World} {S S' : Nat → Prop} {u v iv bv : Value} {ti tb : List V3} {xs ys : List Bool} {is : List Ino} {bs : List Blk}
theorem do_ (h : DL w S u v iv bv ti tb xs ys is bs) : DO w S u v iv bv xs ys is bs := by
  obtain ⟨S1, S2, S3, h⟩ := h
  exact ⟨S1, S2, S3, ti, tb, h⟩
theorem dr (h : DL w S u v iv bv ti tb xs ys is bs) : DR w u v iv bv xs ys is bs := h.do_.dr
theorem of_heap (h : DL w S u v iv bv ti tb xs ys is bs) (hh : ∀ k, S k → k < w.heap.size → w'.heap[k]? = w.heap[k]?) : DL w' S u v iv bv ti tb xs ys is bs := by
  obtain ⟨S1, S2, S3, h1, h2, h3, h4, h5, h6, h7⟩ := h
  refine ⟨S1, S2, S3, ⟨h1.a.of_heap fun k hk => hh k (h7 k (.inl (h2 k (.inl hk)))) (h1.a.lt k hk).2, h1.b.of_heap fun k hk => hh k (h7 k (.inl (h2 k (.inr hk)))) (h1.b.lt k hk).2, h1.ne⟩, h2, h3.of_heap fun k hs hk => hh k (h7 k (.inr (.inl hs))) hk, h4.of_heap fun k hs hk => hh k (h7 k (.inr (.inr hs))) hk, h5, h6, h7⟩
theorem below {B : Nat} (h : DL w S u v iv bv ti tb xs ys is bs) (hb : Below B w w') (hB : w.heap.size ≤ B) : DL w' S u v iv bv ti tb xs ys is bs := h.of_heap fun k _ hk => hb.block k (by omega)
theorem over (h : DL w S u v iv bv ti tb xs ys is bs) (hb : Below w.heap.size w w') : DL w' S u v iv bv ti tb xs ys is bs := h.below hb (Nat.le_refl _)
theorem other (h : DL w S u v iv bv ti tb xs ys is bs) {g k : Nat} (hg : ¬ S g) (x : Value) : DL (w.setCell ⟨g, k, none⟩ x) S u v iv bv ti tb xs ys is bs :=
  h.of_heap fun i hi _ => heap_setCell_other w ⟨g, k, none⟩ i x (fun e => hg (by simp at e; exact e ▸ hi))
theorem mono (h : DL w S u v iv bv ti tb xs ys is bs) (hs : ∀ k, S k → S' k) : DL w S' u v iv bv ti tb xs ys is bs := by
  obtain ⟨S1, S2, S3, h1, h2, h3, h4, h5, h6, h7⟩ := h
  exact ⟨S1, S2, S3, h1, h2, h3, h4, h5, h6, fun k hk => hs k (h7 k hk)⟩
/-- Inodes are turned, in a block of theirs. -/
theorem turnI (h : DL w S u v iv bv ti tb xs ys is bs) {ti' : List V3} {is' : List Ino} (g : Nat) (hg : ∀ S2, GO KI w S2 iv ti is → S2 g ∧ GO KI w' S2 iv ti' is') (ho : ∀ k, k ≠ g → w'.heap[k]? = w.heap[k]?) : DL w' S u v iv bv ti' tb xs ys is' bs ∧ S g := by
  obtain ⟨S1, S2, S3, h1, h2, h3, h4, h5, h6, h7⟩ := h
  obtain ⟨q1, q2⟩ := hg S2 h3
  have n1 : ∀ k, S1 k → k ≠ g := fun k hk e => (h5 k hk).1 (e ▸ q1)
  have n3 : ∀ k, S3 k → k ≠ g := fun k hk e => h6 g q1 (e ▸ hk)
  exact ⟨⟨S1, S2, S3, ⟨h1.a.of_heap fun k hk => ho k (n1 k (h2 k (.inl hk))), h1.b.of_heap fun k hk => ho k (n1 k (h2 k (.inr hk))), h1.ne⟩, h2, q2, h4.of_heap fun k hs _ => ho k (n3 k hs), h5, h6, h7⟩, h7 g (.inr (.inl q1))⟩
/-- Blocks are turned, in a block of theirs. -/
theorem turnB (h : DL w S u v iv bv ti tb xs ys is bs) {tb' : List V3} {bs' : List Blk} (g : Nat) (hg : ∀ S3, GO KB w S3 bv tb bs → S3 g ∧ GO KB w' S3 bv tb' bs') (ho : ∀ k, k ≠ g → w'.heap[k]? = w.heap[k]?) : DL w' S u v iv bv ti tb' xs ys is bs' ∧ S g := by
  obtain ⟨S1, S2, S3, h1, h2, h3, h4, h5, h6, h7⟩ := h
  obtain ⟨q1, q2⟩ := hg S3 h4
  have n1 : ∀ k, S1 k → k ≠ g := fun k hk e => (h5 k hk).2 (e ▸ q1)
  have n3 : ∀ k, S2 k → k ≠ g := fun k hk e => h6 k hk (e ▸ q1)
  exact ⟨⟨S1, S2, S3, ⟨h1.a.of_heap fun k hk => ho k (n1 k (h2 k (.inl hk))), h1.b.of_heap fun k hk => ho k (n1 k (h2 k (.inr hk))), h1.ne⟩, h2, h3.of_heap fun k hs _ => ho k (n3 k hs), q2, h5, h6, h7⟩, h7 g (.inr (.inr q1))⟩
theorem inoAt (h : DL w S u v iv bv ti tb xs ys is bs) : GO KI w S iv ti is := by
  obtain ⟨S1, S2, S3, h1, h2, h3, h4, h5, h6, h7⟩ := h
  exact h3.mono fun k hk => h7 k (.inr (.inl hk))
theorem blkAt_ (h : DL w S u v iv bv ti tb xs ys is bs) : GO KB w S bv tb bs := by
  obtain ⟨S1, S2, S3, h1, h2, h3, h4, h5, h6, h7⟩ := h
  exact h4.mono fun k hk => h7 k (.inr (.inr hk))
/-- The cells of an inode and of its pointers. -/
theorem ino (h : DL w S u v iv bv ti tb xs ys is bs) (j : Nat) (hj : j < is.length) :
    ∃ g c, iv = .slice (some ⟨g, 0, none⟩) is.length c ∧ g < w.heap.size ∧ S g ∧ (∀ k, w.frozen? ⟨g, k, none⟩ = false) ∧ w.cell? ⟨g, j * 3, none⟩ = some (.int .i64 is[j].1) ∧ w.cell? ⟨g, j * 3 + 1, none⟩ = some (.int .i64 is[j].2.1) ∧ w.cell? ⟨g, j * 3 + 2, none⟩ = some (ti.getD j zI3).2.2 ∧ ROwns w 0 3 (ti.getD j zI3).2.2 (ic is[j].2.2) ∧ (∀ k, (ti.getD j zI3).2.2.ownBlock = some k → S k) := by
  have hi := h.inoAt
  have hl := hi.len
  have hj' : j < ti.length := by omega
  obtain ⟨g, c, e, k1, k2, k3, k4, k5, -⟩ := hi.row.at j hj'
  obtain ⟨i1, i2, i3⟩ := hi.inn j hj' hj
  have ed : ti.getD j zI3 = ti[j] := by simp [List.getD, hj']
  rw [ed]
  exact ⟨g, c, by rw [e, hl], k5, hi.so g (by rw [e]; rfl), k4, by rw [k1, i1], by rw [k2, i2], k3, i3, fun k hk => hi.si j hj' k hk⟩
/-- The cells of a block and of its slots. -/
theorem blk (h : DL w S u v iv bv ti tb xs ys is bs) (j : Nat) (hj : j < bs.length) :
    ∃ g c, bv = .slice (some ⟨g, 0, none⟩) bs.length c ∧ g < w.heap.size ∧ S g ∧ w.cell? ⟨g, j * 3, none⟩ = some (.bool bs[j].1) ∧ w.cell? ⟨g, j * 3 + 1, none⟩ = some (tb.getD j zB3).2.1 ∧ w.cell? ⟨g, j * 3 + 2, none⟩ = some (.string bs[j].2.2) ∧ SOwns w 0 74 (tb.getD j zB3).2.1 bs[j].2.1 ∧ (∀ k, (tb.getD j zB3).2.1.ownBlock = some k → S k) := by
  have hi := h.blkAt_
  have hl := hi.len
  have hj' : j < tb.length := by omega
  obtain ⟨g, c, e, k1, k2, k3, k4, k5, -⟩ := hi.row.at j hj'
  obtain ⟨i1, i2, i3⟩ := hi.inn j hj' hj
  have ed : tb.getD j zB3 = tb[j] := by simp [List.getD, hj']
  rw [ed]
  exact ⟨g, c, by rw [e, hl], k5, hi.so g (by rw [e]; rfl), by rw [k1, i1], k2, by rw [k3, i3], i2, fun k hk => hi.si j hj' k hk⟩
/-- A pointer is turned. -/
theorem setPtr (h : DL w S u v iv bv ti tb xs ys is bs) (j : Nat) (hj : j < is.length) {g c : Nat} (hv : (ti.getD j zI3).2.2 = .slice (some ⟨g, 0, none⟩) is[j].2.2.length c) (k : Nat) (z : Int) :
    DL (w.setCell ⟨g, k, none⟩ (.int .i64 z)) S u v iv bv ti tb xs ys (is.set j (is[j].1, is[j].2.1, is[j].2.2.set k z)) bs ∧ Chg S w (w.setCell ⟨g, k, none⟩ (.int .i64 z)) := by
  have ho : ∀ i, i ≠ g → (w.setCell ⟨g, k, none⟩ (.int .i64 z)).heap[i]? = w.heap[i]? := fun i hi => heap_setCell_other w ⟨g, k, none⟩ i _ (by simpa using hi)
  obtain ⟨q1, q2⟩ := h.turnI (w' := w.setCell ⟨g, k, none⟩ (.int .i64 z)) (ti' := ti) (is' := is.set j (is[j].1, is[j].2.1, is[j].2.2.set k z)) g (fun S2 hi => by
    have hl := hi.len
    have hj' : j < ti.length := by omega
    have ed : ti.getD j zI3 = ti[j] := by simp [List.getD, hj']
    rw [ed] at hv
    have hown : (KI.p ti[j]).ownBlock = some g := by show ti[j].2.2.ownBlock = _; rw [hv]; rfl
    obtain ⟨i1, i2, i3⟩ := hi.inn j hj' hj
    have hset : ti.set j ti[j] = ti := List.set_getElem_self hj'
    refine ⟨hi.si j hj' g hown, ?_⟩
    have := hi.turn (w' := w.setCell ⟨g, k, none⟩ (.int .i64 z)) (S' := S2) j hj' ti[j] (is[j].1, is[j].2.1, is[j].2.2.set k z) (by rw [hset]; exact hi.row.of_heap fun i hi' => ho i (fun e => hi.out j hj' g hown (e ▸ hi'))) ⟨i1, i2, ?_⟩ (fun i hi' h1 h2 => ho i (fun e => h2 (e ▸ hown))) (fun i hi' => .inl hi') (fun _ h => h) (fun i hi' => hi.si j hj' i hi')
    · rw [hset] at this; exact this
    · have h5 : ROwns w 0 3 (.slice (some ⟨g, 0, none⟩) (ic is[j].2.2).length c) (ic is[j].2.2) := by rw [ic_length, ← hv]; exact i3
      have h6 := (h5.stored k (.int .i64 z)).1
      rw [ic_length, ← hv] at h6
      have : ic (is[j].2.2.set k z) = (ic is[j].2.2).set k (.int .i64 z) := by simp [ic, List.map_set]
      show ROwns _ 0 3 ti[j].2.2 (ic (is[j].2.2.set k z))
      rw [this]; exact h6) ho
  exact ⟨q1, (Chg.refl S w).setCell q2 _⟩
/-- The links of an inode are turned. -/
theorem setLinks (h : DL w S u v iv bv ti tb xs ys is bs) (j : Nat) (hj : j < is.length) {g c n : Nat} (hv : iv = .slice (some ⟨g, 0, none⟩) n c) (z : Int) :
    DO (w.setCell ⟨g, j * 3 + 1, none⟩ (.int .i64 z)) S u v iv bv xs ys (is.set j (is[j].1, z, is[j].2.2)) bs ∧ Chg S w (w.setCell ⟨g, j * 3 + 1, none⟩ (.int .i64 z)) := by
  have ho : ∀ i, i ≠ g → (w.setCell ⟨g, j * 3 + 1, none⟩ (.int .i64 z)).heap[i]? = w.heap[i]? := fun i hi => heap_setCell_other w ⟨g, j * 3 + 1, none⟩ i _ (by simpa using hi)
  have hl := h.inoAt.len
  have hj' : j < ti.length := by omega
  obtain ⟨q1, q2⟩ := h.turnI (w' := w.setCell ⟨g, j * 3 + 1, none⟩ (.int .i64 z)) (ti' := ti.set j (ti[j].1, .int .i64 z, ti[j].2.2)) (is' := is.set j (is[j].1, z, is[j].2.2)) g (fun S2 hi => by
    have hn := hi.len_of hv
    subst hn
    have hvg : iv.ownBlock = some g := by rw [hv]; rfl
    obtain ⟨i1, i2, i3⟩ := hi.inn j hj' hj
    refine ⟨hi.so g hvg, ?_⟩
    refine hi.turn (w' := w.setCell ⟨g, j * 3 + 1, none⟩ (.int .i64 z)) (S' := S2) j hj' _ _ ?_ ⟨i1, rfl, ?_⟩ (fun i hi' h1 h2 => ho i (fun e => h1 (e ▸ hvg))) (fun i hi' => .inl hi') (fun _ h => h) (fun i hi' => hi.si j hj' i hi')
    · have := (hv ▸ hi.row : TOwns w KI.T (.slice (some ⟨g, 0, none⟩) ti.length c) ti).set1 j hj' (.int .i64 z)
      rw [hv]; exact this
    · exact ROwns.of_heap i3 fun k hk => ho k (fun e => hi.out j hj' k hk (by rw [hvg, e]))) ho
  exact ⟨q1.do_, (Chg.refl S w).setCell q2 _⟩
/-- A slot is taken away. -/
theorem clrSlot (h : DL w S u v iv bv ti tb xs ys is bs) (j : Nat) (hj : j < bs.length) {g c : Nat} (hv : (tb.getD j zB3).2.1 = .slice (some ⟨g, 0, none⟩) bs[j].2.1.length c) (s : Nat) (hs : s < bs[j].2.1.length) (t : ByteArray) (z : Int) :
    DL ((w.setCell ⟨g, s * 2, none⟩ (.string t)).setCell ⟨g, s * 2 + 1, none⟩ (.int .i64 z)) S u v iv bv ti tb xs ys is (bs.set j (bs[j].1, bs[j].2.1.set s (t, z), bs[j].2.2)) ∧ Chg S w ((w.setCell ⟨g, s * 2, none⟩ (.string t)).setCell ⟨g, s * 2 + 1, none⟩ (.int .i64 z)) := by
  have ho : ∀ i, i ≠ g → ((w.setCell ⟨g, s * 2, none⟩ (.string t)).setCell ⟨g, s * 2 + 1, none⟩ (.int .i64 z)).heap[i]? = w.heap[i]? := fun i hi => (heap_setCell_other _ ⟨g, s * 2 + 1, none⟩ i _ (by simpa using hi)).trans (heap_setCell_other w ⟨g, s * 2, none⟩ i _ (by simpa using hi))
  obtain ⟨q1, q2⟩ := h.turnB (w' := (w.setCell ⟨g, s * 2, none⟩ (.string t)).setCell ⟨g, s * 2 + 1, none⟩ (.int .i64 z)) (tb' := tb) (bs' := bs.set j (bs[j].1, bs[j].2.1.set s (t, z), bs[j].2.2)) g (fun S2 hi => by
    have hl := hi.len
    have hj' : j < tb.length := by omega
    have ed : tb.getD j zB3 = tb[j] := by simp [List.getD, hj']
    rw [ed] at hv
    have hown : (KB.p tb[j]).ownBlock = some g := by show tb[j].2.1.ownBlock = _; rw [hv]; rfl
    obtain ⟨i1, i2, i3⟩ := hi.inn j hj' hj
    have hset : tb.set j tb[j] = tb := List.set_getElem_self hj'
    refine ⟨hi.si j hj' g hown, ?_⟩
    have := hi.turn (w' := (w.setCell ⟨g, s * 2, none⟩ (.string t)).setCell ⟨g, s * 2 + 1, none⟩ (.int .i64 z)) (S' := S2) j hj' tb[j] (bs[j].1, bs[j].2.1.set s (t, z), bs[j].2.2) (by rw [hset]; exact hi.row.of_heap fun i hi' => ho i (fun e => hi.out j hj' g hown (e ▸ hi'))) ⟨i1, ?_, i3⟩ (fun i hi' h1 h2 => ho i (fun e => h2 (e ▸ hown))) (fun i hi' => .inl hi') (fun _ h => h) (fun i hi' => hi.si j hj' i hi')
    · rw [hset] at this; exact this
    · have h5 : SOwns w 0 74 (.slice (some ⟨g, 0, none⟩) bs[j].2.1.length c) bs[j].2.1 := by rw [← hv]; exact i2
      have h6 := (h5.set_both s hs t z).1
      rw [← hv] at h6
      exact h6) ho
  exact ⟨q1, ((Chg.refl S w).setCell q2 _).setCell q2 _⟩
end DL
end Go.Proofs.YtbebgnknjoclkaaGreat.Kit
/- Of the specification: l15Had by its contract. -/
namespace Go.Proofs.YtbebgnknjoclkaaGreat
open Go.RowKit Kit
/-- The blocks that reached inodes have. -/
def hadL (is : List Ino) (bs : List Blk) : List Int := (ptrL is (reachL is bs)).map (·.2)
/-- A list under way: of old only its first block changes. -/
structure Ho (w w1 wr : World) (sv : Value) (cur : List Int) : Prop where
  o : ROwns wr (w.heap.size + 1) 3 sv (ic cur)
  c : Chg (fun k => k = w.heap.size + 1) w1 wr
  n : ∀ k, sv.ownBlock = some k → k = w.heap.size + 1 ∨ w1.heap.size ≤ k
theorem Ho.below {w w1 wr wr' : World} {sv : Value} {cur : List Int} (h : Ho w w1 wr sv cur) (hb : Below wr.heap.size wr wr') : Ho w w1 wr' sv cur := ⟨h.o.below hb (Nat.le_refl _), h.c.trans (Chg.of_below hb), h.n⟩
theorem Ho.app {w w1 W w9 : World} {sv v9 : Value} {cur new : List Int} (h : Ho w w1 W sv cur) (h9 : ROwns w9 (w.heap.size + 1) 3 v9 (ic new)) (G9 : W.grownBy w9 sv.ownBlock) (V9 : ∀ k, v9.ownBlock = some k → sv.ownBlock = some k ∨ W.heap.size ≤ k) : Ho w w1 w9 v9 new :=
  ⟨h9, ⟨G9.os.trans h.c.os, G9.tape.trans h.c.tape, G9.output.trans h.c.output, Nat.le_trans h.c.size G9.size, fun k hk hn => (G9.block k (Nat.lt_of_lt_of_le hk h.c.size) (fun e => by rcases h.n k e.symm with e | e; exact hn e; omega)).trans (h.c.block k hk hn)⟩, fun k hk => (V9 k hk).elim (h.n k) (fun e => .inr (Nat.le_trans h.c.size e))⟩
theorem curP_len {is : List Ino} {bs : List Blk} (h : RD is bs) (l : List Int) : ((ptrL is l).map (·.2)).length ≤ l.length * 2 := by rw [List.length_map]; exact ptrL_len h l
set_option maxRecDepth 100000 in
set_option maxHeartbeats 6400000 in
theorem had_any (dx dy iv bv : Value) (xs ys : List Bool) (is : List Ino) (bs : List Blk) (w : World) (h : DR w dx dy iv bv xs ys is bs) (hX : RX xs ys is bs) :
    Calls Tryz.prog 40 #[.agg #[dx, dy, iv, bv]] w fun e w' => ∃ v, e = .returned v ∧ ROwns w' w.heap.size 3 v (ic (hadL is bs)) ∧ Below w.heap.size w w' := by
  obtain ⟨a1, c1, a2, c2, a3, c3, a4, c4, rfl, rfl, rfl, rfl⟩ := h.form
  have HL : Hid (is.length = 8) := hX.r.hi
  have HH := hide h
  have HL0 : Hid (ROwns ((w.alloc (.cells #[.slice a1 xs.length c1, .slice a2 ys.length c2, .slice a3 is.length c3, .slice a4 bs.length c4] 34)).alloc (.cells #[] 3)) (w.heap.size + 1) 3 (.slice (some ⟨w.heap.size + 1, 0, none⟩) 0 0) (ic []) ∧ Below w.heap.size w ((w.alloc (.cells #[.slice a1 xs.length c1, .slice a2 ys.length c2, .slice a3 is.length c3, .slice a4 bs.length c4] 34)).alloc (.cells #[] 3)) ∧ AtC ((w.alloc (.cells #[.slice a1 xs.length c1, .slice a2 ys.length c2, .slice a3 is.length c3, .slice a4 bs.length c4] 34)).alloc (.cells #[] 3)) w.heap.size 34 #[.slice a1 xs.length c1, .slice a2 ys.length c2, .slice a3 is.length c3, .slice a4 bs.length c4] ∧ ((w.alloc (.cells #[.slice a1 xs.length c1, .slice a2 ys.length c2, .slice a3 is.length c3, .slice a4 bs.length c4] 34)).alloc (.cells #[] 3)).heap.size = w.heap.size + 2) := by
    have l0 := ROwns.lit0 (w.alloc (.cells #[.slice a1 xs.length c1, .slice a2 ys.length c2, .slice a3 is.length c3, .slice a4 bs.length c4] 34)) (w.heap.size + 1) 3 (by simp)
    have e0 : (w.alloc (.cells #[.slice a1 xs.length c1, .slice a2 ys.length c2, .slice a3 is.length c3, .slice a4 bs.length c4] 34)).heap.size = w.heap.size + 1 := by simp
    rw [e0] at l0
    exact ⟨l0, ((Below.refl _ w).alloc (Nat.le_refl _) _).alloc (by simp) _, (AtC.new w 34 _).alloc _, by simp⟩
  have CR := hide (specReach_any (.slice a1 xs.length c1) (.slice a2 ys.length c2) (.slice a3 is.length c3) (.slice a4 bs.length c4) xs ys is bs ((w.alloc (.cells #[.slice a1 xs.length c1, .slice a2 ys.length c2, .slice a3 is.length c3, .slice a4 bs.length c4] 34)).alloc (.cells #[] 3)) (h.below HL0.out.2.1 (Nat.le_refl _)) hX.r)
  have z0 : ((w.alloc (.cells #[.slice a1 xs.length c1, .slice a2 ys.length c2, .slice a3 is.length c3, .slice a4 bs.length c4] 34)).alloc (.cells #[] 3)).cell? ⟨w.heap.size, 0, none⟩ = some (.slice a1 xs.length c1) := HL0.out.2.2.1.cell 0
  have z1 : ((w.alloc (.cells #[.slice a1 xs.length c1, .slice a2 ys.length c2, .slice a3 is.length c3, .slice a4 bs.length c4] 34)).alloc (.cells #[] 3)).cell? ⟨w.heap.size, 1, none⟩ = some (.slice a2 ys.length c2) := HL0.out.2.2.1.cell 1
  have z2 : ((w.alloc (.cells #[.slice a1 xs.length c1, .slice a2 ys.length c2, .slice a3 is.length c3, .slice a4 bs.length c4] 34)).alloc (.cells #[] 3)).cell? ⟨w.heap.size, 2, none⟩ = some (.slice a3 is.length c3) := HL0.out.2.2.1.cell 2
  have z3 : ((w.alloc (.cells #[.slice a1 xs.length c1, .slice a2 ys.length c2, .slice a3 is.length c3, .slice a4 bs.length c4] 34)).alloc (.cells #[] 3)).cell? ⟨w.heap.size, 3, none⟩ = some (.slice a4 bs.length c4) := HL0.out.2.2.1.cell 3
  have HRG : Hid (∀ i ∈ reachL is bs, 1 ≤ i ∧ i ≤ 8) := fun i hi => reach8 hi
  have HR8 := hide (reachL_len is bs)
  have HCU : Hid (∀ l, ((ptrL is l).map (·.2)).length ≤ l.length * 2) := curP_len hX.r
  have HP2 : Hid (∀ i, (ptrsAt is i).length ≤ 2) := ptrsAt_len hX.r
  have HPR : Hid (∀ i, ∀ p ∈ ptrsAt is i, 0 ≤ p ∧ p ≤ 16) := fun i p hp => hX.ptr hp
  have HFIN : Hid (hadL is bs = (ptrL is (reachL is bs)).map (·.2)) := rfl
  rw [HFIN.out]
  obtain ⟨RL, hRL⟩ : ∃ l, reachL is bs = l := ⟨_, rfl⟩
  rw [hRL] at CR HRG HR8 ⊢
  clear h hX hRL HFIN
  go_enter Tryz.func40, Tryz.ntmps40
  go_wp2_with fail
  refine CR.out.mono ?_
  rintro e w1 ⟨rv, rfl, R1, B1⟩
  have HB1 : Hid (Below w.heap.size w w1 ∧ AtC w1 w.heap.size 34 #[.slice a1 xs.length c1, .slice a2 ys.length c2, .slice a3 is.length c3, .slice a4 bs.length c4] ∧ w.heap.size + 2 ≤ w1.heap.size) := ⟨HL0.out.2.1.trans (B1.mono HL0.out.2.1.size), HL0.out.2.2.1.over B1, by have := B1.size; have := HL0.out.2.2.2; omega⟩
  have HO0 : Hid (Ho w w1 w1 (.slice (some ⟨w.heap.size + 1, 0, none⟩) 0 0) ((ptrL is (RL.take 0)).map (·.2))) := ⟨by simpa [ptrL] using HL0.out.1.below B1 (Nat.le_refl _), Chg.refl _ _, fun k hk => by simp [Value.ownBlock] at hk; exact .inl hk.symm⟩
  obtain ⟨ra, rc, rfl, -⟩ := R1.form
  rw [ic_length] at R1 ⊢
  have HCR : Hid (∀ wr sv cur, Ho w w1 wr sv cur → RInts wr (.slice ra RL.length rc) RL) := fun wr sv cur hh => (R1.of_heap fun k hk => hh.c.block k (R1.lt k hk).2 (fun e => by have h1 := (R1.lt k hk).1; rw [HL0.out.2.2.2] at h1; omega)).rints
  have HOB : Hid (∀ wr sv cur, Ho w w1 wr sv cur → Below w.heap.size w wr ∧ AtC wr w.heap.size 34 #[.slice a1 xs.length c1, .slice a2 ys.length c2, .slice a3 is.length c3, .slice a4 bs.length c4]) := fun wr sv cur hh => ⟨HB1.out.1.trans (hh.c.below HB1.out.1.size (fun k hk => by rw [hk]; omega)), (hh.c.block _ HB1.out.2.1.lt (fun e => by omega)).trans HB1.out.2.1⟩
  have r8 : RL.length ≤ 8 := HR8.out
  clear R1 B1 CR HL0 z0 z1 z2 z3
  go_wp2_with fail
  go_loopw [3, 5] (fun sv kv wr => ∃ (s' : Value) (q : Nat), s' = sv ∧ q ≤ RL.length ∧ kv = .int .i64 q ∧ Hid (Ho w w1 wr s' ((ptrL is (RL.take q)).map (·.2)))) (fun _ kv _ => RL.length - (intOf kv).toNat)
  case atStart => exact ⟨_, 0, rfl, Nat.zero_le _, rfl, HO0.out⟩
  case round =>
    obtain ⟨sv, q, hsv, hq, rfl, HQ⟩ := hrel
    subst hsv
    clear HO0
    obtain ⟨wo, hwo⟩ : ∃ W, W = wr := ⟨_, rfl⟩
    subst hwo
    have q0 : (0 : Int) ≤ (q : Int) := by omega
    by_cases hlt : q < RL.length
    rotate_left
    · have q1 : ¬ ((q : Int) < (RL.length : Int)) := by omega
      go_wp2
      go_ret
      have := HQ.out.o
      rw [List.take_of_length_le (by omega)] at this
      exact ⟨_, rfl, this.base_le (by omega), (HOB.out _ _ _ HQ.out).1⟩
    have q1 : (q : Int) < (RL.length : Int) := by omega
    obtain ⟨ca, cc, ec, hcr⟩ := HCR.out _ _ _ HQ.out
    simp only [Value.slice.injEq, true_and] at ec
    obtain ⟨rfl, rfl⟩ := ec
    obtain ⟨gr, orr, rfl, hgr, kr⟩ := hcr q hlt
    have hrg := HRG.out _ (List.getElem_mem hlt)
    have HSN := hide (ptrL_take is RL q hlt)
    have hcu := HCU.out (RL.take q)
    rw [List.length_take] at hcu
    obtain ⟨di, hdi⟩ : ∃ x, RL[q] = x := ⟨_, rfl⟩
    rw [hdi] at HSN
    rw [hdi] at kr hrg
    obtain ⟨j, rfl⟩ : ∃ j : Nat, di = (j : Int) + 1 := ⟨(di - 1).toNat, by omega⟩
    have hj8 : j < 8 := by omega
    have hj : j < is.length := by have := HL.out; omega
    have j0 : (0 : Int) ≤ (j : Int) := by omega
    have j1 : (j : Int) < (is.length : Int) := by omega
    have hwj : IntKind.i64.wrap (j : Int) = (j : Int) := wrap_small _ (by omega) (by omega)
    obtain ⟨g2, o2, sa, sc, rfl, hg2, y0, y1, y2, rr⟩ := DR.ino HH.out j hj
    have hp2 := HP2.out ((j : Int) + 1)
    have HPN := hide (HPR.out ((j : Int) + 1))
    unfold ptrI at HSN
    obtain ⟨ps, hps⟩ : ∃ X, ptrsAt is ((j : Int) + 1) = X := ⟨_, rfl⟩
    rw [hps] at y2 rr hp2 HSN HPN
    obtain ⟨pa, pc', pe, hcp⟩ := rr
    simp only [Value.slice.injEq, true_and] at pe
    obtain ⟨rfl, rfl⟩ := pe
    have HCP := hide hcp
    obtain ⟨kd, hkd⟩ : ∃ k, kindAt is ((j : Int) + 1) = k := ⟨_, rfl⟩
    obtain ⟨ln, hln⟩ : ∃ k, is[j].2.1 = k := ⟨_, rfl⟩
    rw [hkd] at y0
    rw [hln] at y1
    have HOW := hide (HOB.out _ _ _ HQ.out)
    have HW : Hid (∀ W, Below wo.heap.size wo W → AtC W w.heap.size 34 #[.slice a1 xs.length c1, .slice a2 ys.length c2, .slice (some ⟨g2, o2, none⟩) is.length c3, .slice a4 bs.length c4] ∧ W.cell? ⟨gr, orr + q, none⟩ = some (.int .i64 ((j : Int) + 1)) ∧ (W.cell? ⟨g2, o2 + j * 3, none⟩ = some (.int .i64 kd) ∧ W.cell? ⟨g2, o2 + j * 3 + 1, none⟩ = some (.int .i64 ln) ∧ W.cell? ⟨g2, o2 + j * 3 + 2, none⟩ = some (.slice sa ps.length sc))) := fun W b => by
      have b0 := HOW.out.1.trans (b.mono HOW.out.1.size)
      exact ⟨HOW.out.2.over b, (b.cell (p := ⟨gr, orr + q, none⟩) hgr).trans kr, ⟨(b0.cell (p := ⟨g2, o2 + j * 3, none⟩) hg2).trans y0, (b0.cell (p := ⟨g2, o2 + j * 3 + 1, none⟩) hg2).trans y1, (b0.cell (p := ⟨g2, o2 + j * 3 + 2, none⟩) hg2).trans y2⟩⟩
    obtain ⟨c0, hc0⟩ : ∃ c, (ptrL is (RL.take q)).map (·.2) = c := ⟨_, rfl⟩
    have HC1 : Hid ((ptrL is (RL.take (q + 1))).map (·.2) = c0 ++ (ptrT ((j : Int) + 1) ps).map (·.2)) := hide (by rw [HSN.out, List.map_append, hc0]; rfl)
    rw [hc0] at HQ hcu
    clear hdi kr y0 y1 y2 hkd hln hps hcp hc0 hcr HSN
    go_upto_region 6 with fail
    go_cut [6] from 11 to 46 (fun pv wx => ∃ xb : Nat, pv = .pointer (some ⟨xb, 0, none⟩) ∧ AtC wx xb 65 #[.int .i64 kd, .int .i64 ln, .slice sa ps.length sc] ∧ Below wo.heap.size wo wx ∧ wo.heap.size ≤ xb)
    case first =>
      refine wp_region_alt (by kernel_rfl) [0, 1, 2, 3, 4, 5, 6, 7, 8, 9] [10] [] (fun i => match i with | 0 => .const [] (.pointer (some ⟨w.heap.size, 2, none⟩)) | 1 => .const [0] (.slice (some ⟨g2, o2, none⟩) is.length c3) | 2 => .const [] (.slice (some ⟨gr, orr, none⟩) RL.length rc) | 3 => .const [] (.int .i64 (q : Int)) | 4 => .const [2, 3] (.pointer (some ⟨gr, orr + q, none⟩)) | 5 => .const [4] (.int .i64 ((j : Int) + 1)) | 6 => .const [5] (.int .i64 (j : Int)) | 7 => .const [1, 6] (.pointer (some ⟨g2, o2 + j * 3, none⟩)) | 8 => .const [7] (.agg #[.int .i64 kd, .int .i64 ln, .slice sa ps.length sc]) | 9 => MkW 65 #[.int .i64 0, .int .i64 0, .slice none 0 0] | _ => .triv) (fun x => ⟨#[Value.agg #[Value.slice a1 xs.length c1, Value.slice a2 ys.length c2, Value.slice (some { block := g2, off := o2 }) is.length c3, Value.slice a4 bs.length c4], Value.pointer (some { block := w.heap.size, off := 0 }), Value.slice none 0 0, sv, Value.slice (some { block := gr, off := orr }) RL.length rc, Value.int IntKind.i64 ↑q, x 9, u7, Value.slice (some { block := w.heap.size + 1, off := 0 }) 0 0, Value.agg #[Value.slice a1 xs.length c1, Value.slice a2 ys.length c2, Value.slice (some { block := g2, off := o2 }) is.length c3, Value.slice a4 bs.length c4], Value.slice (some { block := gr, off := orr }) RL.length rc, Value.int IntKind.i64 ↑q, Value.slice (some { block := gr, off := orr }) RL.length rc, Value.int IntKind.i64 ↑RL.length, Value.bool true, u15, u16, x 0, x 1, x 2, x 3, x 4, x 5, x 6, x 7, x 8, u26, u27, u28, u29, u30, u31, u32, u33, u34, u35, u36, u37, u38, u39, u40, u41, u42, u43, u44, u45, u46, undef], []⟩) (fun i => match i with | 0 => u17 | 1 => u18 | 2 => u19 | 3 => u20 | 4 => u21 | 5 => u22 | 6 => u23 | 7 => u24 | 8 => u25 | 9 => u6 | _ => undef) rfl (makersOk2_of (by kernel_rfl) (by kernel_rfl)) (by kernel_rfl) (by kernel_rfl) (by kernel_rfl) rfl ?_ ?_ (by intro q hq; cases hq)
      · intro jo hj so x iw W hd hp K hK
        simp only [List.mem_cons, List.not_mem_nil, or_false] at hj
        rcases hj with rfl | rfl | rfl | rfl | rfl | rfl | rfl | rfl | rfl | rfl
        · refine wpOp_step (o := _) rfl fun K' hK' => ?_
          have HK := hide (fun (v : Value) (W' : World) h1 h2 => hK' _ _ (hK v W' h1 h2))
          simp only [upd, Nat.reduceEqDiff, if_true, if_false] at HK
          clear hK hK' hp hd
          go_simp
          exact HK.out _ _ (Below.refl _ _) rfl
        · refine wpOp_step (o := _) rfl fun K' hK' => ?_
          have HK := hide (fun (v : Value) (W' : World) h1 h2 => hK' _ _ (hK v W' h1 h2))
          simp only [upd, Nat.reduceEqDiff, if_true, if_false] at HK
          have e0 : x 0 = .pointer (some ⟨w.heap.size, 2, none⟩) := hp.post 0 (hd 0 (show 0 ∈ [0] from by decide))
          have bw := HW.out W (of_drew hp.bel)
          have k0 : W.cell? ⟨w.heap.size, 2, none⟩ = some (.slice (some ⟨g2, o2, none⟩) is.length c3) := bw.1.cell 2
          clear bw
          clear hK hK' hp hd
          simp only [e0] at HK ⊢
          go_simp
          exact HK.out _ _ (Below.refl _ _) rfl
        · refine wpOp_step (o := _) rfl fun K' hK' => ?_
          have HK := hide (fun (v : Value) (W' : World) h1 h2 => hK' _ _ (hK v W' h1 h2))
          simp only [upd, Nat.reduceEqDiff, if_true, if_false] at HK
          clear hK hK' hp hd
          go_simp
          exact HK.out _ _ (Below.refl _ _) rfl
        · refine wpOp_step (o := _) rfl fun K' hK' => ?_
          have HK := hide (fun (v : Value) (W' : World) h1 h2 => hK' _ _ (hK v W' h1 h2))
          simp only [upd, Nat.reduceEqDiff, if_true, if_false] at HK
          clear hK hK' hp hd
          go_simp
          exact HK.out _ _ (Below.refl _ _) rfl
        · refine wpOp_step (o := _) rfl fun K' hK' => ?_
          have HK := hide (fun (v : Value) (W' : World) h1 h2 => hK' _ _ (hK v W' h1 h2))
          simp only [upd, Nat.reduceEqDiff, if_true, if_false] at HK
          have e2 : x 2 = .slice (some ⟨gr, orr, none⟩) RL.length rc := hp.post 2 (hd 2 (show 2 ∈ [2, 3] from by decide))
          have e3 : x 3 = .int .i64 (q : Int) := hp.post 3 (hd 3 (show 3 ∈ [2, 3] from by decide))
          clear hK hK' hp hd
          simp only [e2, e3] at HK ⊢
          go_simp
          exact HK.out _ _ (Below.refl _ _) rfl
        · refine wpOp_step (o := _) rfl fun K' hK' => ?_
          have HK := hide (fun (v : Value) (W' : World) h1 h2 => hK' _ _ (hK v W' h1 h2))
          simp only [upd, Nat.reduceEqDiff, if_true, if_false] at HK
          have e4 : x 4 = .pointer (some ⟨gr, orr + q, none⟩) := hp.post 4 (hd 4 (show 4 ∈ [4] from by decide))
          have bw := HW.out W (of_drew hp.bel)
          have k0 := bw.2.1
          clear bw
          clear hK hK' hp hd
          simp only [e4] at HK ⊢
          go_simp
          exact HK.out _ _ (Below.refl _ _) rfl
        · refine wpOp_step (o := _) rfl fun K' hK' => ?_
          have HK := hide (fun (v : Value) (W' : World) h1 h2 => hK' _ _ (hK v W' h1 h2))
          simp only [upd, Nat.reduceEqDiff, if_true, if_false] at HK
          have e5 : x 5 = .int .i64 ((j : Int) + 1) := hp.post 5 (hd 5 (show 5 ∈ [5] from by decide))
          clear hK hK' hp hd
          simp only [e5] at HK ⊢
          go_simp
          exact HK.out _ _ (Below.refl _ _) rfl
        · refine wpOp_step (o := _) rfl fun K' hK' => ?_
          have HK := hide (fun (v : Value) (W' : World) h1 h2 => hK' _ _ (hK v W' h1 h2))
          simp only [upd, Nat.reduceEqDiff, if_true, if_false] at HK
          have e1 : x 1 = .slice (some ⟨g2, o2, none⟩) is.length c3 := hp.post 1 (hd 1 (show 1 ∈ [1, 6] from by decide))
          have e6 : x 6 = .int .i64 (j : Int) := hp.post 6 (hd 6 (show 6 ∈ [1, 6] from by decide))
          clear hK hK' hp hd
          simp only [e1, e6] at HK ⊢
          go_simp
          exact HK.out _ _ (Below.refl _ _) rfl
        · refine wpOp_step (o := _) rfl fun K' hK' => ?_
          have HK := hide (fun (v : Value) (W' : World) h1 h2 => hK' _ _ (hK v W' h1 h2))
          simp only [upd, Nat.reduceEqDiff, if_true, if_false] at HK
          have e7 : x 7 = .pointer (some ⟨g2, o2 + j * 3, none⟩) := hp.post 7 (hd 7 (show 7 ∈ [7] from by decide))
          have bw := HW.out W (of_drew hp.bel)
          obtain ⟨k0, k1, k2⟩ := bw.2.2
          clear bw
          clear hK hK' hp hd
          simp only [e7] at HK ⊢
          go_simp
          exact HK.out _ _ (Below.refl _ _) rfl
        · refine wpOp_step (o := _) rfl fun K' hK' => ?_
          have HK := hide (fun (v : Value) (W' : World) h1 h2 => hK' _ _ (hK v W' h1 h2))
          simp only [upd, Nat.reduceEqDiff, if_true, if_false] at HK
          clear hK hK' hp hd
          go_simp
          exact HK.out _ _ ((Below.refl _ W).alloc (Nat.le_refl _) _) ⟨rfl, by simp, AtC.new W 65 _⟩
      · intro x iw W hp
        have e8 : x 8 = .agg #[.int .i64 kd, .int .i64 ln, .slice sa ps.length sc] := hp.post 8 (by decide)
        obtain ⟨e9, z9, A9⟩ := hp.post 9 (by decide)
        have l9 := hp.lo 9 (by decide)
        have bel := of_drew hp.bel
        have hb9 : wo.heap.size ≤ (iw 9).1 := l9.1
        have y0 : W.cell? ⟨(iw 9).1, 0, none⟩ = some (.int .i64 0) := A9.cell 0
        have y1 : W.cell? ⟨(iw 9).1, 1, none⟩ = some (.int .i64 0) := A9.cell 1
        have y2 : W.cell? ⟨(iw 9).1, 2, none⟩ = some (.slice none 0 0) := A9.cell 2
        have f0 := A9.frozen 0
        have f1 := A9.frozen 1
        have f2 := A9.frozen 2
        have HFI : Hid (AtC W (iw 9).1 65 #[.int .i64 0, .int .i64 0, .slice none 0 0] ∧ Below wo.heap.size wo W ∧ wo.heap.size ≤ (iw 9).1) := ⟨A9, bel, hb9⟩
        clear hp A9 bel l9 z9 hb9
        simp only [e8, e9] at *
        generalize (iw 9).1 = bw at *
        go_wp2_with fail
        try rw [List.filterMap_nil]
        try go_wp2_with fail
        go_meet
        exact ⟨bw, rfl, ((HFI.out.1.set 0 _).set 1 _).set 2 _, ((HFI.out.2.1.setCell (p := ⟨bw, 0, none⟩) HFI.out.2.2 _).setCell (p := ⟨bw, 1, none⟩) HFI.out.2.2 _).setCell (p := ⟨bw, 2, none⟩) HFI.out.2.2 _, HFI.out.2.2⟩
    case rest =>
      obtain ⟨xb, rfl, hAx, hB2, hxb⟩ := hcut
      have HX2 : Hid (Ho w w1 wc sv (c0 ++ (ptrT ((j : Int) + 1) (ps.take 0)).map (·.2)) ∧ AtC wc xb 65 #[.int .i64 kd, .int .i64 ln, .slice sa ps.length sc] ∧ (∀ k, sv.ownBlock = some k → k ≠ xb)) := ⟨by have := HQ.out.below hB2; simpa [ptrT] using this, hAx, fun k hk e => by have := (HQ.out.o.lt k hk).2; omega⟩
      clear hAx hB2 hxb HW HQ HOW
      go_wp2_with fail
      go_loopw [3, 7] (fun sv kv wr => ∃ (s' : Value) (t : Nat), s' = sv ∧ t ≤ ps.length ∧ kv = .int .i64 t ∧ Hid (Ho w w1 wr s' (c0 ++ (ptrT ((j : Int) + 1) (ps.take t)).map (·.2)) ∧ AtC wr xb 65 #[.int .i64 kd, .int .i64 ln, .slice sa ps.length sc] ∧ (∀ k, s'.ownBlock = some k → k ≠ xb))) (fun _ kv _ => ps.length - (intOf kv).toNat)
      case atStart => exact ⟨_, 0, rfl, Nat.zero_le _, rfl, HX2.out⟩
      case round =>
        obtain ⟨sv', t, hsv, ht, rfl, HT⟩ := hrel
        subst hsv
        clear HX2
        have t0 : (0 : Int) ≤ (t : Int) := by omega
        have x7 : wr.cell? ⟨xb, 2, none⟩ = some (.slice sa ps.length sc) := HT.out.2.1.cell 2
        by_cases htl : t < ps.length
        rotate_left
        · have t1 : ¬ ((t : Int) < (ps.length : Int)) := by omega
          have HE : Hid (Ho w w1 wr sv' ((ptrL is (RL.take (q + 1))).map (·.2))) := by
            have := HT.out.1
            rw [List.take_of_length_le (show ps.length ≤ t by omega)] at this
            show Ho _ _ _ _ _
            rw [HC1.out]
            exact this
          go_wp2
          go_roundw
          case rel => exact ⟨sv', q + 1, rfl, by omega, by go_num, HE.out⟩
          case measure => simp [intOf]; omega
        have t1 : (t : Int) < (ps.length : Int) := by omega
        obtain ⟨gp, op, rfl, hgp, kp⟩ := HCP.out t htl
        replace kp := ((HOB.out _ _ _ HT.out.1).1.cell (p := ⟨gp, op + t, none⟩) hgp).trans kp
        have HTT := hide (ptrT_take ((j : Int) + 1) ps t htl)
        have htn := ptrT_len ((j : Int) + 1) (ps.take t)
        rw [List.length_take] at htn
        have hpr := HPN.out _ (List.getElem_mem htl)
        obtain ⟨Pn, hPn⟩ : ∃ x, ps[t] = x := ⟨_, rfl⟩
        rw [hPn] at kp HTT hpr
        clear hPn
        by_cases hp0 : 0 < Pn
        rotate_left
        · have HF : Hid (ptrT ((j : Int) + 1) (ps.take (t + 1)) = ptrT ((j : Int) + 1) (ps.take t)) := hide (by
            have := HTT.out
            have e : inB Pn 1 16 = false := by simp [inB]; omega
            rw [e] at this
            simpa using this)
          have hg : decide (Pn > 0) = false := decide_eq_false hp0
          go_wp2
          go_roundw
          case rel => exact ⟨sv', t + 1, rfl, by omega, by go_num, by rw [HF.out]; exact HT.out⟩
          case measure => simp [intOf]; omega
        have HF : Hid (ic (c0 ++ (ptrT ((j : Int) + 1) (ps.take t)).map (·.2)) ++ [.int .i64 Pn] = ic (c0 ++ (ptrT ((j : Int) + 1) (ps.take (t + 1))).map (·.2))) := hide (by
          have := HTT.out
          have e : inB Pn 1 16 = true := by simp [inB]; omega
          rw [e, if_pos rfl] at this
          rw [this]
          simp [ic])
        have HAL : Hid (Ho w w1 (wr.alloc (.cells #[.int .i64 Pn] 3)) sv' (c0 ++ (ptrT ((j : Int) + 1) (ps.take t)).map (·.2)) ∧ AtC (wr.alloc (.cells #[.int .i64 Pn] 3)) xb 65 #[.int .i64 kd, .int .i64 ln, .slice (some ⟨gp, op, none⟩) ps.length sc] ∧ (wr.alloc (.cells #[.int .i64 Pn] 3)).cell? ⟨wr.heap.size, 0, none⟩ = some (.int .i64 Pn) ∧ w.heap.size + 1 ≤ (wr.alloc (.cells #[.int .i64 Pn] 3)).heap.size) := ⟨HT.out.1.below ((Below.refl _ wr).alloc (Nat.le_refl _) _), HT.out.2.1.alloc _, (AtC.new wr 3 #[.int .i64 Pn]).cell 0, by have := HT.out.1.c.size; have := HB1.out.2.2; simp; omega⟩
        have HTL : Hid ((ic (c0 ++ (ptrT ((j : Int) + 1) (ps.take t)).map (·.2))).length ≤ 100000000000) := by show _ ≤ _; rw [ic_length, List.length_append, List.length_map]; omega
        have HXB := hide (And.intro HT.out.2.2 HT.out.2.1.lt)
        clear HT HTT
        go_wp2_with (at_builtin; refine wpList_step fun K' hK' => ?_; refine step_append_one _ rfl (.tmp 39) (.tmp 45) 56 rfl (w.heap.size + 1) 3 Tryz.u56 _ 8 Tryz.i3 rfl (by decide) sv' _ rfl HAL.out.1.o HAL.out.2.2.2 wr.heap.size (.int .i64 Pn) rfl HAL.out.2.2.1 rfl HTL.out ?_; intro v9 w9 T9 G9 V9; refine hK' _ _ ?_; rw [HF.out] at T9; have HR9 := hide (And.intro (HAL.out.1.app T9 G9 V9) (And.intro (HAL.out.2.1.grown G9 (fun e => HXB.out.1 _ e rfl)) (fun k (hk : v9.ownBlock = some k) => (V9 k hk).elim (HXB.out.1 k) (fun e => by have := HXB.out.2; simp at e; omega)))); clear T9 G9 V9 hK')
        go_roundw
        case rel => exact ⟨v9, t + 1, rfl, by omega, by go_num, HR9.out⟩
        case measure => simp [intOf]; omega
end Go.Proofs.YtbebgnknjoclkaaGreat
/- impl.reachedBits by its contract. -/
namespace Go.Proofs.YtbebgnknjoclkaaGreat.Kit
open Go.RowKit
/-- A slice that was just made. -/
def MkMs (T : TypeId) (Z : Array Value) (n : Nat) : Mk := .val [] (fun lo _ w v => v = .slice (some ⟨lo, 0, none⟩) n n ∧ AtC w lo T Z) (fun _ _ _ _ _ h hb => ⟨h.1, h.2.over hb⟩)
/-- A struct of two. -/
def MkB2 : Mk := ⟨[0, 1], fun _ _ _ v x => v = .agg #[x 0, x 1], fun _ _ _ _ _ _ h _ => h, fun _ _ _ _ x x' e h => by rw [← e 0 (by decide), ← e 1 (by decide)]; exact h⟩
/-- Flags of those that were met. -/
structure HadN (m : Nat) (l : List Int) (k : Nat) (h : List Bool) : Prop where
  n : h.length = m
  f : ∀ q : Nat, q < m → h.getD q false = decide (((q : Int) + 1) ∈ l.take k)
theorem HadN.begin (n : Nat) (l : List Int) : HadN n l 0 (List.replicate n false) := ⟨List.length_replicate, fun q _ => by
  rw [show l.take 0 = [] from rfl, List.getD_eq_getElem?_getD, List.getElem?_replicate]
  simp only [List.not_mem_nil, decide_false]
  split <;> rfl⟩
theorem HadN.next {n : Nat} {l : List Int} {k q : Nat} {h : List Bool} (H : HadN n l k h) (hk : k < l.length) (he : l[k] = (q : Int) + 1) (hq : q < n) : HadN n l (k + 1) (h.set q true) := by
  refine ⟨by rw [List.length_set]; exact H.n, fun r hr => ?_⟩
  rw [getD_set (by rw [H.n]; exact hq), List.take_succ_eq_append_getElem hk, he]
  by_cases e : r = q
  · subst e; rw [if_pos rfl]; simp
  · rw [if_neg e, H.f r hr]
    have : ¬ ((r : Int) + 1 = (q : Int) + 1) := by omega
    simp [this]
/-- Bits under way. -/
structure RB (w wr : World) (D : Array Value) (pb gB gI : Nat) (hB hI : List Bool) : Prop where
  b : Below w.heap.size w wr
  d : AtC wr w.heap.size 34 D
  r : AtC wr (w.heap.size + 1) 30 #[.slice none 0 0, .slice none 0 0]
  p : AtC wr pb 30 #[.slice (some ⟨gB, 0, none⟩) 16 16, .slice (some ⟨gI, 0, none⟩) 8 8]
  B : AtC wr gB 4 (hA hB)
  I : AtC wr gI 4 (hA hI)
/-- How these lie. -/
structure RP (w : World) (pb gB gI : Nat) : Prop where
  p : w.heap.size + 1 < pb
  B : w.heap.size + 1 < gB
  I : w.heap.size + 1 < gI
  pB : pb ≠ gB
  pI : pb ≠ gI
  BI : gB ≠ gI
theorem RB.below {w wr wr' : World} {D : Array Value} {pb gB gI : Nat} {hB hI : List Bool} (h : RB w wr D pb gB gI hB hI) (hb : Below wr.heap.size wr wr') : RB w wr' D pb gB gI hB hI := ⟨h.b.trans (hb.mono h.b.size), h.d.over hb, h.r.over hb, h.p.over hb, h.B.over hb, h.I.over hb⟩
theorem RB.setI {w wr : World} {D : Array Value} {pb gB gI : Nat} {hB hI : List Bool} (h : RB w wr D pb gB gI hB hI) (P : RP w pb gB gI) (k : Nat) : RB w (wr.setCell ⟨gI, k, none⟩ (.bool true)) D pb gB gI hB (hI.set k true) := by
  have h1 := P.I
  exact ⟨h.b.setCell (p := ⟨gI, k, none⟩) (by show w.heap.size ≤ gI; omega) _, h.d.other (by omega) _, h.r.other (by omega) _, h.p.other P.pI _, h.B.other P.BI _, by rw [← hA_set]; exact h.I.set k _⟩
theorem RB.setB {w wr : World} {D : Array Value} {pb gB gI : Nat} {hB hI : List Bool} (h : RB w wr D pb gB gI hB hI) (P : RP w pb gB gI) (k : Nat) : RB w (wr.setCell ⟨gB, k, none⟩ (.bool true)) D pb gB gI (hB.set k true) hI := by
  have h1 := P.B
  exact ⟨h.b.setCell (p := ⟨gB, k, none⟩) (by show w.heap.size ≤ gB; omega) _, h.d.other (by omega) _, h.r.other (by omega) _, h.p.other P.pB _, by rw [← hA_set]; exact h.B.set k _, h.I.other (fun e => P.BI e.symm) _⟩
theorem hA_rfl {w : World} {g n : Nat} {h : List Bool} (ha : AtC w g 4 (hA h)) (hn : h.length = n) : RFl w (.slice (some ⟨g, 0, none⟩) n n) h := by
  subst hn
  refine ⟨_, _, rfl, fun j hj => ⟨g, 0, rfl, ha.lt, ?_⟩⟩
  rw [Nat.zero_add, ha.cell j, hA_get h j hj]
  simp [hj]
theorem hA_own {w : World} {g n base : Nat} {h : List Bool} (ha : AtC w g 4 (hA h)) (hn : h.length = n) (hm : n ≤ maxLen) (hb : base ≤ g) : ROwns w base 4 (.slice (some ⟨g, 0, none⟩) n n) (fc h) := by
  subst hn
  have hs : (hA h).size = h.length * 1 := by simp [hA]
  have hl : (fc h).length = h.length := by simp [fc]
  show w.ownsRow base 4 1 (.slice (some ⟨g, 0, none⟩) h.length h.length) (fc h).length (fc h)
  rw [hl]
  refine ⟨by rw [hl]; omega, .inr ⟨g, h.length, hA h, rfl, hb, ha, Nat.le_refl _, hm, hs, ?_⟩⟩
  rw [List.take_of_length_le (by simp [hA])]
  simp [hA, fc]
theorem atC_size {w : World} {a b : Nat} {S T : TypeId} {xs ys : Array Value} (h : AtC w a S xs) (h' : AtC w b T ys) (hn : xs.size ≠ ys.size) : a ≠ b := fun e => by
  subst e
  have := h.symm.trans h'
  simp only [Option.some.injEq, Obj.cells.injEq] at this
  exact hn (by rw [this.1])
end Go.Proofs.YtbebgnknjoclkaaGreat.Kit
namespace Go.Proofs.YtbebgnknjoclkaaGreat
open Go.RowKit Kit
theorem getD_at {α : Type} {l : List α} {k : Nat} (d : α) (h : k < l.length) : l.getD k d = l[k] := by simp [h]
theorem mem_ptrL {is : List Ino} {l : List Int} {s : Pr} (h : s ∈ ptrL is l) : s.1 ∈ l ∧ 1 ≤ s.2 ∧ s.2 ≤ 16 := by
  obtain ⟨i, hi, hs⟩ := List.mem_flatMap.1 h
  unfold ptrI at hs
  obtain ⟨p, hp, rfl⟩ := List.mem_map.1 hs
  have := inB_true (List.mem_filter.1 hp).2
  exact ⟨hi, this⟩
/-- The flags that are told. -/
def fI (is : List Ino) (bs : List Blk) : List Bool := (List.range 8).map fun j : Nat => (reachL is bs).contains ((j : Int) + 1)
def fB (is : List Ino) (bs : List Blk) : List Bool := (List.range 16).map fun p : Nat => (hadL is bs).contains ((p : Int) + 1)
theorem had_all {n : Nat} {l : List Int} {k : Nat} {h : List Bool} (H : HadN n l k h) (hk : l.length ≤ k) : h = (List.range n).map fun q : Nat => l.contains ((q : Int) + 1) := by
  apply List.ext_getElem (by rw [H.n]; simp)
  intro q h1 h2
  have hq : q < n := by rw [← H.n]; exact h1
  have := H.f q hq
  rw [List.take_of_length_le hk, getD_at false h1] at this
  rw [this]
  simp
set_option maxRecDepth 100000 in
set_option maxHeartbeats 6400000 in
theorem rBits_any (dx dy iv bv : Value) (xs ys : List Bool) (is : List Ino) (bs : List Blk) (w : World) (h : DR w dx dy iv bv xs ys is bs) (hX : RX xs ys is bs) :
    Calls Tryz.prog 87 #[.agg #[dx, dy, iv, bv]] w fun e w' => ∃ u v, e = .returned (.agg #[u, v]) ∧ Two w' w.heap.size u v (fB is bs) (fI is bs) ∧ Below w.heap.size w w' := by
  obtain ⟨a1, c1, a2, c2, a3, c3, a4, c4, rfl, rfl, rfl, rfl⟩ := h.form
  have CR := hide (fun (W : World) (hb : Below w.heap.size w W) => implReach_any (.slice a1 xs.length c1) (.slice a2 ys.length c2) (.slice a3 is.length c3) (.slice a4 bs.length c4) xs ys is bs W (h.below hb (Nat.le_refl _)) hX.r)
  have CP := hide (fun (W : World) (hb : Below w.heap.size w W) => rPtrs_any (.slice a1 xs.length c1) (.slice a2 ys.length c2) (.slice a3 is.length c3) (.slice a4 bs.length c4) xs ys is bs W (h.below hb (Nat.le_refl _)) hX.r)
  have HR8 := hide (reachL_len is bs)
  have HP16 : Hid ((ptrL is (reachL is bs)).length ≤ 16) := by show _ ≤ _; have h1 := ptrL_len hX.r (reachL is bs); have h2 := reachL_len is bs; omega
  obtain ⟨W0, hW0⟩ : ∃ W, ((w.alloc (.cells #[.slice a1 xs.length c1, .slice a2 ys.length c2, .slice a3 is.length c3, .slice a4 bs.length c4] 34)).alloc (.cells #[.slice none 0 0, .slice none 0 0] 30)) = W := ⟨_, rfl⟩
  have HA : Hid (AtC W0 w.heap.size 34 #[.slice a1 xs.length c1, .slice a2 ys.length c2, .slice a3 is.length c3, .slice a4 bs.length c4] ∧ AtC W0 (w.heap.size + 1) 30 #[.slice none 0 0, .slice none 0 0] ∧ Below w.heap.size w W0 ∧ W0.heap.size = w.heap.size + 2) := by
    rw [← hW0]
    have a := AtC.new (w.alloc (.cells #[.slice a1 xs.length c1, .slice a2 ys.length c2, .slice a3 is.length c3, .slice a4 bs.length c4] 34)) 30 #[.slice none 0 0, .slice none 0 0]
    rw [World.size_alloc] at a
    exact ⟨(AtC.new w 34 _).alloc _, a, ((Below.refl _ w).alloc (Nat.le_refl _) _).alloc (by simp) _, by simp⟩
  have hm8 : ∀ W : World, (Instr.makeSlice 22 (.int .i64 8) (.int .i64 8)).run Tryz.prog W = .ok (.slice (some ⟨W.heap.size, 0, none⟩) 8 8) (W.alloc (.cells (hA (List.replicate 8 false)) 4)) := make8
  have hm16 : ∀ W : World, (Instr.makeSlice 22 (.int .i64 16) (.int .i64 16)).run Tryz.prog W = .ok (.slice (some ⟨W.heap.size, 0, none⟩) 16 16) (W.alloc (.cells (hA (List.replicate 16 false)) 4)) := make16
  clear h hX
  go_enter Tryz.func87, Tryz.ntmps87
  go_upto_region 1 with fail
  clear hW0
  go_cut [3] from 8 to 37 (fun pv wx => ∃ pb gB gI : Nat, pv = .pointer (some ⟨pb, 0, none⟩) ∧ RP w pb gB gI ∧ RB w wx #[.slice a1 xs.length c1, .slice a2 ys.length c2, .slice a3 is.length c3, .slice a4 bs.length c4] pb gB gI (List.replicate 16 false) (List.replicate 8 false))
  case first =>
    refine wp_region_alt (by kernel_rfl) [0, 1, 2, 3] [4] [] (fun i => match i with | 0 => MkMs 4 (hA (List.replicate 16 false)) 16 | 1 => MkMs 4 (hA (List.replicate 8 false)) 8 | 2 => MkB2 | 3 => MkW 30 #[.slice none 0 0, .slice none 0 0] | _ => .triv) (fun x => ⟨#[Value.agg #[Value.slice a1 xs.length c1, Value.slice a2 ys.length c2, Value.slice a3 is.length c3, Value.slice a4 bs.length c4], Value.pointer (some { block := w.heap.size, off := 0 }), Value.pointer (some { block := w.heap.size + 1, off := 0 }), x 3, undef, undef, undef, undef, x 0, x 1, x 2, undef, undef, undef, undef, undef, undef, undef, undef, undef, undef, undef, undef, undef, undef, undef, undef, undef, undef, undef, undef, undef, undef, undef, undef, undef, undef, undef, undef], []⟩) (fun i => match i with | 0 => undef | 1 => undef | 2 => undef | 3 => undef | _ => undef) rfl (makersOk2_of (by kernel_rfl) (by kernel_rfl)) (by kernel_rfl) (by kernel_rfl) (by kernel_rfl) rfl ?_ ?_ (by intro q hq; cases hq)
    · intro jo hj so x iw W hd hp K hK
      simp only [List.mem_cons, List.not_mem_nil, or_false] at hj
      rcases hj with rfl | rfl | rfl | rfl
      · refine wpOp_step (o := _) rfl fun K' hK' => ?_
        have HK := hide (fun (v : Value) (W' : World) h1 h2 => hK' _ _ (hK v W' h1 h2))
        simp only [upd, Nat.reduceEqDiff, if_true, if_false] at HK
        clear hK hK' hp hd
        go_simp
        exact HK.out _ _ ((Below.refl _ W).alloc (Nat.le_refl _) _) ⟨rfl, AtC.new W 4 _⟩
      · refine wpOp_step (o := _) rfl fun K' hK' => ?_
        have HK := hide (fun (v : Value) (W' : World) h1 h2 => hK' _ _ (hK v W' h1 h2))
        simp only [upd, Nat.reduceEqDiff, if_true, if_false] at HK
        clear hK hK' hp hd
        go_simp
        exact HK.out _ _ ((Below.refl _ W).alloc (Nat.le_refl _) _) ⟨rfl, AtC.new W 4 _⟩
      · refine wpOp_step (o := _) rfl fun K' hK' => ?_
        have HK := hide (fun (v : Value) (W' : World) h1 h2 => hK' _ _ (hK v W' h1 h2))
        simp only [upd, Nat.reduceEqDiff, if_true, if_false] at HK
        have e0 : ∃ g, x 0 = .slice (some ⟨g, 0, none⟩) 16 16 := ⟨_, (hp.post 0 (hd 0 (show 0 ∈ [0, 1] from by decide))).1⟩
        have e1 : ∃ g, x 1 = .slice (some ⟨g, 0, none⟩) 8 8 := ⟨_, (hp.post 1 (hd 1 (show 1 ∈ [0, 1] from by decide))).1⟩
        clear hK hK' hp hd
        obtain ⟨ga, e0⟩ := e0
        obtain ⟨gb, e1⟩ := e1
        have HE : Hid (x 0 = .slice (some ⟨ga, 0, none⟩) 16 16 ∧ x 1 = .slice (some ⟨gb, 0, none⟩) 8 8) := ⟨e0, e1⟩
        simp only [e0, e1] at HK ⊢
        clear e0 e1
        go_simp
        refine HK.out _ _ (Below.refl _ _) ?_
        show _ = Value.agg #[_, _]
        rw [show upd x 2 _ 0 = x 0 from rfl, show upd x 2 _ 1 = x 1 from rfl, HE.out.1, HE.out.2]
      · refine wpOp_step (o := _) rfl fun K' hK' => ?_
        have HK := hide (fun (v : Value) (W' : World) h1 h2 => hK' _ _ (hK v W' h1 h2))
        simp only [upd, Nat.reduceEqDiff, if_true, if_false] at HK
        clear hK hK' hp hd
        go_simp
        exact HK.out _ _ ((Below.refl _ W).alloc (Nat.le_refl _) _) ⟨rfl, by simp, AtC.new W 30 _⟩
    · intro x iw W hp
      obtain ⟨e0, A0⟩ := hp.post 0 (by decide)
      obtain ⟨e1, A1⟩ := hp.post 1 (by decide)
      have e2 : x 2 = .agg #[x 0, x 1] := hp.post 2 (by decide)
      obtain ⟨e3, z3, A3⟩ := hp.post 3 (by decide)
      have l0 := (hp.lo 0 (by decide)).1
      have l1 := (hp.lo 1 (by decide)).1
      have l3 := (hp.lo 3 (by decide)).1
      have bel := of_drew hp.bel
      rw [e0, e1] at e2
      have hsz : w.heap.size + 1 < W0.drew.heap.size := by have := HA.out.2.2.2; show w.heap.size + 1 < W0.heap.size; omega
      have HFI : Hid (RP w (iw 3).1 (iw 0).1 (iw 1).1 ∧ AtC W (iw 0).1 4 (hA (List.replicate 16 false)) ∧ AtC W (iw 1).1 4 (hA (List.replicate 8 false)) ∧ AtC W (iw 3).1 30 #[.slice none 0 0, .slice none 0 0] ∧ Below W0.heap.size W0 W) := ⟨⟨by omega, by omega, by omega, atC_size A3 A0 (by decide), atC_size A3 A1 (by decide), atC_size A0 A1 (by decide)⟩, A0, A1, A3, bel⟩
      have y0 : W.cell? ⟨(iw 3).1, 0, none⟩ = some (.slice none 0 0) := A3.cell 0
      have y1 : W.cell? ⟨(iw 3).1, 1, none⟩ = some (.slice none 0 0) := A3.cell 1
      have f0 := A3.frozen 0
      have f1 := A3.frozen 1
      clear hp A0 A1 A3 z3 l0 l1 l3 bel hsz
      simp only [e0, e1, e2, e3] at *
      generalize (iw 3).1 = pb at *
      generalize (iw 0).1 = gB at *
      generalize (iw 1).1 = gI at *
      go_wp2_with fail
      try rw [List.filterMap_nil]
      try go_wp2_with fail
      go_meet
      obtain ⟨P, AB, AI, AP, bb⟩ := HFI.out
      have hP1 := P.p
      have b2 := HA.out.2.2.1.trans (bb.mono HA.out.2.2.1.size)
      exact ⟨pb, gB, gI, rfl, P, (b2.setCell (p := ⟨pb, 0, none⟩) (by show w.heap.size ≤ pb; omega) _).setCell (p := ⟨pb, 1, none⟩) (by show w.heap.size ≤ pb; omega) _, ((HA.out.1.over bb).other (by omega) _).other (by omega) _, ((HA.out.2.1.over bb).other (by omega) _).other (by omega) _, (AP.set 0 _).set 1 _, (AB.other (fun e => P.pB e.symm) _).other (fun e => P.pB e.symm) _, (AI.other (fun e => P.pI e.symm) _).other (fun e => P.pI e.symm) _⟩
  case rest =>
    obtain ⟨pb, gB, gI, rfl, hP, hRB⟩ := hcut
    have HP := hide hP
    have HR0 := hide hRB
    clear hP hRB hm8 hm16 HA
    have z0 : wc.cell? ⟨w.heap.size, 0, none⟩ = some (.slice a1 xs.length c1) := HR0.out.d.cell 0
    have z1 : wc.cell? ⟨w.heap.size, 1, none⟩ = some (.slice a2 ys.length c2) := HR0.out.d.cell 1
    have z2 : wc.cell? ⟨w.heap.size, 2, none⟩ = some (.slice a3 is.length c3) := HR0.out.d.cell 2
    have z3 : wc.cell? ⟨w.heap.size, 3, none⟩ = some (.slice a4 bs.length c4) := HR0.out.d.cell 3
    have CR1 := hide (CR.out wc HR0.out.b)
    go_wp2_with fail
    refine CR1.out.mono ?_
    rintro e w1 ⟨rv, rfl, R1, B1⟩
    obtain ⟨ra, rc, rfl, -⟩ := R1.form
    rw [ic_length] at R1 ⊢
    have HR1 : Hid (RB w w1 #[.slice a1 xs.length c1, .slice a2 ys.length c2, .slice a3 is.length c3, .slice a4 bs.length c4] pb gB gI (List.replicate 16 false) (List.replicate 8 false)) := HR0.out.below B1
    have HRI : Hid (∀ wr, Chg (fun k => k = gI) w1 wr → RInts wr (.slice ra (reachL is bs).length rc) (reachL is bs)) := fun wr c => (R1.of_heap fun k hk => c.block k (R1.lt k hk).2 (fun e => by have h1 := (R1.lt k hk).1; have h2 := HR0.out.I.lt; omega)).rints
    clear R1 B1 CR1 CR z0 z1 z2 z3 HR0
    have HRG : Hid (∀ i ∈ reachL is bs, 1 ≤ i ∧ i ≤ 8) := fun i hi => reach8 hi
    have HFI : Hid (∀ k h, HadN 8 (reachL is bs) k h → (reachL is bs).length ≤ k → h = fI is bs) := fun k h H hk => had_all H hk
    obtain ⟨RL, hRL⟩ : ∃ l, reachL is bs = l := ⟨_, rfl⟩
    rw [hRL] at HRI HRG HFI HR8 ⊢
    clear hRL
    have r8 : RL.length ≤ 8 := HR8.out
    go_wp2_with fail
    go_loopw [14] (fun kv wr => ∃ (q : Nat) (hI : List Bool), q ≤ RL.length ∧ kv = .int .i64 q ∧ Hid (RB w wr #[.slice a1 xs.length c1, .slice a2 ys.length c2, .slice a3 is.length c3, .slice a4 bs.length c4] pb gB gI (List.replicate 16 false) hI ∧ HadN 8 RL q hI ∧ Chg (fun k => k = gI) w1 wr)) (fun kv _ => RL.length - (intOf kv).toNat)
    case atStart => exact ⟨0, _, Nat.zero_le _, rfl, HR1.out, HadN.begin 8 RL, Chg.refl _ _⟩
    case round =>
      obtain ⟨q, hI, hq, rfl, HQ⟩ := hrel
      clear HR1
      have q0 : (0 : Int) ≤ (q : Int) := by omega
      by_cases hlt : q < RL.length
      rotate_left
      · have q1 : ¬ ((q : Int) < (RL.length : Int)) := by omega
        have hIe := HFI.out q hI HQ.out.2.1 (by omega)
        subst hIe
        have HQ1 := hide HQ.out.1
        clear HQ HFI HRI HRG
        have z0 : wr.cell? ⟨w.heap.size, 0, none⟩ = some (.slice a1 xs.length c1) := HQ1.out.d.cell 0
        have z1 : wr.cell? ⟨w.heap.size, 1, none⟩ = some (.slice a2 ys.length c2) := HQ1.out.d.cell 1
        have z2 : wr.cell? ⟨w.heap.size, 2, none⟩ = some (.slice a3 is.length c3) := HQ1.out.d.cell 2
        have z3 : wr.cell? ⟨w.heap.size, 3, none⟩ = some (.slice a4 bs.length c4) := HQ1.out.d.cell 3
        have CP1 := hide (CP.out wr HQ1.out.b)
        obtain ⟨wl, hwl⟩ : ∃ W, W = wr := ⟨_, rfl⟩
        subst hwl
        go_wp2_with fail
        refine CP1.out.mono ?_
        rintro e w2 ⟨pv, rfl, P2, B2⟩
        obtain ⟨pa, pc', rfl, -⟩ := P2.form
        have HR2 : Hid (RB w w2 #[.slice a1 xs.length c1, .slice a2 ys.length c2, .slice a3 is.length c3, .slice a4 bs.length c4] pb gB gI (List.replicate 16 false) (fI is bs)) := HQ1.out.below B2
        have HPI : Hid (∀ wr, Chg (fun k => k = gB) w2 wr → RPr wr (.slice pa (ptrL is (reachL is bs)).length pc') (ptrL is (reachL is bs))) := fun wr c => (P2.of_heap fun k hk => c.block k (P2.lt k hk).2 (fun e => by have h1 := (P2.lt k hk).1; have h2 := HQ1.out.B.lt; omega)).rpr
        clear P2 B2 CP1 CP z0 z1 z2 z3 HQ1
        have HPG : Hid (∀ s ∈ ptrL is (reachL is bs), 1 ≤ s.2 ∧ s.2 ≤ 16) := fun s hs => (mem_ptrL hs).2
        have HFB : Hid (∀ k h, HadN 16 ((ptrL is (reachL is bs)).map (·.2)) k h → ((ptrL is (reachL is bs)).map (·.2)).length ≤ k → h = fB is bs) := fun k h H hk => had_all H hk
        obtain ⟨PL, hPL⟩ : ∃ l, ptrL is (reachL is bs) = l := ⟨_, rfl⟩
        rw [hPL] at HPI HPG HFB HP16 ⊢
        clear hPL
        have p16 : PL.length ≤ 16 := HP16.out
        go_wp2_with fail
        go_loopw [27] (fun kv wr => ∃ (t : Nat) (hB : List Bool), t ≤ PL.length ∧ kv = .int .i64 t ∧ Hid (RB w wr #[.slice a1 xs.length c1, .slice a2 ys.length c2, .slice a3 is.length c3, .slice a4 bs.length c4] pb gB gI hB (fI is bs) ∧ HadN 16 (PL.map (·.2)) t hB ∧ Chg (fun k => k = gB) w2 wr)) (fun kv _ => PL.length - (intOf kv).toNat)
        case atStart => exact ⟨0, _, Nat.zero_le _, rfl, HR2.out, HadN.begin 16 _, Chg.refl _ _⟩
        case round =>
          obtain ⟨t, hB, ht, rfl, HT⟩ := hrel
          clear HR2
          have t0 : (0 : Int) ≤ (t : Int) := by omega
          have p0 : wr.cell? ⟨pb, 0, none⟩ = some (.slice (some ⟨gB, 0, none⟩) 16 16) := HT.out.1.p.cell 0
          have p1 : wr.cell? ⟨pb, 1, none⟩ = some (.slice (some ⟨gI, 0, none⟩) 8 8) := HT.out.1.p.cell 1
          by_cases htl : t < PL.length
          rotate_left
          · have t1 : ¬ ((t : Int) < (PL.length : Int)) := by omega
            have hBe := HFB.out t hB HT.out.2.1 (by rw [List.length_map]; omega)
            subst hBe
            have r0 : wr.cell? ⟨w.heap.size + 1, 0, none⟩ = some (.slice none 0 0) := HT.out.1.r.cell 0
            have r1 : wr.cell? ⟨w.heap.size + 1, 1, none⟩ = some (.slice none 0 0) := HT.out.1.r.cell 1
            have f0 := HT.out.1.r.frozen 0
            have f1 := HT.out.1.r.frozen 1
            have hpn : ¬ w.heap.size + 1 = pb := by have := HP.out.p; omega
            have HEND : Hid (Two ((wr.setCell ⟨w.heap.size + 1, 0, none⟩ (.slice (some ⟨gB, 0, none⟩) 16 16)).setCell ⟨w.heap.size + 1, 1, none⟩ (.slice (some ⟨gI, 0, none⟩) 8 8)) w.heap.size (.slice (some ⟨gB, 0, none⟩) 16 16) (.slice (some ⟨gI, 0, none⟩) 8 8) (fB is bs) (fI is bs) ∧ Below w.heap.size w ((wr.setCell ⟨w.heap.size + 1, 0, none⟩ (.slice (some ⟨gB, 0, none⟩) 16 16)).setCell ⟨w.heap.size + 1, 1, none⟩ (.slice (some ⟨gI, 0, none⟩) 8 8))) := by
              have hB1 := HP.out.B
              have hI1 := HP.out.I
              exact ⟨⟨hA_own ((HT.out.1.B.other (by omega) _).other (by omega) _) (by simp [fB]) (by decide) (by omega), hA_own ((HT.out.1.I.other (by omega) _).other (by omega) _) (by simp [fI]) (by decide) (by omega), fun k hk hk2 => by simp only [Value.ownBlock, Option.some.injEq] at hk hk2; exact HP.out.BI (by omega)⟩, (HT.out.1.b.setCell (p := ⟨w.heap.size + 1, 0, none⟩) (by show w.heap.size ≤ w.heap.size + 1; omega) _).setCell (p := ⟨w.heap.size + 1, 1, none⟩) (by show w.heap.size ≤ w.heap.size + 1; omega) _⟩
            go_wp2
            refine bodyPost_ret (v := .agg #[.slice (some ⟨gB, 0, none⟩) 16 16, .slice (some ⟨gI, 0, none⟩) 8 8]) (by simp [results, go_sem, r0, r1]) rfl ⟨_, _, rfl, HEND.out⟩
          have t1 : (t : Int) < (PL.length : Int) := by omega
          obtain ⟨ca, cc, ec, -, hcs⟩ := HPI.out wr HT.out.2.2
          simp only [Value.slice.injEq, true_and] at ec
          obtain ⟨rfl, rfl⟩ := ec
          obtain ⟨gs, os, rfl, hgs, ks0, ks1⟩ := hcs t htl
          have hpg := HPG.out _ (List.getElem_mem htl)
          have hmk : (PL.map (·.2))[t]'(by rw [List.length_map]; exact htl) = (PL[t]).2 := List.getElem_map _
          obtain ⟨⟨io, pn⟩, hs⟩ : ∃ X, PL[t] = X := ⟨_, rfl⟩
          rw [hs] at ks0 ks1 hpg hmk
          simp only at ks0 ks1 hpg hmk
          obtain ⟨p, rfl⟩ : ∃ p : Nat, pn = (p : Int) + 1 := ⟨(pn - 1).toNat, by omega⟩
          have pp0 : (0 : Int) ≤ (p : Int) := by omega
          have pp1 : (p : Int) < 16 := by omega
          have hwp : IntKind.i64.wrap (p : Int) = (p : Int) := wrap_small _ (by omega) (by omega)
          have hp16 : p < 16 := by omega
          have hgw : ¬ gs = wr.heap.size := by omega
          have hpw : ¬ pb = wr.heap.size := by have := HT.out.1.p.lt; omega
          have hbw : ¬ gB = wr.heap.size := by have := HT.out.1.B.lt; omega
          have HA2 : Hid (RB w (wr.alloc (.cells #[.int .i64 io, .int .i64 ((p : Int) + 1)] 107)) #[.slice a1 xs.length c1, .slice a2 ys.length c2, .slice a3 is.length c3, .slice a4 bs.length c4] pb gB gI hB (fI is bs)) := HT.out.1.below ((Below.refl _ wr).alloc (Nat.le_refl _) _)
          have m0 : (wr.alloc (.cells #[.int .i64 io, .int .i64 ((p : Int) + 1)] 107)).cell? ⟨pb, 0, none⟩ = some (.slice (some ⟨gB, 0, none⟩) 16 16) := HA2.out.p.cell 0
          have kb := (HA2.out.B.cell p).trans (hA_get hB p (by rw [HT.out.2.1.n]; exact hp16))
          have fb := HA2.out.B.frozen p
          obtain ⟨bb, hbb⟩ : ∃ b, hB.getD p false = b := ⟨_, rfl⟩
          rw [hbb] at kb
          have HN : Hid (RB w ((wr.alloc (.cells #[.int .i64 io, .int .i64 ((p : Int) + 1)] 107)).setCell ⟨gB, p, none⟩ (.bool true)) #[.slice a1 xs.length c1, .slice a2 ys.length c2, .slice a3 is.length c3, .slice a4 bs.length c4] pb gB gI (hB.set p true) (fI is bs) ∧ HadN 16 (PL.map (·.2)) (t + 1) (hB.set p true) ∧ Chg (fun k => k = gB) w2 ((wr.alloc (.cells #[.int .i64 io, .int .i64 ((p : Int) + 1)] 107)).setCell ⟨gB, p, none⟩ (.bool true))) := ⟨HA2.out.setB HP.out p, HT.out.2.1.next (by rw [List.length_map]; exact htl) hmk hp16, (HT.out.2.2.trans (Chg.of_below ((Below.refl _ wr).alloc (Nat.le_refl _) _))).setCell rfl _⟩
          clear hcs hs hmk hbb HT
          go_wp2
          go_roundw
          case rel => exact ⟨t + 1, hB.set p true, by omega, by go_num, HN.out⟩
          case measure => simp [intOf]; omega
      have q1 : (q : Int) < (RL.length : Int) := by omega
      obtain ⟨ca, cc, ec, hcr⟩ := HRI.out wr HQ.out.2.2
      simp only [Value.slice.injEq, true_and] at ec
      obtain ⟨rfl, rfl⟩ := ec
      obtain ⟨gr, orr, rfl, hgr, kr⟩ := hcr q hlt
      have hrg := HRG.out _ (List.getElem_mem hlt)
      obtain ⟨di, hdi⟩ : ∃ x, RL[q] = x := ⟨_, rfl⟩
      rw [hdi] at kr hrg
      obtain ⟨j, rfl⟩ : ∃ j : Nat, di = (j : Int) + 1 := ⟨(di - 1).toNat, by omega⟩
      have j0 : (0 : Int) ≤ (j : Int) := by omega
      have j1 : (j : Int) < 8 := by omega
      have hwj : IntKind.i64.wrap (j : Int) = (j : Int) := wrap_small _ (by omega) (by omega)
      have hj8 : j < 8 := by omega
      have p1 : wr.cell? ⟨pb, 1, none⟩ = some (.slice (some ⟨gI, 0, none⟩) 8 8) := HQ.out.1.p.cell 1
      have kb := (HQ.out.1.I.cell j).trans (hA_get hI j (by rw [HQ.out.2.1.n]; exact hj8))
      have fb := HQ.out.1.I.frozen j
      obtain ⟨bb, hbb⟩ : ∃ b, hI.getD j false = b := ⟨_, rfl⟩
      rw [hbb] at kb
      have HN : Hid (RB w (wr.setCell ⟨gI, j, none⟩ (.bool true)) #[.slice a1 xs.length c1, .slice a2 ys.length c2, .slice a3 is.length c3, .slice a4 bs.length c4] pb gB gI (List.replicate 16 false) (hI.set j true) ∧ HadN 8 RL (q + 1) (hI.set j true) ∧ Chg (fun k => k = gI) w1 (wr.setCell ⟨gI, j, none⟩ (.bool true))) := ⟨HQ.out.1.setI HP.out j, HQ.out.2.1.next hlt hdi hj8, HQ.out.2.2.setCell rfl _⟩
      clear hcr hdi hbb HQ
      go_wp2
      go_roundw
      case rel => exact ⟨q + 1, hI.set j true, by omega, by go_num, HN.out⟩
      case measure => simp [intOf]; omega
end Go.Proofs.YtbebgnknjoclkaaGreat
/- What is there while pointers are mended. No Go function is spoken of. -/
namespace Go.Proofs.YtbebgnknjoclkaaGreat
open Go.RowKit Kit
theorem Kit.DL.bound {w : World} {S : Nat → Prop} {u v iv bv : Value} {ti tb : List V3} {xs ys : List Bool} {is : List Ino} {bs : List Blk} (h : DL w S u v iv bv ti tb xs ys is bs) : DL w (fun k => S k ∧ k < w.heap.size) u v iv bv ti tb xs ys is bs := by
  obtain ⟨S1, S2, S3, h1, h2, h3, h4, h5, h6, h7⟩ := h
  refine ⟨fun k => S1 k ∧ k < w.heap.size, fun k => S2 k ∧ k < w.heap.size, fun k => S3 k ∧ k < w.heap.size, h1, fun k hk => ⟨h2 k hk, hk.elim (fun e => (h1.a.lt k e).2) (fun e => (h1.b.lt k e).2)⟩, h3.bound, h4.bound, fun k hk => ⟨fun e => (h5 k hk.1).1 e.1, fun e => (h5 k hk.1).2 e.1⟩, fun k hk e => h6 k hk.1 e.1, fun k hk => ?_⟩
  rcases hk with hk | hk | hk
  · exact ⟨h7 k (.inl hk.1), hk.2⟩
  · exact ⟨h7 k (.inr (.inl hk.1)), hk.2⟩
  · exact ⟨h7 k (.inr (.inr hk.1)), hk.2⟩
theorem stepP_eq (bs : List Blk) (st : PSt) (j k : Nat) (hj : j < st.1.length) (hk : k < st.1[j].2.2.length) : stepP bs st j k = if inB st.1[j].2.2[k] 1 16 = true then (if (wrongP bs st.1[j].1 st.1[j].2.2[k] || st.2.contains st.1[j].2.2[k]) = true then (st.1.set j (st.1[j].1, st.1[j].2.1, st.1[j].2.2.set k 0), st.2) else (st.1, st.2 ++ [st.1[j].2.2[k]])) else st := by
  unfold stepP
  rw [getD_in hj, getD_in hk]
/-- The flags of blocks that are had. -/
structure HadS (sn : List Int) (hl : List Bool) : Prop where
  len : hl.length = 16
  at_ : ∀ q : Nat, q < 16 → hl.getD q false = sn.contains ((q : Int) + 1)
theorem HadS.begin : HadS [] (List.replicate 16 false) := ⟨List.length_replicate, fun q hq => by rw [getD_at _ (by simpa using hq), List.getElem_replicate]; rfl⟩
theorem HadS.next {sn : List Int} {hl : List Bool} (h : HadS sn hl) (q : Nat) (hq : q < 16) : HadS (sn ++ [(q : Int) + 1]) (hl.set q true) := by
  refine ⟨by rw [List.length_set]; exact h.len, fun p hp => ?_⟩
  rw [getD_set (by rw [h.len]; exact hq), h.at_ p hp, List.contains_append]
  by_cases e : p = q
  · subst e; rw [if_pos rfl]; simp
  · rw [if_neg e]
    have : ¬ (p : Int) + 1 = (q : Int) + 1 := by omega
    simp [this]
/-- The disk, its box, the flags, the list of inodes. -/
structure PS (w wr : World) (B b n0 : Nat) (D : Array Value) (u v iv bv : Value) (ti tb : List V3) (xs ys : List Bool) (bs : List Blk) (lv : Value) (L : List Int) (st : PSt) : Prop where
  d : DL wr (fun k => (B ≤ k ∧ k ≠ b) ∧ k < n0) u v iv bv ti tb xs ys st.1 bs
  a : AtC wr b 86 D
  h : ∃ hl, AtC wr n0 104 (hA hl) ∧ HadS st.2 hl
  l : ROwns wr (n0 + 1) 3 lv (ic L)
  c : Chg (fun k => B ≤ k ∧ k ≠ b) w wr
  bn : b < n0
  Bn : B ≤ n0
namespace PS
variable {w wr wr' : World} {B b n0 : Nat} {D : Array Value} {u v iv bv : Value} {ti tb : List V3} {xs ys : List Bool} {bs : List Blk} {lv : Value} {L : List Int} {st : PSt}
theorem below (h : PS w wr B b n0 D u v iv bv ti tb xs ys bs lv L st) (hb : Below wr.heap.size wr wr') : PS w wr' B b n0 D u v iv bv ti tb xs ys bs lv L st := by
  obtain ⟨hl, h1, h2⟩ := h.h
  exact ⟨h.d.over hb, h.a.over hb, ⟨hl, h1.over hb, h2⟩, h.l.below hb (Nat.le_refl _), h.c.trans (Chg.of_below hb), h.bn, h.Bn⟩
theorem ptr (h : PS w wr B b n0 D u v iv bv ti tb xs ys bs lv L st) (j : Nat) (hj : j < st.1.length) {g c : Nat} (hv : (ti.getD j zI3).2.2 = .slice (some ⟨g, 0, none⟩) st.1[j].2.2.length c) (k : Nat) :
    PS w (wr.setCell ⟨g, k, none⟩ (.int .i64 0)) B b n0 D u v iv bv ti tb xs ys bs lv L (st.1.set j (st.1[j].1, st.1[j].2.1, st.1[j].2.2.set k 0), st.2) := by
  obtain ⟨hl, h1, h2⟩ := h.h
  obtain ⟨g', c', -, -, -, -, -, -, -, ro, hS⟩ := h.d.ino j hj
  have hg := hS g (by rw [hv]; rfl)
  obtain ⟨q1, q2⟩ := h.d.setPtr j hj hv k 0
  exact ⟨q1, h.a.other (fun e => hg.1.2 e.symm) _, ⟨hl, h1.other (by omega) _, h2⟩, h.l.setCell_other (by omega) _, h.c.setCell hg.1 _, h.bn, h.Bn⟩
theorem cellP (h : PS w wr B b n0 D u v iv bv ti tb xs ys bs lv L st) (j : Nat) (hj : j < st.1.length) {g c : Nat} (hv : (ti.getD j zI3).2.2 = .slice (some ⟨g, 0, none⟩) st.1[j].2.2.length c) (k : Nat) (hk : k < st.1[j].2.2.length) :
    wr.cell? ⟨g, k, none⟩ = some (.int .i64 st.1[j].2.2[k]) ∧ wr.frozen? ⟨g, k, none⟩ = false ∧ g < wr.heap.size := by
  obtain ⟨-, -, -, -, -, -, -, -, -, ro, -⟩ := h.d.ino j hj
  rw [hv] at ro
  obtain ⟨g', c', e', k1, f1, -, h1, -⟩ := ro.at k (by rw [ic_length]; exact hk)
  simp only [Value.slice.injEq, Option.some.injEq, Addr.mk.injEq] at e'
  obtain ⟨⟨rfl, -⟩, -, -⟩ := e'
  exact ⟨by rw [k1]; simp [ic, hk], f1, h1⟩
theorem had (h : PS w wr B b n0 D u v iv bv ti tb xs ys bs lv L st) (q : Nat) (hq : q < 16) :
    PS w (wr.setCell ⟨n0, q, none⟩ (.bool true)) B b n0 D u v iv bv ti tb xs ys bs lv L (st.1, st.2 ++ [(q : Int) + 1]) := by
  obtain ⟨hl, h1, h2⟩ := h.h
  refine ⟨h.d.other (fun e => by omega) _, h.a.other (by have := h.bn; omega) _, ⟨hl.set q true, ?_, h2.next q hq⟩, h.l.setCell_other (by omega) _, h.c.setCell ⟨h.Bn, by have := h.bn; omega⟩ _, h.bn, h.Bn⟩
  rw [← hA_set]
  exact h1.set q _
end PS
end Go.Proofs.YtbebgnknjoclkaaGreat
