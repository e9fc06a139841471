/- Texts of the proof, bundled: Sr, Ga, Pw, Cd. -/
import Derived.Deep.Upon
import Derived.Test.YtljooldjcefkoaaGreatU10
import Derived.Test.YtljooldjcefkoaaGreatU11
import Derived.Test.YtljooldjcefkoaaGreatU02
import Derived.Test.YtljooldjcefkoaaGreatU05
/- Of the specification: l10Has and Reached by their contracts. -/
namespace Go.Proofs.YtljooldjcefkoaaGreat.Kit
open Go.RowKit
/-- Flags as cells. -/
def hA (h : List Bool) : Array Value := (h.map Value.bool).toArray
theorem hA_get (h : List Bool) (k : Nat) (hk : k < h.length) : (hA h)[k]? = some (.bool (h.getD k false)) := by
  simp [hA, hk]
theorem hA_set (h : List Bool) (k : Nat) (b : Bool) : (hA h).setIfInBounds k (.bool b) = hA (h.set k b) := by
  simp [hA, List.map_set]
/-- Flags, and the disk's box. -/
structure Hs (w wr : World) (D : Array Value) (h : List Bool) : Prop where
  b : Below w.heap.size w wr
  d : AtC wr w.heap.size 35 D
  a : AtC wr (w.heap.size + 1) 4 (hA h)
theorem Hs.below {w wr wr' : World} {D : Array Value} {h : List Bool} (H : Hs w wr D h) (hb : Below wr.heap.size wr wr') : Hs w wr' D h := ⟨H.b.trans (hb.mono H.b.size), H.d.over hb, H.a.over hb⟩
theorem Hs.set {w wr : World} {D : Array Value} {h : List Bool} (H : Hs w wr D h) (k : Nat) : Hs w (wr.setCell ⟨w.heap.size + 1, k, none⟩ (.bool true)) D (h.set k true) :=
  ⟨H.b.setCell (p := ⟨w.heap.size + 1, k, none⟩) (by show w.heap.size ≤ w.heap.size + 1; omega) _, H.d.other (by omega) _, by rw [← hA_set]; exact H.a.set k _⟩
theorem Hs.grown {w wr wr' : World} {D : Array Value} {h : List Bool} {row : Option Nat} (H : Hs w wr D h) (hg : wr.grownBy wr' row) (hr : ∀ k, row = some k → w.heap.size + 1 < k) : Hs w wr' D h :=
  ⟨H.b.grown hg H.b.size (fun k hk => by have := hr k hk; omega), H.d.grown hg (fun e => by have := hr _ e; omega), H.a.grown hg (fun e => by have := hr _ e; omega)⟩
end Go.Proofs.YtljooldjcefkoaaGreat.Kit
namespace Go.Proofs.YtljooldjcefkoaaGreat
open Go.RowKit Kit
set_option maxRecDepth 100000 in
set_option maxHeartbeats 800000 in
theorem has10_any (v : Value) (l : List Int) (x : Int) (w : World) (h : RInts w v l) (hl : l.length ≤ 1048576) :
    Calls Tryz.prog 35 #[v, .int .i64 x] w fun e w' => e = .returned (.bool (l.contains x)) ∧ w' = w := by
  obtain ⟨a1, c1, rfl, ha⟩ := h
  have HA := hide ha
  clear ha
  go_enter Tryz.func35, Tryz.ntmps35
  go_wp2
  go_loopw [5] (fun i wr => ∃ j : Nat, j ≤ l.length ∧ i = .int .i64 j ∧ w = wr ∧ Hid ((l.take j).contains x = false)) (fun i _ => l.length - (intOf i).toNat)
  case atStart => exact ⟨0, Nat.zero_le _, rfl, rfl, by show (l.take 0).contains x = false; simp⟩
  case round =>
    obtain ⟨j, hj, rfl, rfl, HT⟩ := hrel
    by_cases hlt : j < l.length
    · obtain ⟨g1, o1, rfl, _, k1⟩ := HA.out j hlt
      have HJ : Hid (l[j] ∈ l ∧ (l.take (j + 1)).contains x = ((l.take j).contains x || x == l[j])) := by
        refine ⟨List.getElem_mem hlt, ?_⟩
        rw [show l.take (j + 1) = l.take j ++ [l[j]] from (List.take_append_getElem hlt).symm]
        exact Bool.eq_iff_iff.2 (by simp only [List.contains_iff_mem, List.mem_append, List.mem_singleton, Bool.or_eq_true, beq_iff_eq])
      obtain ⟨t, ht⟩ : ∃ t, l[j] = t := ⟨_, rfl⟩
      rw [ht] at k1 HJ
      clear ht
      have j0 : (0 : Int) ≤ (j : Int) := by omega
      have j1 : (j : Int) < (l.length : Int) := by omega
      by_cases hx : t = x
      · subst hx
        go_wp2
        go_ret
        have := HJ.out.1
        exact ⟨by rw [show l.contains t = true by simpa using this]; rfl, rfl⟩
      · have HX := hide hx
        go_wp2
        go_roundw
        case rel =>
          refine ⟨j + 1, by omega, by go_num, by first | trivial | rfl, ?_⟩
          show (l.take (j + 1)).contains x = false
          have q := HX.out
          rw [HJ.out.2, HT.out, Bool.false_or]
          exact beq_false_of_ne (fun e => q e.symm)
        case measure => simp [intOf]; omega
    · have hj2 : j = l.length := by omega
      have HF : Hid (l.contains x = false) := by
        have := HT.out
        rw [hj2, List.take_length] at this
        exact this
      go_wp2
      go_ret
      exact ⟨by rw [HF.out]; rfl, rfl⟩
set_option maxRecDepth 100000 in
set_option maxHeartbeats 6400000 in
theorem specReach_any (dx dy iv bv : Value) (xs ys : List Bool) (is : List Ino) (bs : List Blk) (w : World) (h : DR w dx dy iv bv xs ys is bs) (hR : RD is bs) :
    Calls Tryz.prog 34 #[.agg #[dx, dy, iv, bv]] w fun e w' => ∃ v, e = .returned v ∧ ROwns w' w.heap.size 3 v (ic (reachL is bs)) ∧ Below w.heap.size w w' := by
  obtain ⟨a1, c1, a2, c2, a3, c3, a4, c4, rfl, rfl, rfl, rfl⟩ := h.form
  have h8 := hR.hi
  have CS : Hid (∀ (x : Int) (W : World), Below w.heap.size w W → Calls Tryz.prog 50 #[.agg #[.slice a1 xs.length c1, .slice a2 ys.length c2, .slice a3 8 c3, .slice a4 bs.length c4], .int .i64 x] W fun e w' => ∃ v, e = .returned v ∧ SOwns w' W.heap.size 77 v (named is bs x) ∧ Below W.heap.size W w') := by
    have := fun (x : Int) (W : World) (hb : Below w.heap.size w W) => slots_any x _ _ _ _ xs ys is bs W (h.below hb (Nat.le_refl _)) hR
    rw [h8] at this
    exact this
  have HIN : Hid (∀ (j : Nat), j < 8 → ∃ g2 o2 : Nat, a3 = some ⟨g2, o2, none⟩ ∧ g2 < w.heap.size ∧ w.cell? ⟨g2, o2 + j * 3, none⟩ = some (.int .i64 (kindAt is ((j : Int) + 1)))) := fun j hj => by
    obtain ⟨qa, qc, qe, -, qh⟩ := h.i
    simp only [Value.slice.injEq, true_and] at qe
    obtain ⟨rfl, rfl⟩ := qe
    have hj' : j < is.length := by omega
    obtain ⟨g2, o2, ⟨t0, t1, t2⟩, rfl, hg2, r0, r1, r2, e0, e1, rr⟩ := qh j hj'
    simp only at e0 r0
    exact ⟨g2, o2, rfl, hg2, by rw [(kindAt_in hj').1, r0, e0]⟩
  have HE := hide (edge_in hR)
  have HN8 : Hid (∀ x, (named is bs x).length ≤ 8) := hR.named8
  rw [h8]
  have HS0 : Hid (Hs w ((w.alloc (.cells #[.slice a1 xs.length c1, .slice a2 ys.length c2, .slice a3 8 c3, .slice a4 bs.length c4] 35)).alloc (.cells ((hA [false, false, false, false, false, false, false, false]).setIfInBounds 0 (.bool true)) 4)) #[.slice a1 xs.length c1, .slice a2 ys.length c2, .slice a3 8 c3, .slice a4 bs.length c4] [true, false, false, false, false, false, false, false]) := by
    have a := AtC.new (w.alloc (.cells #[.slice a1 xs.length c1, .slice a2 ys.length c2, .slice a3 8 c3, .slice a4 bs.length c4] 35)) 4 ((hA [false, false, false, false, false, false, false, false]).setIfInBounds 0 (.bool true))
    rw [World.size_alloc] at a
    exact ⟨((Below.refl _ w).alloc (Nat.le_refl _) _).alloc (by simp) _, (AtC.new w 35 _).alloc _, a⟩
  have hmk : ∀ W : World, (Instr.makeSlice 22 (.int .i64 8) (.int .i64 8)).run Tryz.prog W = .ok (.slice (some ⟨W.heap.size, 0, none⟩) 8 8) (W.alloc (.cells (hA [false, false, false, false, false, false, false, false]) 4)) := make8
  have k0 : ((w.alloc (.cells #[.slice a1 xs.length c1, .slice a2 ys.length c2, .slice a3 8 c3, .slice a4 bs.length c4] 35)).alloc (.cells (hA [false, false, false, false, false, false, false, false]) 4)).cell? ⟨w.heap.size + 1, 0, none⟩ = some (.bool false) := by
    have a := AtC.new (w.alloc (.cells #[.slice a1 xs.length c1, .slice a2 ys.length c2, .slice a3 8 c3, .slice a4 bs.length c4] 35)) 4 (hA [false, false, false, false, false, false, false, false])
    rw [World.size_alloc] at a
    exact a.cell 0
  clear h hR h8
  go_enter Tryz.func34, Tryz.ntmps34
  go_upto_region 5 with fail
  clear k0 hmk
  obtain ⟨W, hW⟩ : ∃ W, ((w.alloc (.cells #[.slice a1 xs.length c1, .slice a2 ys.length c2, .slice a3 8 c3, .slice a4 bs.length c4] 35)).alloc (.cells ((hA [false, false, false, false, false, false, false, false]).setIfInBounds 0 (.bool true)) 4)) = W := ⟨_, rfl⟩
  rw [hW] at HS0 ⊢
  clear hW
  go_wp2_with fail
  go_loopw [4] (fun kv wr => ∃ (r : Nat) (h : List Bool), r ≤ 8 ∧ kv = .int .i64 r ∧ Hid (Rnd (edge is bs) h r ∧ Hs w wr #[.slice a1 xs.length c1, .slice a2 ys.length c2, .slice a3 8 c3, .slice a4 bs.length c4] h)) (fun kv _ => 8 - (intOf kv).toNat)
  case atStart => exact ⟨0, _, Nat.zero_le _, rfl, Rnd.begin _, HS0.out⟩
  case round =>
    clear HS0
    obtain ⟨r, h0, hr, rfl, HR⟩ := hrel
    have r0 : (0 : Int) ≤ (r : Int) := by omega
    by_cases hlt : r < 8
    rotate_left
    · have r1 : ¬ ((r : Int) < 8) := by omega
      obtain rfl : r = 8 := by omega
      have HOU : Hid (outL h0 8 = reachL is bs) := outL_rchL (edge_iff is bs) HE.out HR.out.1.s HR.out.1.full
      have HL0 : Hid (ROwns (wr.alloc (.cells #[] 3)) (wr.heap.size) 3 (.slice (some ⟨wr.heap.size, 0, none⟩) 0 0) (ic (outL h0 0)) ∧ Hs w (wr.alloc (.cells #[] 3)) #[.slice a1 xs.length c1, .slice a2 ys.length c2, .slice a3 8 c3, .slice a4 bs.length c4] h0 ∧ wr.heap.size ≤ (wr.alloc (.cells #[] 3)).heap.size) := ⟨ROwns.lit0 wr wr.heap.size 3 (Nat.le_refl _), HR.out.2.below ((Below.refl _ wr).alloc (Nat.le_refl _) _), by simp⟩
      have HLT := hide HR.out.2.a.lt
      have H8 := hide HR.out.1.s.n
      clear HR
      obtain ⟨wq, hwq⟩ : ∃ wq, wq = wr := ⟨_, rfl⟩
      subst hwq
      go_wp2_with fail
      go_loopw [9, 10] (fun x9 kk wz => ∃ (lv : Value) (q : Nat), lv = x9 ∧ q ≤ 8 ∧ kk = .int .i64 q ∧ Hid (ROwns wz wq.heap.size 3 lv (ic (outL h0 q)) ∧ Hs w wz #[.slice a1 xs.length c1, .slice a2 ys.length c2, .slice a3 8 c3, .slice a4 bs.length c4] h0 ∧ wq.heap.size ≤ wz.heap.size)) (fun _ kk _ => 8 - (intOf kk).toNat)
      case atStart => exact ⟨_, 0, rfl, Nat.zero_le _, rfl, HL0.out⟩
      case round =>
        clear HL0
        obtain ⟨lv, q, hlv, hq, rfl, HQ⟩ := hrel
        subst hlv
        have q0 : (0 : Int) ≤ (q : Int) := by omega
        by_cases hq8 : q < 8
        rotate_left
        · have q1 : ¬ ((q : Int) < 8) := by omega
          go_wp2
          go_ret
          obtain rfl : q = 8 := by omega
          refine ⟨_, rfl, ?_, HQ.out.2.1.b⟩
          rw [← HOU.out]
          exact HQ.out.1.base_le (by have := HLT.out; omega)
        have q1 : (q : Int) < 8 := by omega
        have kq := (HQ.out.2.1.a.cell q).trans (hA_get h0 q (by rw [H8.out]; exact hq8))
        have HSU := hide (outL_succ h0 q)
        cases hbq : h0.getD q false with
        | false =>
          rw [hbq] at kq HSU
          have HEQ : Hid (outL h0 (q + 1) = outL h0 q) := by
            have := HSU.out
            rw [if_neg (by simp), List.append_nil] at this
            exact this
          clear hbq
          go_wp2
          go_roundw
          case rel => exact ⟨lv, q + 1, rfl, by omega, by go_num, by rw [HEQ.out]; exact HQ.out⟩
          case measure => simp [intOf]; omega
        | true =>
          rw [hbq] at kq HSU
          have HEQ : Hid (ic (outL h0 (q + 1)) = ic (outL h0 q) ++ [.int .i64 ((q : Int) + 1)]) := by
            have := HSU.out
            rw [if_pos rfl] at this
            show ic _ = _
            rw [this]
            simp [ic]
          have HAL : Hid (Below wr.heap.size wr (wr.alloc (.cells #[.int .i64 ((q : Int) + 1)] 3)) ∧ ROwns (wr.alloc (.cells #[.int .i64 ((q : Int) + 1)] 3)) wq.heap.size 3 lv (ic (outL h0 q)) ∧ (wr.alloc (.cells #[.int .i64 ((q : Int) + 1)] 3)).cell? ⟨wr.heap.size, 0, none⟩ = some (.int .i64 ((q : Int) + 1)) ∧ wq.heap.size ≤ (wr.alloc (.cells #[.int .i64 ((q : Int) + 1)] 3)).heap.size) := by
            refine ⟨(Below.refl _ wr).alloc (Nat.le_refl _) _, HQ.out.1.alloc _, (AtC.new wr 3 #[.int .i64 ((q : Int) + 1)]).cell 0, ?_⟩
            have := HQ.out.2.2
            simp
            omega
          have HQL : Hid ((ic (outL h0 q)).length ≤ 100000000000) := by
            have := outL_len h0 q
            show _ ≤ _
            rw [ic_length]
            omega
          have HGR : Hid (∀ w', (wr.alloc (.cells #[.int .i64 ((q : Int) + 1)] 3)).grownBy w' lv.ownBlock → Hs w w' #[.slice a1 xs.length c1, .slice a2 ys.length c2, .slice a3 8 c3, .slice a4 bs.length c4] h0) := fun w' g => (HQ.out.2.1.below HAL.out.1).grown g (fun k hk => by have := (HQ.out.1.lt k hk).1; have := HLT.out; omega)
          clear hbq
          go_wp2_with (at_builtin; refine wpList_step fun K' hK' => ?_; refine step_append_one _ rfl (.tmp 83) (.tmp 86) 42 rfl wq.heap.size 3 Tryz.u42 _ 8 Tryz.i3 rfl (by decide) lv _ rfl HAL.out.2.1 HAL.out.2.2.2 wr.heap.size (.int .i64 ((q : Int) + 1)) rfl HAL.out.2.2.1 rfl HQL.out ?_; intro v9 w9 T9 G9 V9; refine hK' _ _ ?_; rw [← HEQ.out] at T9; have HR9 := hide (And.intro T9 (And.intro (HGR.out w9 G9) (Nat.le_trans HAL.out.2.2.2 G9.size))); clear T9 G9 V9 hK')
          go_roundw
          case rel => exact ⟨v9, q + 1, rfl, by omega, by go_num, HR9.out⟩
          case measure => simp [intOf]; omega
    have r1 : (r : Int) < 8 := by omega
    have HP0 : Hid (Pass (edge is bs) h0 h0 0 ∧ Hs w wr #[.slice a1 xs.length c1, .slice a2 ys.length c2, .slice a3 8 c3, .slice a4 bs.length c4] h0) := ⟨Pass.begin HR.out.1.s, HR.out.2⟩
    have HRN := hide HR.out.1
    clear HR
    go_wp2_with fail
    go_loopw [5] (fun iv wz => ∃ (i : Nat) (h : List Bool), i ≤ 8 ∧ iv = .int .i64 ((i : Int) + 1) ∧ Hid (Pass (edge is bs) h0 h i ∧ Hs w wz #[.slice a1 xs.length c1, .slice a2 ys.length c2, .slice a3 8 c3, .slice a4 bs.length c4] h)) (fun iv _ => 9 - (intOf iv).toNat)
    case atStart => exact ⟨0, _, Nat.zero_le _, rfl, HP0.out⟩
    case round =>
      clear HP0
      obtain ⟨i, h, hi, rfl, HI⟩ := hrel
      by_cases hi8 : i < 8
      rotate_left
      · have i1 : ¬ ((i : Int) + 1 ≤ 8) := by omega
        obtain rfl : i = 8 := by omega
        have HNX := hide (HRN.out.next HE.out HI.out.1)
        go_wp2
        go_roundw
        case rel => exact ⟨r + 1, h, by omega, by go_num, HNX.out, HI.out.2⟩
        case measure => simp [intOf]; omega
      have i1 : (i : Int) + 1 ≤ 8 := by omega
      have i0 : (0 : Int) ≤ (i : Int) := by omega
      have i8 : (i : Int) < 8 := by omega
      have hwi : IntKind.i64.wrap (i : Int) = (i : Int) := wrap_small _ (by omega) (by omega)
      have z0 : wr.cell? ⟨w.heap.size, 0, none⟩ = some (.slice a1 xs.length c1) := HI.out.2.d.cell 0
      have z1 : wr.cell? ⟨w.heap.size, 1, none⟩ = some (.slice a2 ys.length c2) := HI.out.2.d.cell 1
      have z2 : wr.cell? ⟨w.heap.size, 2, none⟩ = some (.slice a3 8 c3) := HI.out.2.d.cell 2
      have z3 : wr.cell? ⟨w.heap.size, 3, none⟩ = some (.slice a4 bs.length c4) := HI.out.2.d.cell 3
      have CS1 := hide (CS.out ((i : Int) + 1) wr HI.out.2.b)
      have HEM : Hid (∀ k, edge is bs ((i : Int) + 1) k → k ∈ (named is bs ((i : Int) + 1)).map (·.2)) := fun k ⟨s, hs, e, _⟩ => by rw [← e]; exact List.mem_map_of_mem hs
      have HED : Hid (∀ s ∈ named is bs ((i : Int) + 1), ¬ kindAt is s.2 = 0 → edge is bs ((i : Int) + 1) s.2) := fun s hs hk => ⟨s, hs, rfl, hk⟩
      have hN8 := HN8.out ((i : Int) + 1)
      go_wp2_with fail
      refine CS1.out.mono ?_
      rintro e w2 ⟨sv, rfl, S2, B2⟩
      obtain ⟨sa, sc', rfl, -⟩ := S2.form
      have HI2 := hide (And.intro HI.out.1 (HI.out.2.below B2))
      have HSR := hide (And.intro S2 HI.out.2.a.lt)
      obtain ⟨NS, hNS⟩ : ∃ X, named is bs ((i : Int) + 1) = X := ⟨_, rfl⟩
      simp only [hNS] at HEM HED HSR hN8 ⊢
      obtain ⟨wb, hwb⟩ : ∃ b, wr.heap.size = b := ⟨_, rfl⟩
      rw [hwb] at HSR
      clear S2 B2 hNS z0 z1 z2 z3 CS1 HI hwb
      cases hbi : h.getD i false with
      | false =>
        have ki := (HI2.out.2.a.cell i).trans (hA_get h i (by rw [HI2.out.1.s.n]; exact hi8))
        rw [hbi] at ki
        have HNX := hide (HI2.out.1.skip hbi)
        clear hbi
        by_cases hn0 : NS.length = 0
        · have n1 : ¬ ((0 : Int) < (NS.length : Int)) := by omega
          go_wp2_with fail
          go_rounds 1
          go_roundw
          case rel => exact ⟨i + 1, h, by omega, by go_num, HNX.out, HI2.out.2⟩
          case measure => simp [intOf]; omega
        · have n1 : (0 : Int) < (NS.length : Int) := by omega
          go_wp2_with fail
          go_rounds 1
          go_roundw
          case rel => exact ⟨i + 1, h, by omega, by go_num, HNX.out, HI2.out.2⟩
          case measure => simp [intOf]; omega
      | true =>
      have HP1 : Hid (PassIn (edge is bs) h0 h i (NS.map (·.2)) 0) := ⟨HI2.out.1, hbi, fun k hk => by simp at hk⟩
      clear hbi
      go_wp2_with fail
      go_loopw [7] (fun kv wz => ∃ (t : Nat) (h : List Bool), t ≤ NS.length ∧ kv = .int .i64 t ∧ Hid (PassIn (edge is bs) h0 h i (NS.map (·.2)) t ∧ Hs w wz #[.slice a1 xs.length c1, .slice a2 ys.length c2, .slice a3 8 c3, .slice a4 bs.length c4] h ∧ SOwns wz wb 77 (.slice sa NS.length sc') NS)) (fun kv _ => NS.length - (intOf kv).toNat)
      case atStart => exact ⟨0, h, Nat.zero_le _, rfl, HP1.out, HI2.out.2, HSR.out.1⟩
      case round =>
        clear HP1 HI2
        obtain ⟨t, h, ht, rfl, HT⟩ := hrel
        have t0 : (0 : Int) ≤ (t : Int) := by omega
        by_cases htl : t < NS.length
        rotate_left
        · have t1 : ¬ ((t : Int) < (NS.length : Int)) := by omega
          have HNX := hide (HT.out.1.done (by rw [List.length_map]; omega) HEM.out)
          go_wp2
          go_roundw
          case rel => exact ⟨i + 1, h, by omega, by go_num, HNX.out, HT.out.2.1⟩
          case measure => simp [intOf]; omega
        have t1 : (t : Int) < (NS.length : Int) := by omega
        have ki := (HT.out.2.1.a.cell i).trans (hA_get h i (by rw [HT.out.1.p.s.n]; exact hi8))
        rw [HT.out.1.m] at ki
        obtain ⟨gs, cs, es, ks0, ks1, -, -, hgs, -⟩ := HT.out.2.2.at t htl
        simp only [Value.slice.injEq, true_and] at es
        obtain ⟨rfl, rfl⟩ := es
        obtain ⟨⟨sn, si⟩, hsn⟩ : ∃ X, NS[t] = X := ⟨_, rfl⟩
        have hsi : (NS.map (·.2))[t]'(by rw [List.length_map]; exact htl) = si := by rw [List.getElem_map, hsn]
        have hse : ¬ kindAt is si = 0 → edge is bs ((i : Int) + 1) si := fun hk => by
          have := HED.out NS[t] (List.getElem_mem htl)
          rw [hsn] at this
          exact this hk
        rw [hsn] at ks0 ks1
        simp only at ks0 ks1
        have HSI := hide (And.intro hsi hse)
        have z2 : wr.cell? ⟨w.heap.size, 2, none⟩ = some (.slice a3 8 c3) := HT.out.2.1.d.cell 2
        clear hsn hsi hse
        cases hin : inB si 1 8 with
        | false =>
          have hk0 : kindAt is si = 0 := by
            by_cases e : kindAt is si = 0
            · exact e
            · have := HE.out _ _ (HSI.out.2 e)
              have : inB si 1 8 = true := by simp [inB]; omega
              rw [this] at hin; cases hin
          have HNX : Hid (PassIn (edge is bs) h0 h i (NS.map (·.2)) (t + 1)) := HT.out.1.skip (by rw [List.length_map]; exact htl) (by rw [HSI.out.1]; exact fun ⟨_, _, _, e⟩ => e hk0)
          have HIB := hide hin
          clear hk0 hin
          go_wp2_with (go_at_call 51; refine (l01In_any si 1 8 _).mono ?_; rintro e w7 ⟨rfl, rfl⟩; rw [HIB.out])
          go_roundw
          case rel => exact ⟨t + 1, h, by omega, by go_num, HNX.out, HT.out.2⟩
          case measure => simp [intOf]; omega
        | true =>
        obtain ⟨h1, h2⟩ := inB_true hin
        obtain ⟨j, rfl⟩ : ∃ j : Nat, si = (j : Int) + 1 := ⟨(si - 1).toNat, by omega⟩
        have hj8 : j < 8 := by omega
        have j0 : (0 : Int) ≤ (j : Int) := by omega
        have j1 : (j : Int) < 8 := by omega
        have hwj : IntKind.i64.wrap (j : Int) = (j : Int) := wrap_small _ (by omega) (by omega)
        obtain ⟨g2, o2, rfl, hg2, hkc⟩ := HIN.out j hj8
        have y0 := (HT.out.2.1.b.cell (p := ⟨g2, o2 + j * 3, none⟩) hg2).trans hkc
        have HIB := hide hin
        clear hin h1 h2 hkc
        by_cases hk0 : kindAt is ((j : Int) + 1) = 0
        · have HNX : Hid (PassIn (edge is bs) h0 h i (NS.map (·.2)) (t + 1)) := HT.out.1.skip (by rw [List.length_map]; exact htl) (by rw [HSI.out.1]; exact fun ⟨_, _, _, e⟩ => e hk0)
          rw [hk0] at y0
          clear hk0
          go_wp2_with (go_at_call 51; refine (l01In_any ((j : Int) + 1) 1 8 _).mono ?_; rintro e w7 ⟨rfl, rfl⟩; rw [HIB.out])
          go_roundw
          case rel => exact ⟨t + 1, h, by omega, by go_num, HNX.out, HT.out.2⟩
          case measure => simp [intOf]; omega
        obtain ⟨kd, hkd⟩ : ∃ k, kindAt is ((j : Int) + 1) = k := ⟨_, rfl⟩
        have HNX : Hid (PassIn (edge is bs) h0 (h.set j true) i (NS.map (·.2)) (t + 1)) := by
          have := HT.out.1.set (t := t) (by rw [List.length_map]; exact htl) (by rw [HSI.out.1]; exact HSI.out.2 hk0) (by rw [HSI.out.1]; omega)
          rw [HSI.out.1, show ((j : Int) + 1 - 1).toNat = j by omega] at this
          exact this
        rw [hkd] at y0 hk0
        have hkb : (kd != 0) = true := by simp [hk0]
        have kj := (HT.out.2.1.a.cell j).trans (hA_get h j (by rw [HT.out.1.p.s.n]; exact hj8))
        have fj := HT.out.2.1.a.frozen j
        have HST : Hid (Hs w (wr.setCell ⟨w.heap.size + 1, j, none⟩ (.bool true)) #[.slice a1 xs.length c1, .slice a2 ys.length c2, .slice (some ⟨g2, o2, none⟩) 8 c3, .slice a4 bs.length c4] (h.set j true) ∧ SOwns (wr.setCell ⟨w.heap.size + 1, j, none⟩ (.bool true)) wb 77 (.slice (some ⟨gs, 0, none⟩) NS.length sc') NS) := ⟨HT.out.2.1.set j, HT.out.2.2.setCell_low (by have := HSR.out.2; exact this) _⟩
        obtain ⟨bj, hbj⟩ : ∃ b, h.getD j false = b := ⟨_, rfl⟩
        rw [hbj] at kj
        clear hkd hk0 hbj
        go_wp2_with (go_at_call 51; refine (l01In_any ((j : Int) + 1) 1 8 _).mono ?_; rintro e w7 ⟨rfl, rfl⟩; rw [HIB.out])
        go_roundw
        case rel => exact ⟨t + 1, h.set j true, by omega, by go_num, HNX.out, HST.out⟩
        case measure => simp [intOf]; omega
end Go.Proofs.YtljooldjcefkoaaGreat
/- append of a whole list to none: a copy in memory of its own. No Go function is spoken of. -/
namespace Go.Proofs.YtljooldjcefkoaaGreat.Kit
open Go.RowKit
/-- The slice value v of n members reads as the cells cs. -/
def RC (w : World) (v : Value) (n : Nat) (cs : List Value) : Prop := ∃ a cap, v = .slice a n cap ∧ ∀ (j : Nat) (u : Value), cs[j]? = some u → ∃ g off, a = some ⟨g, off, none⟩ ∧ w.cell? ⟨g, off + j, none⟩ = some u
theorem run_append_copy {P : Program} (w : World) (t ty : TypeId) (base : Nat) (e : TypeId) (ht : P.underlying t = some (.slice e)) (z : Value) (m bytes : Nat)
    (hi : (P.info? e).map (fun i => (i.zero, i.size, i.bytes)) = some (some z, m, bytes)) (hzc : z.cells.size = m) (hm0 : 0 < m) (hby : bytes ≤ 640) (v : Value) (hown : w.ownsRow base e m v 0 [])
    (hbase : base ≤ w.heap.size) (x : Value) (n : Nat) (cs : List Value) (hx : RC w x n cs) (hcl : cs.length = n * m) (h1 : ∀ u ∈ cs, u.oneCell' = true) (hl : n ≤ 100000000000) :
    ∃ v' w', (Builtin.append_ #[t, t] ty #[v, x]).run P w = .ok v' w' ∧ w'.ownsRow base e m v' n cs ∧ w.grownBy w' v.ownBlock ∧ (v'.ownBlock = v.ownBlock ∨ v'.ownBlock = some w.heap.size) := by
  obtain ⟨i0, hi, hz0, hz1, hz2⟩ := info_parts hi
  obtain ⟨a, c, rfl, hc⟩ := hx
  cases a with
  | none =>
    have hx0 : cs = [] := by
      cases cs with
      | nil => rfl
      | cons y r => obtain ⟨_, _, h, _⟩ := hc 0 y (by simp); cases h
    subst hx0
    have hn : n = 0 := by
      rcases Nat.eq_zero_or_pos n with h | h
      · exact h
      · have := Nat.mul_pos h hm0; simp at hcl; omega
    subst hn
    obtain ⟨av, cv, rfl⟩ : ∃ av cv, v = .slice av 0 cv := by
      rcases hown.2 with ⟨h1, h0⟩ | ⟨g, cap, cur, h1, -, -, h4, -⟩
      · exact ⟨_, _, h1⟩
      · exact ⟨_, _, h1⟩
    have hr := run_append_nothing (P := P) w t t ty e i0 ht hi av 0 cv (Nat.zero_le _) (.slice none 0 c) (Src.ofNil w ht c)
    exact ⟨_, w, hr, hown, grownBy_below (Below.refl _ _) _, .inl rfl⟩
  | some ad =>
    have h63 : (0 + n) * bytes ≤ 100000000000 * 640 := Nat.mul_le_mul (by omega) hby
    obtain ⟨v', w', hr, h2, h3, _, h5⟩ := run_append_own_at (P := P) w base t ty e i0 z m bytes ht hi hz0 hz1 hz2 hzc hm0 v 0 [] hown ad n c cs hcl
      (fun j u hj => by
        obtain ⟨g, off, e1, h4⟩ := hc j u hj
        cases e1
        have ha : (⟨g, off, none⟩ : Addr).add j = ⟨g, off + j, none⟩ := by cases j <;> simp [Addr.add]
        rw [ha, h4]) h1 (by unfold maxLen; omega) (by omega) hbase
    refine ⟨v', w', hr, ?_, h3, h5⟩
    rw [Nat.zero_add, List.nil_append] at h2
    exact h2
theorem wp_append_copy {P : Program} (w : World) {o : Oper} {a : Act} {K : Act → World → Prop} {Q : Exit → Act → World → Prop} (s x : Operand) (t : TypeId)
    (ho : o.op = .call { callee := .builtin .append, args := #[s, x], argTypes := #[t, t] }) (base : Nat) (e : TypeId) (ht : P.underlying t = some (.slice e)) (z : Value) (m bytes : Nat)
    (hi : (P.info? e).map (fun i => (i.zero, i.size, i.bytes)) = some (some z, m, bytes)) (hzc : z.cells.size = m) (hm0 : 0 < m) (hby : bytes ≤ 640) (v : Value) (hs : a.eval s = v) (hown : w.ownsRow base e m v 0 [])
    (hbase : base ≤ w.heap.size) (u : Value) (hu : a.eval x = u) (n : Nat) (cs : List Value) (hx : RC w u n cs) (hcl : cs.length = n * m) (h1 : ∀ u ∈ cs, u.oneCell' = true) (hl : n ≤ 100000000000)
    (h : ∀ v' w', w'.ownsRow base e m v' n cs → w.grownBy w' v.ownBlock → (v'.ownBlock = v.ownBlock ∨ v'.ownBlock = some w.heap.size) → K (a.put o.dst v') w') : o.wp P a w K Q := by
  obtain ⟨v', w', hr, h2, h3, h4⟩ := run_append_copy (P := P) w t o.type base e ht z m bytes hi hzc hm0 hby v hown hbase u n cs hx hcl h1 hl
  unfold Oper.wp execOp
  simp only [ho, resolve, invoke, builtin, Sem.run_bind, Sem.run_pure, Result.andThen_ok, List.map_toArray, List.map_cons, List.map_nil, hs, hu, hr]
  exact h v' w' h2 h3 h4
theorem wpList_append_copy {P : Program} (w : World) {ops : Array Oper} {rest : List Oper} {o : Oper} {a : Act} {Q : Exit → Act → World → Prop} (hgd : o.guard = none) (s x : Operand) (t : TypeId)
    (ho : o.op = .call { callee := .builtin .append, args := #[s, x], argTypes := #[t, t] }) (base : Nat) (e : TypeId) (ht : P.underlying t = some (.slice e)) (z : Value) (m bytes : Nat)
    (hi : (P.info? e).map (fun i => (i.zero, i.size, i.bytes)) = some (some z, m, bytes)) (hzc : z.cells.size = m) (hm0 : 0 < m) (hby : bytes ≤ 640) (v : Value) (hs : a.eval s = v) (hown : w.ownsRow base e m v 0 [])
    (hbase : base ≤ w.heap.size) (u : Value) (hu : a.eval x = u) (n : Nat) (cs : List Value) (hx : RC w u n cs) (hcl : cs.length = n * m) (h1 : ∀ u ∈ cs, u.oneCell' = true) (hl : n ≤ 100000000000)
    (h : ∀ v' w', w'.ownsRow base e m v' n cs → w.grownBy w' v.ownBlock → (v'.ownBlock = v.ownBlock ∨ v'.ownBlock = some w.heap.size) → wpList P ops Q rest (a.put o.dst v') w') : wpList P ops Q (o :: rest) a w :=
  wpList_plain hgd fun _ hK => wp_append_copy w s x t ho base e ht z m bytes hi hzc hm0 hby v hs hown hbase u hu n cs hx hcl h1 hl fun v' w' a b c => hK _ _ (h v' w' a b c)
theorem step_append_copy {P : Program} (w : World) {ops : Array Oper} {o : Oper} {a : Act} {K : Act → World → Prop} {Q : Exit → Act → World → Prop} {E : Prop} (hgd : o.guard = none) (s x : Operand) (t : TypeId)
    (ho : o.op = .call { callee := .builtin .append, args := #[s, x], argTypes := #[t, t] }) (base : Nat) (e : TypeId) (ht : P.underlying t = some (.slice e)) (z : Value) (m bytes : Nat)
    (hi : (P.info? e).map (fun i => (i.zero, i.size, i.bytes)) = some (some z, m, bytes)) (hzc : z.cells.size = m) (hm0 : 0 < m) (hby : bytes ≤ 640) (v : Value) (hs : a.eval s = v) (hown : w.ownsRow base e m v 0 [])
    (hbase : base ≤ w.heap.size) (u : Value) (hu : a.eval x = u) (n : Nat) (cs : List Value) (hx : RC w u n cs) (hcl : cs.length = n * m) (h1 : ∀ u ∈ cs, u.oneCell' = true) (hl : n ≤ 100000000000)
    (h : ∀ v' w', w'.ownsRow base e m v' n cs → w.grownBy w' v.ownBlock → (v'.ownBlock = v.ownBlock ∨ v'.ownBlock = some w.heap.size) → K (a.put o.dst v') w') :
    if Region.wanted o (yielded ops a.tmps) = true then Oper.wp P o a w K Q else E := by
  rw [if_pos (by simp [Region.wanted, hgd])]
  exact wp_append_copy w s x t ho base e ht z m bytes hi hzc hm0 hby v hs hown hbase u hu n cs hx hcl h1 hl h
/-- To a list without any room nothing is written: only new blocks come. -/
theorem run_append_copy0 {P : Program} (w : World) (t ty : TypeId) (base : Nat) (e : TypeId) (ht : P.underlying t = some (.slice e)) (z : Value) (m bytes : Nat)
    (hi : (P.info? e).map (fun i => (i.zero, i.size, i.bytes)) = some (some z, m, bytes)) (hzc : z.cells.size = m) (hm0 : 0 < m) (hby : bytes ≤ 640) (ao : Option Addr) (hown : w.ownsRow base e m (.slice ao 0 0) 0 [])
    (hbase : base ≤ w.heap.size) (x : Value) (n : Nat) (cs : List Value) (hx : RC w x n cs) (hcl : cs.length = n * m) (h1 : ∀ u ∈ cs, u.oneCell' = true) (hl : n ≤ 100000000000) :
    ∃ v' w', (Builtin.append_ #[t, t] ty #[.slice ao 0 0, x]).run P w = .ok v' w' ∧ w'.ownsRow base e m v' n cs ∧ Below w.heap.size w w' ∧ (v'.ownBlock = (Value.slice ao 0 0).ownBlock ∨ v'.ownBlock = some w.heap.size) := by
  obtain ⟨v', w', hr, h2, h3, h4⟩ := run_append_copy (P := P) w t ty base e ht z m bytes hi hzc hm0 hby _ hown hbase x n cs hx hcl h1 hl
  refine ⟨v', w', hr, h2, ?_, h4⟩
  obtain ⟨i0, hi0, hz0, hz1, hz2⟩ := info_parts hi
  obtain ⟨a, c, rfl, hc⟩ := hx
  have same : w' = w → Below w.heap.size w w' := fun e => e ▸ Below.refl _ _
  cases a with
  | none =>
    have hx0 : cs = [] := by
      cases cs with
      | nil => rfl
      | cons y r => obtain ⟨_, _, h, _⟩ := hc 0 y (by simp); cases h
    subst hx0
    have hn : n = 0 := by
      rcases Nat.eq_zero_or_pos n with h | h
      · exact h
      · have := Nat.mul_pos h hm0; simp at hcl; omega
    subst hn
    have hr2 := run_append_nothing (P := P) w t t ty e i0 ht hi0 ao 0 0 (Nat.zero_le _) (.slice none 0 c) (Src.ofNil w ht c)
    rw [hr2] at hr
    simp only [Result.ok.injEq] at hr
    exact same hr.2.symm
  | some ad =>
    have hnews : ∀ j u, cs[j]? = some u → w.cell? (ad.add j) = some u := fun j u hj => by
      obtain ⟨g, off, e1, h4⟩ := hc j u hj
      cases e1
      have ha : (⟨g, off, none⟩ : Addr).add j = ⟨g, off + j, none⟩ := by cases j <;> simp [Addr.add]
      rw [ha, h4]
    subst hz1
    by_cases hn : n = 0
    · subst hn
      have hx0 : cs = [] := List.eq_nil_of_length_eq_zero (by simpa using hcl)
      subst hx0
      have hs : Src P i0.size t (.slice (some ad) 0 c) 0 [] w := Src.ofSlice w ht ad 0 c [] (by simp) (by simp) (by simp)
      have hr2 := run_append_nothing (P := P) w t t ty e i0 ht hi0 ao 0 0 (Nat.zero_le _) (.slice (some ad) 0 c) hs
      rw [hr2] at hr
      simp only [Result.ok.injEq] at hr
      exact same hr.2.symm
    · have hs : Src P i0.size t (.slice (some ad) n c) n cs w := Src.ofSlice w ht ad n c cs hcl hnews h1
      have h63 : (0 + n) * i0.bytes ≤ 100000000000 * 640 := Nat.mul_le_mul (by omega) (by rw [hz2]; exact hby)
      have hr2 := run_append_grow_src (P := P) w t t ty e i0 z ht hi0 hz0 ao 0 0 [] (by cases ao <;> simp [Builtin.firstCells, loadCells, loadCellsFrom]) (.slice (some ad) n c) n cs hs (by omega) (by omega) (growslice_fits (by omega) (by omega))
      rw [hr2] at hr
      simp only [Result.ok.injEq] at hr
      rw [← hr.2]
      exact (Below.refl _ w).drew.alloc (Nat.le_refl _) _
theorem wp_append_copy0 {P : Program} (w : World) {o : Oper} {a : Act} {K : Act → World → Prop} {Q : Exit → Act → World → Prop} (s x : Operand) (t : TypeId)
    (ho : o.op = .call { callee := .builtin .append, args := #[s, x], argTypes := #[t, t] }) (base : Nat) (e : TypeId) (ht : P.underlying t = some (.slice e)) (z : Value) (m bytes : Nat)
    (hi : (P.info? e).map (fun i => (i.zero, i.size, i.bytes)) = some (some z, m, bytes)) (hzc : z.cells.size = m) (hm0 : 0 < m) (hby : bytes ≤ 640) (ao : Option Addr) (hs : a.eval s = .slice ao 0 0) (hown : w.ownsRow base e m (.slice ao 0 0) 0 [])
    (hbase : base ≤ w.heap.size) (u : Value) (hu : a.eval x = u) (n : Nat) (cs : List Value) (hx : RC w u n cs) (hcl : cs.length = n * m) (h1 : ∀ u ∈ cs, u.oneCell' = true) (hl : n ≤ 100000000000)
    (h : ∀ v' w', w'.ownsRow base e m v' n cs → Below w.heap.size w w' → (v'.ownBlock = (Value.slice ao 0 0).ownBlock ∨ v'.ownBlock = some w.heap.size) → K (a.put o.dst v') w') : o.wp P a w K Q := by
  obtain ⟨v', w', hr, h2, h3, h4⟩ := run_append_copy0 (P := P) w t o.type base e ht z m bytes hi hzc hm0 hby ao hown hbase u n cs hx hcl h1 hl
  unfold Oper.wp execOp
  simp only [ho, resolve, invoke, builtin, Sem.run_bind, Sem.run_pure, Result.andThen_ok, List.map_toArray, List.map_cons, List.map_nil, hs, hu, hr]
  exact h v' w' h2 h3 h4
theorem step_append_copy0 {P : Program} (w : World) {ops : Array Oper} {o : Oper} {a : Act} {K : Act → World → Prop} {Q : Exit → Act → World → Prop} {E : Prop} (hgd : o.guard = none) (s x : Operand) (t : TypeId)
    (ho : o.op = .call { callee := .builtin .append, args := #[s, x], argTypes := #[t, t] }) (base : Nat) (e : TypeId) (ht : P.underlying t = some (.slice e)) (z : Value) (m bytes : Nat)
    (hi : (P.info? e).map (fun i => (i.zero, i.size, i.bytes)) = some (some z, m, bytes)) (hzc : z.cells.size = m) (hm0 : 0 < m) (hby : bytes ≤ 640) (ao : Option Addr) (hs : a.eval s = .slice ao 0 0) (hown : w.ownsRow base e m (.slice ao 0 0) 0 [])
    (hbase : base ≤ w.heap.size) (u : Value) (hu : a.eval x = u) (n : Nat) (cs : List Value) (hx : RC w u n cs) (hcl : cs.length = n * m) (h1 : ∀ u ∈ cs, u.oneCell' = true) (hl : n ≤ 100000000000)
    (h : ∀ v' w', w'.ownsRow base e m v' n cs → Below w.heap.size w w' → (v'.ownBlock = (Value.slice ao 0 0).ownBlock ∨ v'.ownBlock = some w.heap.size) → K (a.put o.dst v') w') :
    if Region.wanted o (yielded ops a.tmps) = true then Oper.wp P o a w K Q else E := by
  rw [if_pos (by simp [Region.wanted, hgd])]
  exact wp_append_copy0 w s x t ho base e ht z m bytes hi hzc hm0 hby ao hs hown hbase u hu n cs hx hcl h1 hl h
theorem RFl.rc {w : World} {v : Value} {xs : List Bool} (h : RFl w v xs) : RC w v xs.length (fc xs) := by
  obtain ⟨a, c, rfl, h⟩ := h
  refine ⟨a, c, rfl, fun j u hj => ?_⟩
  have hl : j < xs.length := by have := (List.getElem?_eq_some_iff.1 hj).1; rwa [fc_length] at this
  obtain ⟨g, off, e1, -, e2⟩ := h j hl
  have : u = .bool xs[j] := by simp [fc, hl] at hj; exact hj.symm
  exact ⟨g, off, e1, by rw [e2, this]⟩
theorem RInts.rc {w : World} {v : Value} {xs : List Int} (h : RInts w v xs) : RC w v xs.length (ic xs) := by
  obtain ⟨a, c, rfl, h⟩ := h
  refine ⟨a, c, rfl, fun j u hj => ?_⟩
  have hl : j < xs.length := by have := (List.getElem?_eq_some_iff.1 hj).1; rwa [ic_length] at this
  obtain ⟨g, off, e1, -, e2⟩ := h j hl
  have : u = .int .i64 xs[j] := by simp [ic, hl] at hj; exact hj.symm
  exact ⟨g, off, e1, by rw [e2, this]⟩
theorem RSl.rc {w : World} {v : Value} {xs : List Sl} (h : RSl w v xs) : RC w v xs.length (sc xs) := by
  obtain ⟨a, c, rfl, -, h⟩ := h
  refine ⟨a, c, rfl, fun j u hj => ?_⟩
  have hl : j < xs.length * 2 := by have := (List.getElem?_eq_some_iff.1 hj).1; rwa [sc_length] at this
  obtain ⟨q, hq⟩ : ∃ q, q = j / 2 := ⟨_, rfl⟩
  have hql : q < xs.length := by omega
  obtain ⟨g, off, e1, -, e2, e3⟩ := h q hql
  have hm : j % 2 = 0 ∨ j % 2 = 1 := by omega
  rcases hm with hm | hm
  · have hj2 : j = q * 2 := by omega
    rw [hj2, sc_name xs q hql] at hj
    exact ⟨g, off, e1, by rw [hj2, e2]; exact hj⟩
  · have hj2 : j = q * 2 + 1 := by omega
    rw [hj2, sc_ino xs q hql] at hj
    exact ⟨g, off, e1, by rw [hj2, ← Nat.add_assoc, e3]; exact hj⟩
theorem fc_one (xs : List Bool) : ∀ u ∈ fc xs, u.oneCell' = true := fun u hu => by simp only [fc, List.mem_map] at hu; obtain ⟨_, -, rfl⟩ := hu; rfl
theorem ic_one (xs : List Int) : ∀ u ∈ ic xs, u.oneCell' = true := fun u hu => by simp only [ic, List.mem_map] at hu; obtain ⟨_, -, rfl⟩ := hu; rfl
theorem sc_one (xs : List Sl) : ∀ u ∈ sc xs, u.oneCell' = true := by
  induction xs with
  | nil => intro u hu; cases hu
  | cons s r ih =>
    intro u hu
    simp only [sc, List.mem_cons] at hu
    rcases hu with rfl | rfl | hu
    · rfl
    · rfl
    · exact ih u hu
/-- Behind an append to what is new only new blocks have turned. -/
theorem below_of_append {B : Nat} {w0 w w' : World} {v : Value} (hb : Below B w0 w) (hB : B ≤ w.heap.size) (hg : w.grownBy w' v.ownBlock) (hv : ∀ k, v.ownBlock = some k → B ≤ k) : Below B w0 w' := hb.grown hg hB hv
end Go.Proofs.YtljooldjcefkoaaGreat.Kit
/- Pointers (two numbers each): how they lie in memory; appends. No Go function is spoken of. -/
namespace Go.Proofs.YtljooldjcefkoaaGreat.Kit
open Go.RowKit
/-- A pointer: its inode, its block. -/
abbrev Pr := Int × Int
/-- Pointers as cells, two each. -/
def pc : List Pr → List Value
  | [] => []
  | s :: r => .int .i64 s.1 :: .int .i64 s.2 :: pc r
theorem pc_length (xs : List Pr) : (pc xs).length = xs.length * 2 := by
  induction xs with
  | nil => rfl
  | cons s r ih => simp [pc, ih]; omega
theorem pc_append (a b : List Pr) : pc (a ++ b) = pc a ++ pc b := by
  induction a with
  | nil => rfl
  | cons s r ih => simp [pc, ih]
theorem pc_name (xs : List Pr) (j : Nat) (h : j < xs.length) : (pc xs)[j * 2]? = some (.int .i64 xs[j].1) := by
  induction xs generalizing j with
  | nil => simp at h
  | cons s r ih =>
    cases j with
    | zero => rfl
    | succ j =>
      rw [show (j + 1) * 2 = j * 2 + 1 + 1 by omega]
      simp only [pc, List.getElem?_cons_succ, List.getElem_cons_succ]
      exact ih j (by simpa using h)
theorem pc_ino (xs : List Pr) (j : Nat) (h : j < xs.length) : (pc xs)[j * 2 + 1]? = some (.int .i64 xs[j].2) := by
  induction xs generalizing j with
  | nil => simp at h
  | cons s r ih =>
    cases j with
    | zero => rfl
    | succ j =>
      rw [show (j + 1) * 2 + 1 = j * 2 + 1 + 1 + 1 by omega]
      simp only [pc, List.getElem?_cons_succ, List.getElem_cons_succ]
      exact ih j (by simpa using h)
/-- The slice value v owns the pointers xs (element type e), in blocks from 'base' on. -/
def POwns (w : World) (base : Nat) (e : TypeId) (v : Value) (xs : List Pr) : Prop := w.ownsRow base e 2 v xs.length (pc xs)
theorem POwns.alloc {w : World} {base : Nat} {e : TypeId} {v : Value} {l : List Pr} (h : POwns w base e v l) (o : Obj) : POwns (w.alloc o) base e v l := World.ownsRow.alloc h o
theorem POwns.drew {w : World} {base : Nat} {e : TypeId} {v : Value} {l : List Pr} (h : POwns w base e v l) : POwns w.drew base e v l := World.ownsRow.drew h
theorem POwns.nil (w : World) (base : Nat) (e : TypeId) : POwns w base e (.slice none 0 0) [] := World.ownsRow_nil _ _ _ _
theorem POwns.lit (w : World) (base : Nat) (e : TypeId) (cs : Array Value) (xs : List Pr) (hc : cs.toList = pc xs) (hb : base ≤ w.heap.size) (hm : xs.length ≤ maxLen) : POwns (w.alloc (.cells cs e)) base e (.slice (some ⟨w.heap.size, 0, none⟩) xs.length xs.length) xs := by
  have h1 : cs.size = xs.length * 2 := by rw [← Array.length_toList, hc, pc_length]
  have := World.ownsRow_lit (base := base) (e := e) (size := 2) w cs xs.length hb hm h1
  unfold POwns
  rwa [hc] at this
theorem POwns.lt {w : World} {base : Nat} {e : TypeId} {v : Value} {l : List Pr} (h : POwns w base e v l) : ∀ k, v.ownBlock = some k → base ≤ k ∧ k < w.heap.size := World.ownsRow.lt h
theorem POwns.base_le {w : World} {base base' : Nat} {e : TypeId} {v : Value} {l : List Pr} (h : POwns w base e v l) (hb : base' ≤ base) : POwns w base' e v l := by
  refine ⟨h.1, ?_⟩
  rcases h.2 with h1 | ⟨g, cap, cur, h1, h2, h3⟩
  · exact .inl h1
  · exact .inr ⟨g, cap, cur, h1, by omega, h3⟩
theorem POwns.form {w : World} {base : Nat} {e : TypeId} {v : Value} {l : List Pr} (h : POwns w base e v l) : ∃ a cap, v = .slice a l.length cap ∧ (a = none → l = []) := by
  rcases h.2 with ⟨rfl, h0⟩ | ⟨g, cap, cur, rfl, _⟩
  · exact ⟨none, 0, by rw [h0], fun _ => List.length_eq_zero_iff.1 h0⟩
  · exact ⟨_, _, rfl, fun h => by cases h⟩
theorem POwns.of_heap {w w' : World} {base : Nat} {e : TypeId} {v : Value} {l : List Pr} (h : POwns w base e v l) (hh : ∀ k, v.ownBlock = some k → w'.heap[k]? = w.heap[k]?) : POwns w' base e v l := by
  refine ⟨h.1, ?_⟩
  rcases h.2 with h1 | ⟨g, cap, cur, h1, h2, h3, h4⟩
  · exact .inl h1
  · exact .inr ⟨g, cap, cur, h1, h2, by rw [hh g (by rw [h1]; rfl), h3], h4⟩
theorem POwns.below {w w' : World} {base B : Nat} {e : TypeId} {v : Value} {l : List Pr} (h : POwns w base e v l) (hb : Below B w w') (hB : w.heap.size ≤ B) : POwns w' base e v l :=
  h.of_heap fun k hk => hb.block k (by have := (h.lt k hk).2; omega)
theorem POwns.grown {w w' : World} {base : Nat} {e : TypeId} {v : Value} {l : List Pr} {row : Option Nat} (h : POwns w base e v l) (hg : w.grownBy w' row) (hn : ∀ k, v.ownBlock = some k → row ≠ some k) : POwns w' base e v l :=
  h.of_heap fun k hk => hg.block k (h.lt k hk).2 (fun e => hn k hk e.symm)
theorem POwns.setCell_other {w : World} {base : Nat} {e : TypeId} {v : Value} {l : List Pr} (h : POwns w base e v l) {b j : Nat} (hp : v.ownBlock ≠ some b) (x : Value) : POwns (w.setCell ⟨b, j, none⟩ x) base e v l :=
  h.of_heap fun k hk => heap_setCell_other w ⟨b, j, none⟩ k x (fun e => by simp at e; subst e; exact hp hk)
theorem POwns.setCell_low {w : World} {base : Nat} {e : TypeId} {v : Value} {l : List Pr} (h : POwns w base e v l) {b j : Nat} (hp : b < base) (x : Value) : POwns (w.setCell ⟨b, j, none⟩ x) base e v l :=
  h.setCell_other (fun e => by have := (h.lt b e).1; omega) x
/-- Where the cells of what is owned lie. -/
theorem POwns.at {w : World} {base : Nat} {e : TypeId} {v : Value} {l : List Pr} (h : POwns w base e v l) (k : Nat) (hk : k < l.length) :
    ∃ g cap, v = .slice (some ⟨g, 0, none⟩) l.length cap ∧ w.cell? ⟨g, k * 2, none⟩ = some (.int .i64 l[k].1) ∧ w.cell? ⟨g, k * 2 + 1, none⟩ = some (.int .i64 l[k].2) ∧ (∀ j, w.frozen? ⟨g, j, none⟩ = false) ∧ base ≤ g ∧ g < w.heap.size ∧ l.length ≤ cap := by
  have hlt := h.lt
  rcases h.2 with ⟨h1, h0⟩ | ⟨g, cap, cur, rfl, h2, h3, h4, h5, h6, h7⟩
  · omega
  · have h' : w.ownsRow base e 2 (.slice (some ⟨g, 0, none⟩) l.length cap) l.length (pc l) := h
    exact ⟨g, cap, rfl, (h'.cellAt _ (by omega)).trans (pc_name l k hk), (h'.cellAt _ (by omega)).trans (pc_ino l k hk), h'.frozenAt, h2, (hlt g rfl).2, h4⟩
/-- The slice value v reads as the pointers xs. -/
def RPr (w : World) (v : Value) (xs : List Pr) : Prop := ∃ a cap, v = .slice a xs.length cap ∧ xs.length ≤ cap ∧ ∀ (j : Nat) (h : j < xs.length), ∃ g off, a = some ⟨g, off, none⟩ ∧ g < w.heap.size ∧ w.cell? ⟨g, off + j * 2, none⟩ = some (.int .i64 xs[j].1) ∧ w.cell? ⟨g, off + j * 2 + 1, none⟩ = some (.int .i64 xs[j].2)
theorem RPr.below {w w' : World} {B : Nat} {v : Value} {xs : List Pr} (h : RPr w v xs) (hb : Below B w w') (hB : w.heap.size ≤ B) : RPr w' v xs := by
  obtain ⟨a, cap, rfl, hcap, h⟩ := h
  refine ⟨a, cap, rfl, hcap, fun j hj => ?_⟩
  obtain ⟨g, off, e, hg, hc, hd⟩ := h j hj
  exact ⟨g, off, e, Nat.lt_of_lt_of_le hg hb.size, (hb.cell (p := ⟨g, off + j * 2, none⟩) (Nat.lt_of_lt_of_le hg hB)).trans hc, (hb.cell (p := ⟨g, off + j * 2 + 1, none⟩) (Nat.lt_of_lt_of_le hg hB)).trans hd⟩
theorem RPr.alloc {w : World} {v : Value} {xs : List Pr} (h : RPr w v xs) (o : Obj) : RPr (w.alloc o) v xs := h.below ((Below.refl _ w).alloc (Nat.le_refl _) o) (Nat.le_refl _)
theorem RPr.drew {w : World} {v : Value} {xs : List Pr} (h : RPr w v xs) : RPr w.drew v xs := h
theorem RPr.form {w : World} {v : Value} {xs : List Pr} (h : RPr w v xs) : ∃ a c, v = .slice a xs.length c := by
  obtain ⟨a, c, h, _⟩ := h
  exact ⟨a, c, h⟩
theorem POwns.rpr {w : World} {base : Nat} {e : TypeId} {v : Value} {xs : List Pr} (h : POwns w base e v xs) : RPr w v xs := by
  rcases h.2 with ⟨rfl, h0⟩ | ⟨g, cap, cur, rfl, _, _, hcap, _⟩
  · have : xs = [] := List.length_eq_zero_iff.1 h0
    subst this
    exact ⟨none, 0, rfl, Nat.le_refl _, fun j hj => absurd hj (Nat.not_lt_zero _)⟩
  · refine ⟨_, cap, rfl, hcap, fun j hj => ?_⟩
    obtain ⟨g', c', e1, k1, k2, _, _, k5, _⟩ := h.at j hj
    simp only [Value.slice.injEq, Option.some.injEq, Addr.mk.injEq] at e1
    obtain ⟨⟨rfl, -, -⟩, -, rfl⟩ := e1
    exact ⟨g, 0, rfl, k5, by rw [Nat.zero_add]; exact k1, by rw [Nat.zero_add]; exact k2⟩
end Go.Proofs.YtljooldjcefkoaaGreat.Kit
namespace Go.Proofs.YtljooldjcefkoaaGreat
open Go.RowKit Kit
theorem Tryz.u90 : Tryz.prog.underlying 90 = some (.slice 93) := by kernel_rfl
theorem Tryz.i93 : (Tryz.prog.info? 93).map (fun i => (i.zero, i.size, i.bytes)) = some (some (.agg #[.int .i64 0, .int .i64 0]), 2, 16) := by kernel_rfl
theorem step_append_pr (W : World) {ops : Array Oper} {o : Oper} {a : Act} {K : Act → World → Prop} {Q : Exit → Act → World → Prop} {E : Prop} (hgd : o.guard = none) (s x : Operand)
    (ho : o.op = .call { callee := .builtin .append, args := #[s, x], argTypes := #[90, 90] }) (base : Nat) (v : Value) (l : List Pr) (hs : a.eval s = v) (hown : POwns W base 93 v l) (hbase : base ≤ W.heap.size)
    (g : Nat) (nm : Int) (io : Int) (hx : a.eval x = .slice (some ⟨g, 0, none⟩) 1 1) (hc : AtC W g 93 #[.int .i64 nm, .int .i64 io]) (hl : l.length ≤ 100000000000)
    (h : ∀ v' w', POwns w' base 93 v' (l ++ [(nm, io)]) → W.grownBy w' v.ownBlock → (∀ k, v'.ownBlock = some k → v.ownBlock = some k ∨ W.heap.size ≤ k) → K (a.put o.dst v') w') :
    if Region.wanted o (yielded ops a.tmps) = true then Oper.wp Tryz.prog o a W K Q else E := by
  obtain ⟨i0, hi, hz0, hz1, hz2⟩ := info_parts Tryz.i93
  refine step_append_lies _ hgd s x 90 ho base 93 i0 _ 2 16 Tryz.u90 hi hz0 hz1 hz2 rfl (by decide) v l.length (pc l) hs hown ⟨g, 0, none⟩ 1 1 [.int .i64 nm, .int .i64 io] hx rfl ?_ ?_ (by decide) ?_ ?_ hbase W.heap.size rfl ?_
  · intro j u hj
    have := (hc.cell j).trans (show (#[.int .i64 nm, .int .i64 io] : Array Value)[j]? = some u by simpa using hj)
    by_cases e : j = 0
    · subst e; simpa [Addr.add] using this
    · simpa [Addr.add, e] using this
  · intro u hu
    simp only [List.mem_cons, List.not_mem_nil, or_false] at hu
    rcases hu with rfl | rfl <;> rfl
  · unfold maxLen; omega
  · omega
  · intro g' cap w' hown' hgrow hat _
    refine h _ w' ?_ hgrow fun k hk => ?_
    · show w'.ownsRow base 93 2 _ (l ++ [(nm, io)]).length (pc (l ++ [(nm, io)]))
      rw [List.length_append, pc_append]
      exact hown'
    · simp only [Value.ownBlock, Option.some.injEq] at hk
      subst hk
      rcases hat with hat | hat
      · exact .inl hat
      · exact .inr (by omega)

theorem step_append_sls (W : World) {ops : Array Oper} {o : Oper} {a : Act} {K : Act → World → Prop} {Q : Exit → Act → World → Prop} {E : Prop} (hgd : o.guard = none) (s x : Operand)
    (ho : o.op = .call { callee := .builtin .append, args := #[s, x], argTypes := #[71, 71] }) (B : Nat) (v : Value) (ns : List Sl) (hs : a.eval s = v) (hown : SOwns W B 77 v ns) (hB : B ≤ W.heap.size)
    (u : Value) (ms : List Sl) (hx : a.eval x = u) (hu : RSl W u ms) (hl : ns.length ≤ 100000000000) (hm : ms.length ≤ 100000000)
    (h : ∀ v' w', SOwns w' B 77 v' (ns ++ ms) → W.grownBy w' v.ownBlock → (∀ k, v'.ownBlock = some k → v.ownBlock = some k ∨ W.heap.size ≤ k) → K (a.put o.dst v') w') :
    if Region.wanted o (yielded ops a.tmps) = true then Oper.wp Tryz.prog o a W K Q else E := by
  obtain ⟨i0, hi, hz0, hz1, hz2⟩ := info_parts Tryz.i77
  obtain ⟨a1, c1, rfl, hle⟩ : ∃ a1 c1, v = .slice a1 ns.length c1 ∧ ns.length ≤ c1 := by
    obtain ⟨a1, c1, e, h1, -⟩ := hown.rsl
    exact ⟨a1, c1, e, h1⟩
  obtain ⟨a2, c2, rfl, hc2, hcell⟩ := hu
  cases ms with
  | nil =>
    rw [if_pos (by simp [Region.wanted, hgd])]
    have hsrc : Src Tryz.prog i0.size 71 (.slice a2 0 c2) 0 [] W := by
      cases a2 with
      | none => exact Src.ofNil W Tryz.u71 c2
      | some a2 => exact Src.ofSlice W Tryz.u71 a2 0 c2 [] (by simp) (fun j u hj => by simp at hj) (fun u h => by cases h)
    have hr := run_append_nothing W 71 71 o.type 77 i0 Tryz.u71 hi a1 ns.length c1 hle (.slice a2 0 c2) hsrc
    have hx' : a.eval x = .slice a2 0 c2 := hx
    unfold Oper.wp execOp
    simp only [ho, resolve, invoke, builtin, Sem.run_bind, Sem.run_pure, Result.andThen_ok, List.map_toArray, List.map_cons, List.map_nil, hs, hx', hr]
    exact h _ W (by rw [List.append_nil]; exact hown) (grownBy_below (Below.refl _ _) _) (fun k hk => .inl hk)
  | cons y r =>
    obtain ⟨g, off, rfl, -, -, -⟩ := hcell 0 (by simp)
    refine step_append_lies _ hgd s x 71 ho B 77 i0 _ 2 24 Tryz.u71 hi hz0 hz1 hz2 rfl (by decide) _ ns.length (sc ns) hs hown ⟨g, off, none⟩ (y :: r).length c2 (sc (y :: r)) hx (by rw [sc_length]) ?_ (sc_one _) (by simp) ?_ ?_ hB W.heap.size rfl ?_
    · intro j u' hj
      have hj2 : j < (y :: r).length * 2 := by
        rw [← sc_length]
        exact (List.getElem?_eq_some_iff.1 hj).1
      obtain ⟨g2, o2, e3, -, k0, k1⟩ := hcell (j / 2) (by omega)
      simp only [Option.some.injEq, Addr.mk.injEq, and_true] at e3
      obtain ⟨rfl, rfl⟩ := e3
      have hadd : (⟨g, off, none⟩ : Addr).add j = ⟨g, off + j, none⟩ := by
        by_cases e : j = 0
        · subst e; simp [Addr.add]
        · simp [Addr.add, e]
      rw [hadd]
      rcases Nat.mod_two_eq_zero_or_one j with e | e
      · have e2 : j / 2 * 2 = j := by omega
        have := sc_name (y :: r) (j / 2) (by omega)
        rw [e2] at k0 this
        rw [k0, ← this, hj]
      · have e2 : j / 2 * 2 + 1 = j := by omega
        have := sc_ino (y :: r) (j / 2) (by omega)
        rw [e2] at this
        rw [Nat.add_assoc, e2] at k1
        rw [k1, ← this, hj]
    · unfold maxLen; simp only [List.length_cons] at hm ⊢; omega
    · simp only [List.length_cons] at hm ⊢; omega
    · intro g' cap' w' q1 q2 q3 _
      refine h _ w' ?_ q2 fun k hk => ?_
      · show w'.ownsRow B 77 2 _ (ns ++ y :: r).length (sc (ns ++ y :: r))
        rw [List.length_append, sc_append]
        exact q1
      · simp only [Value.ownBlock, Option.some.injEq] at hk
        subst hk
        rcases q3 with q3 | q3
        · exact .inl q3
        · exact .inr (by omega)
end Go.Proofs.YtljooldjcefkoaaGreat
/- What is counted, as plain functions. No Go function is spoken of. -/
namespace Go.Proofs.YtljooldjcefkoaaGreat
open Go.RowKit Kit
/-- All slots with a name of reached directories. -/
def slotsR (is : List Ino) (bs : List Blk) : List Sl := (reachL is bs).flatMap (named is bs)
theorem reachL_len (is : List Ino) (bs : List Blk) : (reachL is bs).length ≤ 8 := rchL_len _
theorem flat_take {α β : Type} (l : List α) (f : α → List β) (q : Nat) (h : q < l.length) : (l.take (q + 1)).flatMap f = (l.take q).flatMap f ++ f l[q] := by
  rw [List.take_succ_eq_append_getElem h, List.flatMap_append, List.flatMap_cons, List.flatMap_nil, List.append_nil]
theorem flatN_len {is : List Ino} {bs : List Blk} (h : RD is bs) (l : List Int) : (l.flatMap (named is bs)).length ≤ l.length * 8 := flatMap_len l fun i _ => h.named8 i
theorem slotsR_len {is : List Ino} {bs : List Blk} (h : RD is bs) : (slotsR is bs).length ≤ 64 := by
  have h1 := flatN_len h (reachL is bs)
  have h2 := reachL_len is bs
  unfold slotsR
  omega
/-- How many slots have this number. -/
def linksN (is : List Ino) (bs : List Blk) (i : Int) : Nat := (slotsR is bs).countP fun s => decide (s.2 = i)
theorem countP_take {α : Type} (l : List α) (p : α → Bool) (q : Nat) (h : q < l.length) : (l.take (q + 1)).countP p = (l.take q).countP p + if p l[q] = true then 1 else 0 := by
  rw [List.take_succ_eq_append_getElem h, List.countP_append, List.countP_cons, List.countP_nil, Nat.zero_add]
theorem countP_take_le {α : Type} (l : List α) (p : α → Bool) (q : Nat) : (l.take q).countP p ≤ l.length := Nat.le_trans List.countP_le_length (by rw [List.length_take]; omega)
theorem linksN_le {is : List Ino} {bs : List Blk} (h : RD is bs) (i : Int) : linksN is bs i ≤ 64 := Nat.le_trans List.countP_le_length (slotsR_len h)
end Go.Proofs.YtljooldjcefkoaaGreat
