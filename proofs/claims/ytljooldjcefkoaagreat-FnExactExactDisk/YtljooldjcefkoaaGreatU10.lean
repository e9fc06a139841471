/- Texts of the proof, bundled: Sl. -/
import Derived.Test.YtljooldjcefkoaaGreatU09
/- Of the specification: l14Slots by its contract. -/
namespace Go.Proofs.YtljooldjcefkoaaGreat.Kit
open Go.RowKit
/-- Slots under way: a list of its own, apart from a box. -/
structure SlR (w wr : World) (D : Array Value) (bw : Nat) (lv : Value) (l : List Sl) : Prop where
  o : SOwns wr (w.heap.size + 1) 77 lv l
  n : ∀ k, lv.ownBlock = some k → k ≠ bw
  b : Below w.heap.size w wr
  d : AtC wr w.heap.size 35 D
theorem SlR.below {w wr wr' : World} {D : Array Value} {bw : Nat} {lv : Value} {l : List Sl} (h : SlR w wr D bw lv l) (hb : Below wr.heap.size wr wr') : SlR w wr' D bw lv l :=
  ⟨h.o.below hb (Nat.le_refl _), h.n, h.b.trans (hb.mono h.b.size), h.d.over hb⟩
theorem SlR.app {w wr wr' : World} {D : Array Value} {bw : Nat} {lv lv' : Value} {l l' : List Sl} (h : SlR w wr D bw lv l) (ho : SOwns wr' (w.heap.size + 1) 77 lv' l') (hg : wr.grownBy wr' lv.ownBlock) (hv : ∀ k, lv'.ownBlock = some k → lv.ownBlock = some k ∨ wr.heap.size ≤ k) (hbw : bw < wr.heap.size) : SlR w wr' D bw lv' l' :=
  ⟨ho, fun k hk => (hv k hk).elim (h.n k) (fun e => by omega), h.b.grown hg h.b.size (fun k hk => by have := (h.o.lt k hk).1; omega), h.d.grown hg (fun e => by have := (h.o.lt _ e).1; omega)⟩
theorem SlR.turn {w wr : World} {D : Array Value} {bw bw' : Nat} {lv : Value} {l : List Sl} (h : SlR w wr D bw lv l) (hb : ∀ k, lv.ownBlock = some k → k ≠ bw') : SlR w wr D bw' lv l := ⟨h.o, hb, h.b, h.d⟩
end Go.Proofs.YtljooldjcefkoaaGreat.Kit
namespace Go.Proofs.YtljooldjcefkoaaGreat
open Go.RowKit Kit
set_option maxRecDepth 100000 in
set_option maxHeartbeats 6400000 in
theorem slots_any (x : Int) (dx dy iv bv : Value) (xs ys : List Bool) (is : List Ino) (bs : List Blk) (w : World) (h : DR w dx dy iv bv xs ys is bs) (hR : RD is bs) :
    Calls Tryz.prog 50 #[.agg #[dx, dy, iv, bv], .int .i64 x] w fun e w' => ∃ v, e = .returned v ∧ SOwns w' w.heap.size 77 v (named is bs x) ∧ Below w.heap.size w w' := by
  obtain ⟨a1, c1, a2, c2, a3, c3, a4, c4, rfl, rfl, rfl, rfl⟩ := h.form
  have HH := hide h
  have hi := hR.hi
  have HR4 := hide hR
  have HN0 : Hid (SlR w ((w.alloc (.cells #[.slice a1 xs.length c1, .slice a2 ys.length c2, .slice a3 is.length c3, .slice a4 bs.length c4] 35)).alloc (.cells #[] 77)) #[.slice a1 xs.length c1, .slice a2 ys.length c2, .slice a3 is.length c3, .slice a4 bs.length c4] 0 (.slice (some ⟨w.heap.size + 1, 0, none⟩) 0 0) []) := by
    have l0 := SOwns.lit (w.alloc (.cells #[.slice a1 xs.length c1, .slice a2 ys.length c2, .slice a3 is.length c3, .slice a4 bs.length c4] 35)) (w.heap.size + 1) 77 #[] [] rfl (by simp) (by decide)
    have e0 : (w.alloc (.cells #[.slice a1 xs.length c1, .slice a2 ys.length c2, .slice a3 is.length c3, .slice a4 bs.length c4] 35)).heap.size = w.heap.size + 1 := by simp
    rw [e0] at l0
    exact ⟨l0, fun k hk => by simp [Value.ownBlock] at hk; omega, ((Below.refl _ w).alloc (Nat.le_refl _) _).alloc (by simp) _, (AtC.new w 35 _).alloc _⟩
  have x2 : ((w.alloc (.cells #[.slice a1 xs.length c1, .slice a2 ys.length c2, .slice a3 is.length c3, .slice a4 bs.length c4] 35)).alloc (.cells #[] 77)).cell? ⟨w.heap.size, 2, none⟩ = some (.slice a3 is.length c3) := HN0.out.d.cell 2
  cases hin : inB x 1 is.length with
  | false =>
    have HIN := hide hin
    have e0 : named is bs x = [] := by unfold named; rw [kindAt_out hin]; rfl
    rw [e0]
    clear e0
    clear hin h hi hR
    go_enter Tryz.func50, Tryz.ntmps50
    go_wp2_with (go_at_call 51; refine (l01In_any x 1 _ _).mono ?_; rintro e w7 ⟨rfl, rfl⟩; rw [HIN.out])
    go_ret
    exact ⟨_, rfl, HN0.out.o.base_le (by omega), HN0.out.b⟩
  | true =>
    have HIN := hide hin
    obtain ⟨h1, h2⟩ := inB_true hin
    obtain ⟨j, rfl⟩ : ∃ j : Nat, x = (j : Int) + 1 := ⟨(x - 1).toNat, by omega⟩
    have hj : j < is.length := by omega
    have hj8 : j < 8 := by omega
    have hnm : named is bs ((j : Int) + 1) = if is[j].1 = 2 then nmdP bs is[j].2.2 else [] := by unfold named; rw [(kindAt_in hj).1, (kindAt_in hj).2]
    rw [hnm]
    clear hnm
    have hwj : IntKind.i64.wrap (j : Int) = (j : Int) := wrap_small _ (by omega) (by omega)
    obtain ⟨qa, qc, qe, -, qh⟩ := h.i
    simp only [Value.slice.injEq, true_and] at qe
    obtain ⟨rfl, rfl⟩ := qe
    obtain ⟨g2, o2, ⟨t0, t1, t2⟩, rfl, hg2, r0, r1, r2, e0, e1, rr⟩ := qh j hj
    have hpl := Nat.le_of_eq (hR.two _ (List.getElem_mem hj))
    obtain ⟨⟨kd, ln, ps⟩, hX⟩ : ∃ X, is[j] = X := ⟨_, rfl⟩
    rw [hX] at e0 e1 rr hpl ⊢
    simp only at e0 e1 rr r0 r1 r2 hpl
    subst e0 e1
    obtain ⟨sa, sc, rfl⟩ := rr.form
    have HRR := hide rr
    have bW := HN0.out.b
    have y0 := (bW.cell (p := ⟨g2, o2 + j * 3, none⟩) hg2).trans r0
    have HY2 : Hid (g2 < w.heap.size ∧ w.cell? ⟨g2, o2 + j * 3 + 2, none⟩ = some (.slice sa ps.length sc)) := ⟨hg2, r2⟩
    have j0 : (0 : Int) ≤ (j : Int) := by omega
    have j1 : (j : Int) < (is.length : Int) := by omega
    clear qh hX rr bW r0 r1 r2 hin h1 h2 h hi hR
    by_cases hkd : kd = 2
    rotate_left
    · have hkb : (kd != 2) = true := by simp [hkd]
      rw [if_neg hkd]
      go_enter Tryz.func50, Tryz.ntmps50
      go_wp2_with (go_at_call 51; refine (l01In_any ((j : Int) + 1) 1 _ _).mono ?_; rintro e w7 ⟨rfl, rfl⟩; rw [HIN.out])
      go_ret
      exact ⟨_, rfl, HN0.out.o.base_le (by omega), HN0.out.b⟩
    subst hkd
    rw [if_pos rfl]
    obtain ⟨RES, hRES⟩ : ∃ r, nmdP bs ps = r := ⟨_, rfl⟩
    rw [hRES]
    have HRES := hide hRES
    clear hRES
    obtain ⟨W1, hW1⟩ : ∃ W1, ((w.alloc (.cells #[.slice a1 xs.length c1, .slice a2 ys.length c2, .slice (some ⟨g2, o2, none⟩) is.length c3, .slice a4 bs.length c4] 35)).alloc (.cells #[] 77)) = W1 := ⟨_, rfl⟩
    rw [hW1] at HN0 x2 y0
    go_enter Tryz.func50, Tryz.ntmps50
    go_wp2_with (go_at_call 51; refine (l01In_any ((j : Int) + 1) 1 _ _).mono ?_; rintro e w7 ⟨rfl, rfl⟩; rw [HIN.out])
    clear hW1 y0 x2
    go_loopw [5, 6] (fun x5 kk wr => ∃ (lv : Value) (l : List Sl) (q : Nat), lv = x5 ∧ q ≤ ps.length ∧ kk = .int .i64 q ∧ Hid (SlR w wr #[.slice a1 xs.length c1, .slice a2 ys.length c2, .slice (some ⟨g2, o2, none⟩) is.length c3, .slice a4 bs.length c4] 0 lv l ∧ l.length ≤ 4 * q ∧ l = nmdP bs (ps.take q))) (fun _ kk _ => ps.length - (intOf kk).toNat)
    case atStart => exact ⟨_, [], 0, rfl, Nat.zero_le _, rfl, HN0.out, by decide, by simp [nmdP]⟩
    case round =>
      obtain ⟨lv, l, q, hlv, hq, rfl, HR⟩ := hrel
      subst hlv
      obtain ⟨wo, hwo⟩ : ∃ wo, wo = wr := ⟨_, rfl⟩
      subst hwo
      clear HN0
      have q0 : (0 : Int) ≤ (q : Int) := by omega
      have x2 : wo.cell? ⟨w.heap.size, 2, none⟩ = some (.slice (some ⟨g2, o2, none⟩) is.length c3) := HR.out.1.d.cell 2
      have y2 : wo.cell? ⟨g2, o2 + j * 3 + 2, none⟩ = some (.slice sa ps.length sc) := (HR.out.1.b.cell (p := ⟨g2, o2 + j * 3 + 2, none⟩) HY2.out.1).trans HY2.out.2
      by_cases hlt : q < ps.length
      rotate_left
      · have q1 : ¬ ((q : Int) < (ps.length : Int)) := by omega
        go_wp2
        go_ret
        refine ⟨_, rfl, ?_, HR.out.1.b⟩
        have e1 := HR.out.2.2
        rw [List.take_of_length_le (by omega), HRES.out] at e1
        rw [← e1]
        exact HR.out.1.o.base_le (by omega)
      have q1 : (q : Int) < (ps.length : Int) := by omega
      obtain ⟨pa', pc', e1, hcp⟩ := HRR.out
      simp only [Value.slice.injEq, true_and] at e1
      obtain ⟨rfl, rfl⟩ := e1
      obtain ⟨gp, op, rfl, hgp, kp⟩ := hcp q hlt
      obtain ⟨Pn, hPn⟩ : ∃ Pn, ps[q] = Pn := ⟨_, rfl⟩
      rw [hPn] at kp
      have HTK := hide (nmdP_take (bs := bs) hlt)
      rw [hPn] at HTK
      have CB := hide (fun (W : World) (hd : Below w.heap.size w W) => blk_any Pn (.slice a1 xs.length c1) (.slice a2 ys.length c2) (.slice (some ⟨g2, o2, none⟩) is.length c3) (.slice a4 bs.length c4) xs ys is bs w W HH.out hd (by rw [HR4.out.hb]; decide))
      have hb4 : (blkAt bs Pn).2.1.length ≤ 4 := HR4.out.blk4 Pn
      obtain ⟨⟨bd, bss, btx⟩, hBD⟩ : ∃ X, blkAt bs Pn = X := ⟨_, rfl⟩
      obtain ⟨F, hF⟩ : ∃ F, inB Pn 1 bs.length = F := ⟨_, rfl⟩
      rw [hBD, hF] at CB
      rw [hBD] at hb4 HTK
      simp only at hb4
      have HWR : Hid (∀ W, Below wo.heap.size wo W → SlR w W #[.slice a1 xs.length c1, .slice a2 ys.length c2, .slice (some ⟨g2, o2, none⟩) is.length c3, .slice a4 bs.length c4] 0 lv l ∧ W.cell? ⟨gp, op + q, none⟩ = some (.int .i64 Pn) ∧ W.cell? ⟨g2, o2 + j * 3 + 2, none⟩ = some (.slice (some ⟨gp, op, none⟩) ps.length sc)) := fun W b => by
        have r2 := HR.out.1.below b
        exact ⟨r2, (r2.b.cell (p := ⟨gp, op + q, none⟩) hgp).trans kp, (r2.b.cell (p := ⟨g2, o2 + j * 3 + 2, none⟩) HY2.out.1).trans HY2.out.2⟩
      clear hPn kp hcp hBD hF
      go_upto_region 7 with fail
      clear x2 y2
      go_cut [7, 8] from 28 to 80 (fun bv ok wx => ∃ (bw : Nat) (ba : Option Addr) (bc : Nat), bv = .pointer (some ⟨bw, 0, none⟩) ∧ ok = .bool F ∧ AtC wx bw 73 #[.bool bd, .slice ba bss.length bc, .string btx] ∧ RSl w (.slice ba bss.length bc) bss ∧ Below wo.heap.size wo wx ∧ wo.heap.size ≤ bw)
      case first =>
        refine wp_region_alt (by kernel_rfl) [0, 1, 2, 3, 4, 5, 6, 7, 8, 9, 10, 11, 12, 13, 14, 15] [16, 17] [([0, 1, 2, 3, 4, 5, 6, 7, 8, 9, 10, 11, 12, 13, 15], [[14, 16, 17], [16, 14, 17]])] (fun i => match i with | 0 => .const [] (.agg #[.slice a1 xs.length c1, .slice a2 ys.length c2, .slice (some ⟨g2, o2, none⟩) is.length c3, .slice a4 bs.length c4]) | 1 => .const [] (.pointer (some ⟨w.heap.size, 2, none⟩)) | 2 => .const [1] (.slice (some ⟨g2, o2, none⟩) is.length c3) | 3 => .const [] (.int .i64 ((j : Int) + 1)) | 4 => .const [3] (.int .i64 (j : Int)) | 5 => .const [2, 4] (.pointer (some ⟨g2, o2 + j * 3, none⟩)) | 6 => .const [5] (.pointer (some ⟨g2, o2 + j * 3 + 2, none⟩)) | 7 => .const [6] (.slice (some ⟨gp, op, none⟩) ps.length sc) | 8 => .const [] (.int .i64 (q : Int)) | 9 => .const [7, 8] (.pointer (some ⟨gp, op + q, none⟩)) | 10 => .const [9] (.int .i64 Pn) | 11 => MkT2 [0, 10] (BlkR w bd btx bss F) BlkR.below | 12 => MkMv 11 | 13 => MkFs 12 | 14 => MkSd 12 | 15 => MkW 73 #[.bool false, .slice none 0 0, .string ⟨#[]⟩] | _ => .triv) (fun x => ⟨List.toArray ((Value.agg #[Value.slice a1 xs.length c1, Value.slice a2 ys.length c2, Value.slice (some { block := g2, off := o2 }) is.length c3, Value.slice a4 bs.length c4]) :: (Value.int IntKind.i64 (↑j + 1)) :: (Value.pointer (some { block := w.heap.size, off := 0 })) :: (undef) :: (Value.slice none 0 0) :: (lv) :: (Value.int IntKind.i64 ↑q) :: (x 15) :: (u8) :: (u9) :: (Value.slice (some { block := w.heap.size + 1, off := 0 }) 0 0) :: (Value.int IntKind.i64 (↑j + 1)) :: (Value.pointer (some { block := w.heap.size, off := 2 })) :: (Value.slice (some { block := g2, off := o2 }) is.length c3) :: (Value.int IntKind.i64 ↑is.length) :: (Value.bool true) :: (Value.bool false) :: (Value.bool false) :: (Value.pointer (some { block := w.heap.size, off := 2 })) :: (Value.slice (some { block := g2, off := o2 }) is.length c3) :: (Value.int IntKind.i64 (↑j + 1)) :: (Value.int IntKind.i64 ↑j) :: (Value.pointer (some { block := g2, off := o2 + j * 3 })) :: (Value.pointer (some { block := g2, off := o2 + j * 3 })) :: (Value.int IntKind.i64 2) :: (Value.bool false) :: (Value.bool false) :: (undef) :: (Value.int IntKind.i64 ↑q) :: (Value.pointer (some { block := w.heap.size, off := 2 })) :: (Value.slice (some { block := g2, off := o2 }) is.length c3) :: (Value.int IntKind.i64 (↑j + 1)) :: (Value.int IntKind.i64 ↑j) :: (Value.pointer (some { block := g2, off := o2 + j * 3 })) :: (Value.pointer (some { block := g2, off := o2 + j * 3 + 2 })) :: (Value.slice (some { block := gp, off := op }) ps.length sc) :: (Value.int IntKind.i64 ↑ps.length) :: (Value.bool true) :: (u38) :: (u39) :: (x 12) :: (x 0) :: (x 1) :: (x 2) :: (x 3) :: (x 4) :: (x 5) :: (x 6) :: (x 7) :: (x 8) :: (x 9) :: (x 10) :: (x 11) :: (x 13) :: (x 14) :: (u55) :: (u56) :: (u57) :: (u58) :: (u59) :: (u60) :: (u61) :: (u62) :: (u63) :: (u64) :: (u65) :: (u66) :: (u67) :: (u68) :: (u69) :: (u70) :: (u71) :: (u72) :: (u73) :: (u74) :: (u75) :: (u76) :: (u77) :: (u78) :: (u79) :: (u80) :: (undef) :: []), []⟩) (fun i => match i with | 0 => u41 | 1 => u42 | 2 => u43 | 3 => u44 | 4 => u45 | 5 => u46 | 6 => u47 | 7 => u48 | 8 => u49 | 9 => u50 | 10 => u51 | 11 => u52 | 12 => u40 | 13 => u53 | 14 => u54 | 15 => u7 | _ => undef) rfl (makersOk2_of (by kernel_rfl) (by kernel_rfl)) (by kernel_rfl) (by kernel_rfl) (by kernel_rfl) rfl ?_ ?_ ?_
        · intro jo hj so x iw W hd hp K hK
          simp only [List.mem_cons, List.not_mem_nil, or_false] at hj
          rcases hj with rfl | rfl | rfl | rfl | rfl | rfl | rfl | rfl | rfl | rfl | rfl | rfl | rfl | rfl | rfl | rfl
          · refine wpOp_step (o := _) rfl fun K' hK' => ?_
            have HK : Hid (∀ v W', Below W.heap.size W W' → ((Mk.const [] (.agg #[.slice a1 xs.length c1, .slice a2 ys.length c2, .slice (some ⟨g2, o2, none⟩) is.length c3, .slice a4 bs.length c4]) : Mk)).P W.heap.size W'.heap.size W' v (upd x 0 v) → K' ⟨List.toArray ((Value.agg #[Value.slice a1 xs.length c1, Value.slice a2 ys.length c2, Value.slice (some { block := g2, off := o2 }) is.length c3, Value.slice a4 bs.length c4]) :: (Value.int IntKind.i64 (↑j + 1)) :: (Value.pointer (some { block := w.heap.size, off := 0 })) :: (undef) :: (Value.slice none 0 0) :: (lv) :: (Value.int IntKind.i64 ↑q) :: (x 15) :: (u8) :: (u9) :: (Value.slice (some { block := w.heap.size + 1, off := 0 }) 0 0) :: (Value.int IntKind.i64 (↑j + 1)) :: (Value.pointer (some { block := w.heap.size, off := 2 })) :: (Value.slice (some { block := g2, off := o2 }) is.length c3) :: (Value.int IntKind.i64 ↑is.length) :: (Value.bool true) :: (Value.bool false) :: (Value.bool false) :: (Value.pointer (some { block := w.heap.size, off := 2 })) :: (Value.slice (some { block := g2, off := o2 }) is.length c3) :: (Value.int IntKind.i64 (↑j + 1)) :: (Value.int IntKind.i64 ↑j) :: (Value.pointer (some { block := g2, off := o2 + j * 3 })) :: (Value.pointer (some { block := g2, off := o2 + j * 3 })) :: (Value.int IntKind.i64 2) :: (Value.bool false) :: (Value.bool false) :: (undef) :: (Value.int IntKind.i64 ↑q) :: (Value.pointer (some { block := w.heap.size, off := 2 })) :: (Value.slice (some { block := g2, off := o2 }) is.length c3) :: (Value.int IntKind.i64 (↑j + 1)) :: (Value.int IntKind.i64 ↑j) :: (Value.pointer (some { block := g2, off := o2 + j * 3 })) :: (Value.pointer (some { block := g2, off := o2 + j * 3 + 2 })) :: (Value.slice (some { block := gp, off := op }) ps.length sc) :: (Value.int IntKind.i64 ↑ps.length) :: (Value.bool true) :: (u38) :: (u39) :: (x 12) :: (v) :: (x 1) :: (x 2) :: (x 3) :: (x 4) :: (x 5) :: (x 6) :: (x 7) :: (x 8) :: (x 9) :: (x 10) :: (x 11) :: (x 13) :: (x 14) :: (u55) :: (u56) :: (u57) :: (u58) :: (u59) :: (u60) :: (u61) :: (u62) :: (u63) :: (u64) :: (u65) :: (u66) :: (u67) :: (u68) :: (u69) :: (u70) :: (u71) :: (u72) :: (u73) :: (u74) :: (u75) :: (u76) :: (u77) :: (u78) :: (u79) :: (u80) :: (undef) :: []), []⟩ W') := fun v W' h1 h2 => hK' _ _ (hK v W' h1 h2)
            have bw := of_drew hp.bel
            have k0 := (HWR.out W bw).1.d
            have q5 : W.cell? ⟨w.heap.size, 0, none⟩ = some (.slice a1 xs.length c1) := k0.cell 0
            have q6 : W.cell? ⟨w.heap.size, 1, none⟩ = some (.slice a2 ys.length c2) := k0.cell 1
            have q7 : W.cell? ⟨w.heap.size, 2, none⟩ = some (.slice (some ⟨g2, o2, none⟩) is.length c3) := k0.cell 2
            have q8 : W.cell? ⟨w.heap.size, 3, none⟩ = some (.slice a4 bs.length c4) := k0.cell 3
            clear k0 bw
            clear hK hK' hp hd
            go_simp
            exact HK.out _ _ (Below.refl _ _) rfl
          · refine wpOp_step (o := _) rfl fun K' hK' => ?_
            have HK : Hid (∀ v W', Below W.heap.size W W' → ((Mk.const [] (.pointer (some ⟨w.heap.size, 2, none⟩)) : Mk)).P W.heap.size W'.heap.size W' v (upd x 1 v) → K' ⟨List.toArray ((Value.agg #[Value.slice a1 xs.length c1, Value.slice a2 ys.length c2, Value.slice (some { block := g2, off := o2 }) is.length c3, Value.slice a4 bs.length c4]) :: (Value.int IntKind.i64 (↑j + 1)) :: (Value.pointer (some { block := w.heap.size, off := 0 })) :: (undef) :: (Value.slice none 0 0) :: (lv) :: (Value.int IntKind.i64 ↑q) :: (x 15) :: (u8) :: (u9) :: (Value.slice (some { block := w.heap.size + 1, off := 0 }) 0 0) :: (Value.int IntKind.i64 (↑j + 1)) :: (Value.pointer (some { block := w.heap.size, off := 2 })) :: (Value.slice (some { block := g2, off := o2 }) is.length c3) :: (Value.int IntKind.i64 ↑is.length) :: (Value.bool true) :: (Value.bool false) :: (Value.bool false) :: (Value.pointer (some { block := w.heap.size, off := 2 })) :: (Value.slice (some { block := g2, off := o2 }) is.length c3) :: (Value.int IntKind.i64 (↑j + 1)) :: (Value.int IntKind.i64 ↑j) :: (Value.pointer (some { block := g2, off := o2 + j * 3 })) :: (Value.pointer (some { block := g2, off := o2 + j * 3 })) :: (Value.int IntKind.i64 2) :: (Value.bool false) :: (Value.bool false) :: (undef) :: (Value.int IntKind.i64 ↑q) :: (Value.pointer (some { block := w.heap.size, off := 2 })) :: (Value.slice (some { block := g2, off := o2 }) is.length c3) :: (Value.int IntKind.i64 (↑j + 1)) :: (Value.int IntKind.i64 ↑j) :: (Value.pointer (some { block := g2, off := o2 + j * 3 })) :: (Value.pointer (some { block := g2, off := o2 + j * 3 + 2 })) :: (Value.slice (some { block := gp, off := op }) ps.length sc) :: (Value.int IntKind.i64 ↑ps.length) :: (Value.bool true) :: (u38) :: (u39) :: (x 12) :: (x 0) :: (v) :: (x 2) :: (x 3) :: (x 4) :: (x 5) :: (x 6) :: (x 7) :: (x 8) :: (x 9) :: (x 10) :: (x 11) :: (x 13) :: (x 14) :: (u55) :: (u56) :: (u57) :: (u58) :: (u59) :: (u60) :: (u61) :: (u62) :: (u63) :: (u64) :: (u65) :: (u66) :: (u67) :: (u68) :: (u69) :: (u70) :: (u71) :: (u72) :: (u73) :: (u74) :: (u75) :: (u76) :: (u77) :: (u78) :: (u79) :: (u80) :: (undef) :: []), []⟩ W') := fun v W' h1 h2 => hK' _ _ (hK v W' h1 h2)
            clear hK hK' hp hd
            go_simp
            exact HK.out _ _ (Below.refl _ _) rfl
          · refine wpOp_step (o := _) rfl fun K' hK' => ?_
            have HK : Hid (∀ v W', Below W.heap.size W W' → ((Mk.const [1] (.slice (some ⟨g2, o2, none⟩) is.length c3) : Mk)).P W.heap.size W'.heap.size W' v (upd x 2 v) → K' ⟨List.toArray ((Value.agg #[Value.slice a1 xs.length c1, Value.slice a2 ys.length c2, Value.slice (some { block := g2, off := o2 }) is.length c3, Value.slice a4 bs.length c4]) :: (Value.int IntKind.i64 (↑j + 1)) :: (Value.pointer (some { block := w.heap.size, off := 0 })) :: (undef) :: (Value.slice none 0 0) :: (lv) :: (Value.int IntKind.i64 ↑q) :: (x 15) :: (u8) :: (u9) :: (Value.slice (some { block := w.heap.size + 1, off := 0 }) 0 0) :: (Value.int IntKind.i64 (↑j + 1)) :: (Value.pointer (some { block := w.heap.size, off := 2 })) :: (Value.slice (some { block := g2, off := o2 }) is.length c3) :: (Value.int IntKind.i64 ↑is.length) :: (Value.bool true) :: (Value.bool false) :: (Value.bool false) :: (Value.pointer (some { block := w.heap.size, off := 2 })) :: (Value.slice (some { block := g2, off := o2 }) is.length c3) :: (Value.int IntKind.i64 (↑j + 1)) :: (Value.int IntKind.i64 ↑j) :: (Value.pointer (some { block := g2, off := o2 + j * 3 })) :: (Value.pointer (some { block := g2, off := o2 + j * 3 })) :: (Value.int IntKind.i64 2) :: (Value.bool false) :: (Value.bool false) :: (undef) :: (Value.int IntKind.i64 ↑q) :: (Value.pointer (some { block := w.heap.size, off := 2 })) :: (Value.slice (some { block := g2, off := o2 }) is.length c3) :: (Value.int IntKind.i64 (↑j + 1)) :: (Value.int IntKind.i64 ↑j) :: (Value.pointer (some { block := g2, off := o2 + j * 3 })) :: (Value.pointer (some { block := g2, off := o2 + j * 3 + 2 })) :: (Value.slice (some { block := gp, off := op }) ps.length sc) :: (Value.int IntKind.i64 ↑ps.length) :: (Value.bool true) :: (u38) :: (u39) :: (x 12) :: (x 0) :: (x 1) :: (v) :: (x 3) :: (x 4) :: (x 5) :: (x 6) :: (x 7) :: (x 8) :: (x 9) :: (x 10) :: (x 11) :: (x 13) :: (x 14) :: (u55) :: (u56) :: (u57) :: (u58) :: (u59) :: (u60) :: (u61) :: (u62) :: (u63) :: (u64) :: (u65) :: (u66) :: (u67) :: (u68) :: (u69) :: (u70) :: (u71) :: (u72) :: (u73) :: (u74) :: (u75) :: (u76) :: (u77) :: (u78) :: (u79) :: (u80) :: (undef) :: []), []⟩ W') := fun v W' h1 h2 => hK' _ _ (hK v W' h1 h2)
            have e1 : x 1 = .pointer (some ⟨w.heap.size, 2, none⟩) := hp.post 1 (hd 1 (show 1 ∈ [1] from by decide))
            have bw := of_drew hp.bel
            have q5 : W.cell? ⟨w.heap.size, 2, none⟩ = some (.slice (some ⟨g2, o2, none⟩) is.length c3) := (HWR.out W bw).1.d.cell 2
            clear bw
            clear hK hK' hp hd
            simp only [e1] at HK ⊢
            go_simp
            exact HK.out _ _ (Below.refl _ _) rfl
          · refine wpOp_step (o := _) rfl fun K' hK' => ?_
            have HK : Hid (∀ v W', Below W.heap.size W W' → ((Mk.const [] (.int .i64 ((j : Int) + 1)) : Mk)).P W.heap.size W'.heap.size W' v (upd x 3 v) → K' ⟨List.toArray ((Value.agg #[Value.slice a1 xs.length c1, Value.slice a2 ys.length c2, Value.slice (some { block := g2, off := o2 }) is.length c3, Value.slice a4 bs.length c4]) :: (Value.int IntKind.i64 (↑j + 1)) :: (Value.pointer (some { block := w.heap.size, off := 0 })) :: (undef) :: (Value.slice none 0 0) :: (lv) :: (Value.int IntKind.i64 ↑q) :: (x 15) :: (u8) :: (u9) :: (Value.slice (some { block := w.heap.size + 1, off := 0 }) 0 0) :: (Value.int IntKind.i64 (↑j + 1)) :: (Value.pointer (some { block := w.heap.size, off := 2 })) :: (Value.slice (some { block := g2, off := o2 }) is.length c3) :: (Value.int IntKind.i64 ↑is.length) :: (Value.bool true) :: (Value.bool false) :: (Value.bool false) :: (Value.pointer (some { block := w.heap.size, off := 2 })) :: (Value.slice (some { block := g2, off := o2 }) is.length c3) :: (Value.int IntKind.i64 (↑j + 1)) :: (Value.int IntKind.i64 ↑j) :: (Value.pointer (some { block := g2, off := o2 + j * 3 })) :: (Value.pointer (some { block := g2, off := o2 + j * 3 })) :: (Value.int IntKind.i64 2) :: (Value.bool false) :: (Value.bool false) :: (undef) :: (Value.int IntKind.i64 ↑q) :: (Value.pointer (some { block := w.heap.size, off := 2 })) :: (Value.slice (some { block := g2, off := o2 }) is.length c3) :: (Value.int IntKind.i64 (↑j + 1)) :: (Value.int IntKind.i64 ↑j) :: (Value.pointer (some { block := g2, off := o2 + j * 3 })) :: (Value.pointer (some { block := g2, off := o2 + j * 3 + 2 })) :: (Value.slice (some { block := gp, off := op }) ps.length sc) :: (Value.int IntKind.i64 ↑ps.length) :: (Value.bool true) :: (u38) :: (u39) :: (x 12) :: (x 0) :: (x 1) :: (x 2) :: (v) :: (x 4) :: (x 5) :: (x 6) :: (x 7) :: (x 8) :: (x 9) :: (x 10) :: (x 11) :: (x 13) :: (x 14) :: (u55) :: (u56) :: (u57) :: (u58) :: (u59) :: (u60) :: (u61) :: (u62) :: (u63) :: (u64) :: (u65) :: (u66) :: (u67) :: (u68) :: (u69) :: (u70) :: (u71) :: (u72) :: (u73) :: (u74) :: (u75) :: (u76) :: (u77) :: (u78) :: (u79) :: (u80) :: (undef) :: []), []⟩ W') := fun v W' h1 h2 => hK' _ _ (hK v W' h1 h2)
            clear hK hK' hp hd
            go_simp
            exact HK.out _ _ (Below.refl _ _) rfl
          · refine wpOp_step (o := _) rfl fun K' hK' => ?_
            have HK : Hid (∀ v W', Below W.heap.size W W' → ((Mk.const [3] (.int .i64 (j : Int)) : Mk)).P W.heap.size W'.heap.size W' v (upd x 4 v) → K' ⟨List.toArray ((Value.agg #[Value.slice a1 xs.length c1, Value.slice a2 ys.length c2, Value.slice (some { block := g2, off := o2 }) is.length c3, Value.slice a4 bs.length c4]) :: (Value.int IntKind.i64 (↑j + 1)) :: (Value.pointer (some { block := w.heap.size, off := 0 })) :: (undef) :: (Value.slice none 0 0) :: (lv) :: (Value.int IntKind.i64 ↑q) :: (x 15) :: (u8) :: (u9) :: (Value.slice (some { block := w.heap.size + 1, off := 0 }) 0 0) :: (Value.int IntKind.i64 (↑j + 1)) :: (Value.pointer (some { block := w.heap.size, off := 2 })) :: (Value.slice (some { block := g2, off := o2 }) is.length c3) :: (Value.int IntKind.i64 ↑is.length) :: (Value.bool true) :: (Value.bool false) :: (Value.bool false) :: (Value.pointer (some { block := w.heap.size, off := 2 })) :: (Value.slice (some { block := g2, off := o2 }) is.length c3) :: (Value.int IntKind.i64 (↑j + 1)) :: (Value.int IntKind.i64 ↑j) :: (Value.pointer (some { block := g2, off := o2 + j * 3 })) :: (Value.pointer (some { block := g2, off := o2 + j * 3 })) :: (Value.int IntKind.i64 2) :: (Value.bool false) :: (Value.bool false) :: (undef) :: (Value.int IntKind.i64 ↑q) :: (Value.pointer (some { block := w.heap.size, off := 2 })) :: (Value.slice (some { block := g2, off := o2 }) is.length c3) :: (Value.int IntKind.i64 (↑j + 1)) :: (Value.int IntKind.i64 ↑j) :: (Value.pointer (some { block := g2, off := o2 + j * 3 })) :: (Value.pointer (some { block := g2, off := o2 + j * 3 + 2 })) :: (Value.slice (some { block := gp, off := op }) ps.length sc) :: (Value.int IntKind.i64 ↑ps.length) :: (Value.bool true) :: (u38) :: (u39) :: (x 12) :: (x 0) :: (x 1) :: (x 2) :: (x 3) :: (v) :: (x 5) :: (x 6) :: (x 7) :: (x 8) :: (x 9) :: (x 10) :: (x 11) :: (x 13) :: (x 14) :: (u55) :: (u56) :: (u57) :: (u58) :: (u59) :: (u60) :: (u61) :: (u62) :: (u63) :: (u64) :: (u65) :: (u66) :: (u67) :: (u68) :: (u69) :: (u70) :: (u71) :: (u72) :: (u73) :: (u74) :: (u75) :: (u76) :: (u77) :: (u78) :: (u79) :: (u80) :: (undef) :: []), []⟩ W') := fun v W' h1 h2 => hK' _ _ (hK v W' h1 h2)
            have e3 : x 3 = .int .i64 ((j : Int) + 1) := hp.post 3 (hd 3 (show 3 ∈ [3] from by decide))
            clear hK hK' hp hd
            simp only [e3] at HK ⊢
            go_simp
            exact HK.out _ _ (Below.refl _ _) rfl
          · refine wpOp_step (o := _) rfl fun K' hK' => ?_
            have HK : Hid (∀ v W', Below W.heap.size W W' → ((Mk.const [2, 4] (.pointer (some ⟨g2, o2 + j * 3, none⟩)) : Mk)).P W.heap.size W'.heap.size W' v (upd x 5 v) → K' ⟨List.toArray ((Value.agg #[Value.slice a1 xs.length c1, Value.slice a2 ys.length c2, Value.slice (some { block := g2, off := o2 }) is.length c3, Value.slice a4 bs.length c4]) :: (Value.int IntKind.i64 (↑j + 1)) :: (Value.pointer (some { block := w.heap.size, off := 0 })) :: (undef) :: (Value.slice none 0 0) :: (lv) :: (Value.int IntKind.i64 ↑q) :: (x 15) :: (u8) :: (u9) :: (Value.slice (some { block := w.heap.size + 1, off := 0 }) 0 0) :: (Value.int IntKind.i64 (↑j + 1)) :: (Value.pointer (some { block := w.heap.size, off := 2 })) :: (Value.slice (some { block := g2, off := o2 }) is.length c3) :: (Value.int IntKind.i64 ↑is.length) :: (Value.bool true) :: (Value.bool false) :: (Value.bool false) :: (Value.pointer (some { block := w.heap.size, off := 2 })) :: (Value.slice (some { block := g2, off := o2 }) is.length c3) :: (Value.int IntKind.i64 (↑j + 1)) :: (Value.int IntKind.i64 ↑j) :: (Value.pointer (some { block := g2, off := o2 + j * 3 })) :: (Value.pointer (some { block := g2, off := o2 + j * 3 })) :: (Value.int IntKind.i64 2) :: (Value.bool false) :: (Value.bool false) :: (undef) :: (Value.int IntKind.i64 ↑q) :: (Value.pointer (some { block := w.heap.size, off := 2 })) :: (Value.slice (some { block := g2, off := o2 }) is.length c3) :: (Value.int IntKind.i64 (↑j + 1)) :: (Value.int IntKind.i64 ↑j) :: (Value.pointer (some { block := g2, off := o2 + j * 3 })) :: (Value.pointer (some { block := g2, off := o2 + j * 3 + 2 })) :: (Value.slice (some { block := gp, off := op }) ps.length sc) :: (Value.int IntKind.i64 ↑ps.length) :: (Value.bool true) :: (u38) :: (u39) :: (x 12) :: (x 0) :: (x 1) :: (x 2) :: (x 3) :: (x 4) :: (v) :: (x 6) :: (x 7) :: (x 8) :: (x 9) :: (x 10) :: (x 11) :: (x 13) :: (x 14) :: (u55) :: (u56) :: (u57) :: (u58) :: (u59) :: (u60) :: (u61) :: (u62) :: (u63) :: (u64) :: (u65) :: (u66) :: (u67) :: (u68) :: (u69) :: (u70) :: (u71) :: (u72) :: (u73) :: (u74) :: (u75) :: (u76) :: (u77) :: (u78) :: (u79) :: (u80) :: (undef) :: []), []⟩ W') := fun v W' h1 h2 => hK' _ _ (hK v W' h1 h2)
            have e2 : x 2 = .slice (some ⟨g2, o2, none⟩) is.length c3 := hp.post 2 (hd 2 (show 2 ∈ [2, 4] from by decide))
            have e4 : x 4 = .int .i64 (j : Int) := hp.post 4 (hd 4 (show 4 ∈ [2, 4] from by decide))
            clear hK hK' hp hd
            simp only [e2, e4] at HK ⊢
            go_simp
            exact HK.out _ _ (Below.refl _ _) rfl
          · refine wpOp_step (o := _) rfl fun K' hK' => ?_
            have HK : Hid (∀ v W', Below W.heap.size W W' → ((Mk.const [5] (.pointer (some ⟨g2, o2 + j * 3 + 2, none⟩)) : Mk)).P W.heap.size W'.heap.size W' v (upd x 6 v) → K' ⟨List.toArray ((Value.agg #[Value.slice a1 xs.length c1, Value.slice a2 ys.length c2, Value.slice (some { block := g2, off := o2 }) is.length c3, Value.slice a4 bs.length c4]) :: (Value.int IntKind.i64 (↑j + 1)) :: (Value.pointer (some { block := w.heap.size, off := 0 })) :: (undef) :: (Value.slice none 0 0) :: (lv) :: (Value.int IntKind.i64 ↑q) :: (x 15) :: (u8) :: (u9) :: (Value.slice (some { block := w.heap.size + 1, off := 0 }) 0 0) :: (Value.int IntKind.i64 (↑j + 1)) :: (Value.pointer (some { block := w.heap.size, off := 2 })) :: (Value.slice (some { block := g2, off := o2 }) is.length c3) :: (Value.int IntKind.i64 ↑is.length) :: (Value.bool true) :: (Value.bool false) :: (Value.bool false) :: (Value.pointer (some { block := w.heap.size, off := 2 })) :: (Value.slice (some { block := g2, off := o2 }) is.length c3) :: (Value.int IntKind.i64 (↑j + 1)) :: (Value.int IntKind.i64 ↑j) :: (Value.pointer (some { block := g2, off := o2 + j * 3 })) :: (Value.pointer (some { block := g2, off := o2 + j * 3 })) :: (Value.int IntKind.i64 2) :: (Value.bool false) :: (Value.bool false) :: (undef) :: (Value.int IntKind.i64 ↑q) :: (Value.pointer (some { block := w.heap.size, off := 2 })) :: (Value.slice (some { block := g2, off := o2 }) is.length c3) :: (Value.int IntKind.i64 (↑j + 1)) :: (Value.int IntKind.i64 ↑j) :: (Value.pointer (some { block := g2, off := o2 + j * 3 })) :: (Value.pointer (some { block := g2, off := o2 + j * 3 + 2 })) :: (Value.slice (some { block := gp, off := op }) ps.length sc) :: (Value.int IntKind.i64 ↑ps.length) :: (Value.bool true) :: (u38) :: (u39) :: (x 12) :: (x 0) :: (x 1) :: (x 2) :: (x 3) :: (x 4) :: (x 5) :: (v) :: (x 7) :: (x 8) :: (x 9) :: (x 10) :: (x 11) :: (x 13) :: (x 14) :: (u55) :: (u56) :: (u57) :: (u58) :: (u59) :: (u60) :: (u61) :: (u62) :: (u63) :: (u64) :: (u65) :: (u66) :: (u67) :: (u68) :: (u69) :: (u70) :: (u71) :: (u72) :: (u73) :: (u74) :: (u75) :: (u76) :: (u77) :: (u78) :: (u79) :: (u80) :: (undef) :: []), []⟩ W') := fun v W' h1 h2 => hK' _ _ (hK v W' h1 h2)
            have e5 : x 5 = .pointer (some ⟨g2, o2 + j * 3, none⟩) := hp.post 5 (hd 5 (show 5 ∈ [5] from by decide))
            clear hK hK' hp hd
            simp only [e5] at HK ⊢
            go_simp
            exact HK.out _ _ (Below.refl _ _) rfl
          · refine wpOp_step (o := _) rfl fun K' hK' => ?_
            have HK : Hid (∀ v W', Below W.heap.size W W' → ((Mk.const [6] (.slice (some ⟨gp, op, none⟩) ps.length sc) : Mk)).P W.heap.size W'.heap.size W' v (upd x 7 v) → K' ⟨List.toArray ((Value.agg #[Value.slice a1 xs.length c1, Value.slice a2 ys.length c2, Value.slice (some { block := g2, off := o2 }) is.length c3, Value.slice a4 bs.length c4]) :: (Value.int IntKind.i64 (↑j + 1)) :: (Value.pointer (some { block := w.heap.size, off := 0 })) :: (undef) :: (Value.slice none 0 0) :: (lv) :: (Value.int IntKind.i64 ↑q) :: (x 15) :: (u8) :: (u9) :: (Value.slice (some { block := w.heap.size + 1, off := 0 }) 0 0) :: (Value.int IntKind.i64 (↑j + 1)) :: (Value.pointer (some { block := w.heap.size, off := 2 })) :: (Value.slice (some { block := g2, off := o2 }) is.length c3) :: (Value.int IntKind.i64 ↑is.length) :: (Value.bool true) :: (Value.bool false) :: (Value.bool false) :: (Value.pointer (some { block := w.heap.size, off := 2 })) :: (Value.slice (some { block := g2, off := o2 }) is.length c3) :: (Value.int IntKind.i64 (↑j + 1)) :: (Value.int IntKind.i64 ↑j) :: (Value.pointer (some { block := g2, off := o2 + j * 3 })) :: (Value.pointer (some { block := g2, off := o2 + j * 3 })) :: (Value.int IntKind.i64 2) :: (Value.bool false) :: (Value.bool false) :: (undef) :: (Value.int IntKind.i64 ↑q) :: (Value.pointer (some { block := w.heap.size, off := 2 })) :: (Value.slice (some { block := g2, off := o2 }) is.length c3) :: (Value.int IntKind.i64 (↑j + 1)) :: (Value.int IntKind.i64 ↑j) :: (Value.pointer (some { block := g2, off := o2 + j * 3 })) :: (Value.pointer (some { block := g2, off := o2 + j * 3 + 2 })) :: (Value.slice (some { block := gp, off := op }) ps.length sc) :: (Value.int IntKind.i64 ↑ps.length) :: (Value.bool true) :: (u38) :: (u39) :: (x 12) :: (x 0) :: (x 1) :: (x 2) :: (x 3) :: (x 4) :: (x 5) :: (x 6) :: (v) :: (x 8) :: (x 9) :: (x 10) :: (x 11) :: (x 13) :: (x 14) :: (u55) :: (u56) :: (u57) :: (u58) :: (u59) :: (u60) :: (u61) :: (u62) :: (u63) :: (u64) :: (u65) :: (u66) :: (u67) :: (u68) :: (u69) :: (u70) :: (u71) :: (u72) :: (u73) :: (u74) :: (u75) :: (u76) :: (u77) :: (u78) :: (u79) :: (u80) :: (undef) :: []), []⟩ W') := fun v W' h1 h2 => hK' _ _ (hK v W' h1 h2)
            have e6 : x 6 = .pointer (some ⟨g2, o2 + j * 3 + 2, none⟩) := hp.post 6 (hd 6 (show 6 ∈ [6] from by decide))
            have bw := of_drew hp.bel
            have q5 := (HWR.out W bw).2.2
            clear bw
            clear hK hK' hp hd
            simp only [e6] at HK ⊢
            go_simp
            exact HK.out _ _ (Below.refl _ _) rfl
          · refine wpOp_step (o := _) rfl fun K' hK' => ?_
            have HK : Hid (∀ v W', Below W.heap.size W W' → ((Mk.const [] (.int .i64 (q : Int)) : Mk)).P W.heap.size W'.heap.size W' v (upd x 8 v) → K' ⟨List.toArray ((Value.agg #[Value.slice a1 xs.length c1, Value.slice a2 ys.length c2, Value.slice (some { block := g2, off := o2 }) is.length c3, Value.slice a4 bs.length c4]) :: (Value.int IntKind.i64 (↑j + 1)) :: (Value.pointer (some { block := w.heap.size, off := 0 })) :: (undef) :: (Value.slice none 0 0) :: (lv) :: (Value.int IntKind.i64 ↑q) :: (x 15) :: (u8) :: (u9) :: (Value.slice (some { block := w.heap.size + 1, off := 0 }) 0 0) :: (Value.int IntKind.i64 (↑j + 1)) :: (Value.pointer (some { block := w.heap.size, off := 2 })) :: (Value.slice (some { block := g2, off := o2 }) is.length c3) :: (Value.int IntKind.i64 ↑is.length) :: (Value.bool true) :: (Value.bool false) :: (Value.bool false) :: (Value.pointer (some { block := w.heap.size, off := 2 })) :: (Value.slice (some { block := g2, off := o2 }) is.length c3) :: (Value.int IntKind.i64 (↑j + 1)) :: (Value.int IntKind.i64 ↑j) :: (Value.pointer (some { block := g2, off := o2 + j * 3 })) :: (Value.pointer (some { block := g2, off := o2 + j * 3 })) :: (Value.int IntKind.i64 2) :: (Value.bool false) :: (Value.bool false) :: (undef) :: (Value.int IntKind.i64 ↑q) :: (Value.pointer (some { block := w.heap.size, off := 2 })) :: (Value.slice (some { block := g2, off := o2 }) is.length c3) :: (Value.int IntKind.i64 (↑j + 1)) :: (Value.int IntKind.i64 ↑j) :: (Value.pointer (some { block := g2, off := o2 + j * 3 })) :: (Value.pointer (some { block := g2, off := o2 + j * 3 + 2 })) :: (Value.slice (some { block := gp, off := op }) ps.length sc) :: (Value.int IntKind.i64 ↑ps.length) :: (Value.bool true) :: (u38) :: (u39) :: (x 12) :: (x 0) :: (x 1) :: (x 2) :: (x 3) :: (x 4) :: (x 5) :: (x 6) :: (x 7) :: (v) :: (x 9) :: (x 10) :: (x 11) :: (x 13) :: (x 14) :: (u55) :: (u56) :: (u57) :: (u58) :: (u59) :: (u60) :: (u61) :: (u62) :: (u63) :: (u64) :: (u65) :: (u66) :: (u67) :: (u68) :: (u69) :: (u70) :: (u71) :: (u72) :: (u73) :: (u74) :: (u75) :: (u76) :: (u77) :: (u78) :: (u79) :: (u80) :: (undef) :: []), []⟩ W') := fun v W' h1 h2 => hK' _ _ (hK v W' h1 h2)
            clear hK hK' hp hd
            go_simp
            exact HK.out _ _ (Below.refl _ _) rfl
          · refine wpOp_step (o := _) rfl fun K' hK' => ?_
            have HK : Hid (∀ v W', Below W.heap.size W W' → ((Mk.const [7, 8] (.pointer (some ⟨gp, op + q, none⟩)) : Mk)).P W.heap.size W'.heap.size W' v (upd x 9 v) → K' ⟨List.toArray ((Value.agg #[Value.slice a1 xs.length c1, Value.slice a2 ys.length c2, Value.slice (some { block := g2, off := o2 }) is.length c3, Value.slice a4 bs.length c4]) :: (Value.int IntKind.i64 (↑j + 1)) :: (Value.pointer (some { block := w.heap.size, off := 0 })) :: (undef) :: (Value.slice none 0 0) :: (lv) :: (Value.int IntKind.i64 ↑q) :: (x 15) :: (u8) :: (u9) :: (Value.slice (some { block := w.heap.size + 1, off := 0 }) 0 0) :: (Value.int IntKind.i64 (↑j + 1)) :: (Value.pointer (some { block := w.heap.size, off := 2 })) :: (Value.slice (some { block := g2, off := o2 }) is.length c3) :: (Value.int IntKind.i64 ↑is.length) :: (Value.bool true) :: (Value.bool false) :: (Value.bool false) :: (Value.pointer (some { block := w.heap.size, off := 2 })) :: (Value.slice (some { block := g2, off := o2 }) is.length c3) :: (Value.int IntKind.i64 (↑j + 1)) :: (Value.int IntKind.i64 ↑j) :: (Value.pointer (some { block := g2, off := o2 + j * 3 })) :: (Value.pointer (some { block := g2, off := o2 + j * 3 })) :: (Value.int IntKind.i64 2) :: (Value.bool false) :: (Value.bool false) :: (undef) :: (Value.int IntKind.i64 ↑q) :: (Value.pointer (some { block := w.heap.size, off := 2 })) :: (Value.slice (some { block := g2, off := o2 }) is.length c3) :: (Value.int IntKind.i64 (↑j + 1)) :: (Value.int IntKind.i64 ↑j) :: (Value.pointer (some { block := g2, off := o2 + j * 3 })) :: (Value.pointer (some { block := g2, off := o2 + j * 3 + 2 })) :: (Value.slice (some { block := gp, off := op }) ps.length sc) :: (Value.int IntKind.i64 ↑ps.length) :: (Value.bool true) :: (u38) :: (u39) :: (x 12) :: (x 0) :: (x 1) :: (x 2) :: (x 3) :: (x 4) :: (x 5) :: (x 6) :: (x 7) :: (x 8) :: (v) :: (x 10) :: (x 11) :: (x 13) :: (x 14) :: (u55) :: (u56) :: (u57) :: (u58) :: (u59) :: (u60) :: (u61) :: (u62) :: (u63) :: (u64) :: (u65) :: (u66) :: (u67) :: (u68) :: (u69) :: (u70) :: (u71) :: (u72) :: (u73) :: (u74) :: (u75) :: (u76) :: (u77) :: (u78) :: (u79) :: (u80) :: (undef) :: []), []⟩ W') := fun v W' h1 h2 => hK' _ _ (hK v W' h1 h2)
            have e7 : x 7 = .slice (some ⟨gp, op, none⟩) ps.length sc := hp.post 7 (hd 7 (show 7 ∈ [7, 8] from by decide))
            have e8 : x 8 = .int .i64 (q : Int) := hp.post 8 (hd 8 (show 8 ∈ [7, 8] from by decide))
            clear hK hK' hp hd
            simp only [e7, e8] at HK ⊢
            go_simp
            exact HK.out _ _ (Below.refl _ _) rfl
          · refine wpOp_step (o := _) rfl fun K' hK' => ?_
            have HK : Hid (∀ v W', Below W.heap.size W W' → ((Mk.const [9] (.int .i64 Pn) : Mk)).P W.heap.size W'.heap.size W' v (upd x 10 v) → K' ⟨List.toArray ((Value.agg #[Value.slice a1 xs.length c1, Value.slice a2 ys.length c2, Value.slice (some { block := g2, off := o2 }) is.length c3, Value.slice a4 bs.length c4]) :: (Value.int IntKind.i64 (↑j + 1)) :: (Value.pointer (some { block := w.heap.size, off := 0 })) :: (undef) :: (Value.slice none 0 0) :: (lv) :: (Value.int IntKind.i64 ↑q) :: (x 15) :: (u8) :: (u9) :: (Value.slice (some { block := w.heap.size + 1, off := 0 }) 0 0) :: (Value.int IntKind.i64 (↑j + 1)) :: (Value.pointer (some { block := w.heap.size, off := 2 })) :: (Value.slice (some { block := g2, off := o2 }) is.length c3) :: (Value.int IntKind.i64 ↑is.length) :: (Value.bool true) :: (Value.bool false) :: (Value.bool false) :: (Value.pointer (some { block := w.heap.size, off := 2 })) :: (Value.slice (some { block := g2, off := o2 }) is.length c3) :: (Value.int IntKind.i64 (↑j + 1)) :: (Value.int IntKind.i64 ↑j) :: (Value.pointer (some { block := g2, off := o2 + j * 3 })) :: (Value.pointer (some { block := g2, off := o2 + j * 3 })) :: (Value.int IntKind.i64 2) :: (Value.bool false) :: (Value.bool false) :: (undef) :: (Value.int IntKind.i64 ↑q) :: (Value.pointer (some { block := w.heap.size, off := 2 })) :: (Value.slice (some { block := g2, off := o2 }) is.length c3) :: (Value.int IntKind.i64 (↑j + 1)) :: (Value.int IntKind.i64 ↑j) :: (Value.pointer (some { block := g2, off := o2 + j * 3 })) :: (Value.pointer (some { block := g2, off := o2 + j * 3 + 2 })) :: (Value.slice (some { block := gp, off := op }) ps.length sc) :: (Value.int IntKind.i64 ↑ps.length) :: (Value.bool true) :: (u38) :: (u39) :: (x 12) :: (x 0) :: (x 1) :: (x 2) :: (x 3) :: (x 4) :: (x 5) :: (x 6) :: (x 7) :: (x 8) :: (x 9) :: (v) :: (x 11) :: (x 13) :: (x 14) :: (u55) :: (u56) :: (u57) :: (u58) :: (u59) :: (u60) :: (u61) :: (u62) :: (u63) :: (u64) :: (u65) :: (u66) :: (u67) :: (u68) :: (u69) :: (u70) :: (u71) :: (u72) :: (u73) :: (u74) :: (u75) :: (u76) :: (u77) :: (u78) :: (u79) :: (u80) :: (undef) :: []), []⟩ W') := fun v W' h1 h2 => hK' _ _ (hK v W' h1 h2)
            have e9 : x 9 = .pointer (some ⟨gp, op + q, none⟩) := hp.post 9 (hd 9 (show 9 ∈ [9] from by decide))
            have bw := of_drew hp.bel
            have q9 := (HWR.out W bw).2.1
            clear bw
            clear hK hK' hp hd
            simp only [e9] at HK ⊢
            go_simp
            exact HK.out _ _ (Below.refl _ _) rfl
          · refine wpOp_step (o := _) rfl fun K' hK' => ?_
            have HK : Hid (∀ v W', Below W.heap.size W W' → (MkT2 [0, 10] (BlkR w bd btx bss F) BlkR.below).P W.heap.size W'.heap.size W' v (upd x 11 v) → K' ⟨List.toArray ((Value.agg #[Value.slice a1 xs.length c1, Value.slice a2 ys.length c2, Value.slice (some { block := g2, off := o2 }) is.length c3, Value.slice a4 bs.length c4]) :: (Value.int IntKind.i64 (↑j + 1)) :: (Value.pointer (some { block := w.heap.size, off := 0 })) :: (undef) :: (Value.slice none 0 0) :: (lv) :: (Value.int IntKind.i64 ↑q) :: (x 15) :: (u8) :: (u9) :: (Value.slice (some { block := w.heap.size + 1, off := 0 }) 0 0) :: (Value.int IntKind.i64 (↑j + 1)) :: (Value.pointer (some { block := w.heap.size, off := 2 })) :: (Value.slice (some { block := g2, off := o2 }) is.length c3) :: (Value.int IntKind.i64 ↑is.length) :: (Value.bool true) :: (Value.bool false) :: (Value.bool false) :: (Value.pointer (some { block := w.heap.size, off := 2 })) :: (Value.slice (some { block := g2, off := o2 }) is.length c3) :: (Value.int IntKind.i64 (↑j + 1)) :: (Value.int IntKind.i64 ↑j) :: (Value.pointer (some { block := g2, off := o2 + j * 3 })) :: (Value.pointer (some { block := g2, off := o2 + j * 3 })) :: (Value.int IntKind.i64 2) :: (Value.bool false) :: (Value.bool false) :: (undef) :: (Value.int IntKind.i64 ↑q) :: (Value.pointer (some { block := w.heap.size, off := 2 })) :: (Value.slice (some { block := g2, off := o2 }) is.length c3) :: (Value.int IntKind.i64 (↑j + 1)) :: (Value.int IntKind.i64 ↑j) :: (Value.pointer (some { block := g2, off := o2 + j * 3 })) :: (Value.pointer (some { block := g2, off := o2 + j * 3 + 2 })) :: (Value.slice (some { block := gp, off := op }) ps.length sc) :: (Value.int IntKind.i64 ↑ps.length) :: (Value.bool true) :: (u38) :: (u39) :: (x 12) :: (x 0) :: (x 1) :: (x 2) :: (x 3) :: (x 4) :: (x 5) :: (x 6) :: (x 7) :: (x 8) :: (x 9) :: (x 10) :: (v) :: (x 13) :: (x 14) :: (u55) :: (u56) :: (u57) :: (u58) :: (u59) :: (u60) :: (u61) :: (u62) :: (u63) :: (u64) :: (u65) :: (u66) :: (u67) :: (u68) :: (u69) :: (u70) :: (u71) :: (u72) :: (u73) :: (u74) :: (u75) :: (u76) :: (u77) :: (u78) :: (u79) :: (u80) :: (undef) :: []), []⟩ W') := fun v W' h1 h2 => hK' _ _ (hK v W' h1 h2)
            have e0 : x 0 = .agg #[.slice a1 xs.length c1, .slice a2 ys.length c2, .slice (some ⟨g2, o2, none⟩) is.length c3, .slice a4 bs.length c4] := hp.post 0 (hd 0 (show 0 ∈ [0, 10] from by decide))
            have e10 : x 10 = .int .i64 Pn := hp.post 10 (hd 10 (show 10 ∈ [0, 10] from by decide))
            have dr := (HWR.out W (of_drew hp.bel)).1.b
            clear hK hK' hp hd
            simp only [e0, e10] at HK ⊢
            clear e0 e10
            go_simp
            refine (CB.out W dr).mono ?_
            rintro e w6 ⟨sv, rfl, R6, B6⟩
            obtain ⟨ba, bc, rfl, hR6⟩ := R6
            go_simp
            exact HK.out _ _ B6 ⟨_, _, rfl, ba, bc, rfl, rfl, ba, bc, rfl, hR6⟩
          · refine wpOp_step (o := _) rfl fun K' hK' => ?_
            have HK : Hid (∀ v W', Below W.heap.size W W' → (MkMv 11).P W.heap.size W'.heap.size W' v (upd x 12 v) → K' ⟨List.toArray ((Value.agg #[Value.slice a1 xs.length c1, Value.slice a2 ys.length c2, Value.slice (some { block := g2, off := o2 }) is.length c3, Value.slice a4 bs.length c4]) :: (Value.int IntKind.i64 (↑j + 1)) :: (Value.pointer (some { block := w.heap.size, off := 0 })) :: (undef) :: (Value.slice none 0 0) :: (lv) :: (Value.int IntKind.i64 ↑q) :: (x 15) :: (u8) :: (u9) :: (Value.slice (some { block := w.heap.size + 1, off := 0 }) 0 0) :: (Value.int IntKind.i64 (↑j + 1)) :: (Value.pointer (some { block := w.heap.size, off := 2 })) :: (Value.slice (some { block := g2, off := o2 }) is.length c3) :: (Value.int IntKind.i64 ↑is.length) :: (Value.bool true) :: (Value.bool false) :: (Value.bool false) :: (Value.pointer (some { block := w.heap.size, off := 2 })) :: (Value.slice (some { block := g2, off := o2 }) is.length c3) :: (Value.int IntKind.i64 (↑j + 1)) :: (Value.int IntKind.i64 ↑j) :: (Value.pointer (some { block := g2, off := o2 + j * 3 })) :: (Value.pointer (some { block := g2, off := o2 + j * 3 })) :: (Value.int IntKind.i64 2) :: (Value.bool false) :: (Value.bool false) :: (undef) :: (Value.int IntKind.i64 ↑q) :: (Value.pointer (some { block := w.heap.size, off := 2 })) :: (Value.slice (some { block := g2, off := o2 }) is.length c3) :: (Value.int IntKind.i64 (↑j + 1)) :: (Value.int IntKind.i64 ↑j) :: (Value.pointer (some { block := g2, off := o2 + j * 3 })) :: (Value.pointer (some { block := g2, off := o2 + j * 3 + 2 })) :: (Value.slice (some { block := gp, off := op }) ps.length sc) :: (Value.int IntKind.i64 ↑ps.length) :: (Value.bool true) :: (u38) :: (u39) :: (v) :: (x 0) :: (x 1) :: (x 2) :: (x 3) :: (x 4) :: (x 5) :: (x 6) :: (x 7) :: (x 8) :: (x 9) :: (x 10) :: (x 11) :: (x 13) :: (x 14) :: (u55) :: (u56) :: (u57) :: (u58) :: (u59) :: (u60) :: (u61) :: (u62) :: (u63) :: (u64) :: (u65) :: (u66) :: (u67) :: (u68) :: (u69) :: (u70) :: (u71) :: (u72) :: (u73) :: (u74) :: (u75) :: (u76) :: (u77) :: (u78) :: (u79) :: (u80) :: (undef) :: []), []⟩ W') := fun v W' h1 h2 => hK' _ _ (hK v W' h1 h2)
            have e11 : ∃ a r, x 11 = .tuple #[a, r] ∧ BlkR w bd btx bss F (iw 11).1 (iw 11).2 W a r := hp.post 11 (hd 11 (show 11 ∈ [11] from by decide))
            clear hK hK' hp hd
            obtain ⟨a, r, e11, -⟩ := e11
            have ea := hide e11
            simp only [e11] at HK ⊢
            clear e11
            go_simp
            exact HK.out _ _ (Below.refl _ _) ⟨ea.out, a, r, rfl⟩
          · refine wpOp_step (o := _) rfl fun K' hK' => ?_
            have HK : Hid (∀ v W', Below W.heap.size W W' → (MkFs 12).P W.heap.size W'.heap.size W' v (upd x 13 v) → K' ⟨List.toArray ((Value.agg #[Value.slice a1 xs.length c1, Value.slice a2 ys.length c2, Value.slice (some { block := g2, off := o2 }) is.length c3, Value.slice a4 bs.length c4]) :: (Value.int IntKind.i64 (↑j + 1)) :: (Value.pointer (some { block := w.heap.size, off := 0 })) :: (undef) :: (Value.slice none 0 0) :: (lv) :: (Value.int IntKind.i64 ↑q) :: (x 15) :: (u8) :: (u9) :: (Value.slice (some { block := w.heap.size + 1, off := 0 }) 0 0) :: (Value.int IntKind.i64 (↑j + 1)) :: (Value.pointer (some { block := w.heap.size, off := 2 })) :: (Value.slice (some { block := g2, off := o2 }) is.length c3) :: (Value.int IntKind.i64 ↑is.length) :: (Value.bool true) :: (Value.bool false) :: (Value.bool false) :: (Value.pointer (some { block := w.heap.size, off := 2 })) :: (Value.slice (some { block := g2, off := o2 }) is.length c3) :: (Value.int IntKind.i64 (↑j + 1)) :: (Value.int IntKind.i64 ↑j) :: (Value.pointer (some { block := g2, off := o2 + j * 3 })) :: (Value.pointer (some { block := g2, off := o2 + j * 3 })) :: (Value.int IntKind.i64 2) :: (Value.bool false) :: (Value.bool false) :: (undef) :: (Value.int IntKind.i64 ↑q) :: (Value.pointer (some { block := w.heap.size, off := 2 })) :: (Value.slice (some { block := g2, off := o2 }) is.length c3) :: (Value.int IntKind.i64 (↑j + 1)) :: (Value.int IntKind.i64 ↑j) :: (Value.pointer (some { block := g2, off := o2 + j * 3 })) :: (Value.pointer (some { block := g2, off := o2 + j * 3 + 2 })) :: (Value.slice (some { block := gp, off := op }) ps.length sc) :: (Value.int IntKind.i64 ↑ps.length) :: (Value.bool true) :: (u38) :: (u39) :: (x 12) :: (x 0) :: (x 1) :: (x 2) :: (x 3) :: (x 4) :: (x 5) :: (x 6) :: (x 7) :: (x 8) :: (x 9) :: (x 10) :: (x 11) :: (v) :: (x 14) :: (u55) :: (u56) :: (u57) :: (u58) :: (u59) :: (u60) :: (u61) :: (u62) :: (u63) :: (u64) :: (u65) :: (u66) :: (u67) :: (u68) :: (u69) :: (u70) :: (u71) :: (u72) :: (u73) :: (u74) :: (u75) :: (u76) :: (u77) :: (u78) :: (u79) :: (u80) :: (undef) :: []), []⟩ W') := fun v W' h1 h2 => hK' _ _ (hK v W' h1 h2)
            have e12 : x 11 = x 12 ∧ ∃ a r, x 12 = .tuple #[a, r] := hp.post 12 (hd 12 (show 12 ∈ [12] from by decide))
            clear hK hK' hp hd
            obtain ⟨-, a, r, e12⟩ := e12
            have ea : Hid (a = fstOf (x 12)) := by rw [e12]; rfl
            simp only [e12] at HK ⊢
            clear e12
            go_simp
            exact HK.out _ _ (Below.refl _ _) ea.out
          · refine wpOp_step (o := _) rfl fun K' hK' => ?_
            have HK : Hid (∀ v W', Below W.heap.size W W' → (MkSd 12).P W.heap.size W'.heap.size W' v (upd x 14 v) → K' ⟨List.toArray ((Value.agg #[Value.slice a1 xs.length c1, Value.slice a2 ys.length c2, Value.slice (some { block := g2, off := o2 }) is.length c3, Value.slice a4 bs.length c4]) :: (Value.int IntKind.i64 (↑j + 1)) :: (Value.pointer (some { block := w.heap.size, off := 0 })) :: (undef) :: (Value.slice none 0 0) :: (lv) :: (Value.int IntKind.i64 ↑q) :: (x 15) :: (u8) :: (u9) :: (Value.slice (some { block := w.heap.size + 1, off := 0 }) 0 0) :: (Value.int IntKind.i64 (↑j + 1)) :: (Value.pointer (some { block := w.heap.size, off := 2 })) :: (Value.slice (some { block := g2, off := o2 }) is.length c3) :: (Value.int IntKind.i64 ↑is.length) :: (Value.bool true) :: (Value.bool false) :: (Value.bool false) :: (Value.pointer (some { block := w.heap.size, off := 2 })) :: (Value.slice (some { block := g2, off := o2 }) is.length c3) :: (Value.int IntKind.i64 (↑j + 1)) :: (Value.int IntKind.i64 ↑j) :: (Value.pointer (some { block := g2, off := o2 + j * 3 })) :: (Value.pointer (some { block := g2, off := o2 + j * 3 })) :: (Value.int IntKind.i64 2) :: (Value.bool false) :: (Value.bool false) :: (undef) :: (Value.int IntKind.i64 ↑q) :: (Value.pointer (some { block := w.heap.size, off := 2 })) :: (Value.slice (some { block := g2, off := o2 }) is.length c3) :: (Value.int IntKind.i64 (↑j + 1)) :: (Value.int IntKind.i64 ↑j) :: (Value.pointer (some { block := g2, off := o2 + j * 3 })) :: (Value.pointer (some { block := g2, off := o2 + j * 3 + 2 })) :: (Value.slice (some { block := gp, off := op }) ps.length sc) :: (Value.int IntKind.i64 ↑ps.length) :: (Value.bool true) :: (u38) :: (u39) :: (x 12) :: (x 0) :: (x 1) :: (x 2) :: (x 3) :: (x 4) :: (x 5) :: (x 6) :: (x 7) :: (x 8) :: (x 9) :: (x 10) :: (x 11) :: (x 13) :: (v) :: (u55) :: (u56) :: (u57) :: (u58) :: (u59) :: (u60) :: (u61) :: (u62) :: (u63) :: (u64) :: (u65) :: (u66) :: (u67) :: (u68) :: (u69) :: (u70) :: (u71) :: (u72) :: (u73) :: (u74) :: (u75) :: (u76) :: (u77) :: (u78) :: (u79) :: (u80) :: (undef) :: []), []⟩ W') := fun v W' h1 h2 => hK' _ _ (hK v W' h1 h2)
            have e12 : x 11 = x 12 ∧ ∃ a r, x 12 = .tuple #[a, r] := hp.post 12 (hd 12 (show 12 ∈ [12] from by decide))
            clear hK hK' hp hd
            obtain ⟨-, a, r, e12⟩ := e12
            have ea : Hid (r = sndOf (x 12)) := by rw [e12]; rfl
            simp only [e12] at HK ⊢
            clear e12
            go_simp
            exact HK.out _ _ (Below.refl _ _) ea.out
          · refine wpOp_step (o := _) rfl fun K' hK' => ?_
            have HK : Hid (∀ v W', Below W.heap.size W W' → (MkW 73 #[.bool false, .slice none 0 0, .string ⟨#[]⟩]).P W.heap.size W'.heap.size W' v (upd x 15 v) → K' ⟨List.toArray ((Value.agg #[Value.slice a1 xs.length c1, Value.slice a2 ys.length c2, Value.slice (some { block := g2, off := o2 }) is.length c3, Value.slice a4 bs.length c4]) :: (Value.int IntKind.i64 (↑j + 1)) :: (Value.pointer (some { block := w.heap.size, off := 0 })) :: (undef) :: (Value.slice none 0 0) :: (lv) :: (Value.int IntKind.i64 ↑q) :: (v) :: (u8) :: (u9) :: (Value.slice (some { block := w.heap.size + 1, off := 0 }) 0 0) :: (Value.int IntKind.i64 (↑j + 1)) :: (Value.pointer (some { block := w.heap.size, off := 2 })) :: (Value.slice (some { block := g2, off := o2 }) is.length c3) :: (Value.int IntKind.i64 ↑is.length) :: (Value.bool true) :: (Value.bool false) :: (Value.bool false) :: (Value.pointer (some { block := w.heap.size, off := 2 })) :: (Value.slice (some { block := g2, off := o2 }) is.length c3) :: (Value.int IntKind.i64 (↑j + 1)) :: (Value.int IntKind.i64 ↑j) :: (Value.pointer (some { block := g2, off := o2 + j * 3 })) :: (Value.pointer (some { block := g2, off := o2 + j * 3 })) :: (Value.int IntKind.i64 2) :: (Value.bool false) :: (Value.bool false) :: (undef) :: (Value.int IntKind.i64 ↑q) :: (Value.pointer (some { block := w.heap.size, off := 2 })) :: (Value.slice (some { block := g2, off := o2 }) is.length c3) :: (Value.int IntKind.i64 (↑j + 1)) :: (Value.int IntKind.i64 ↑j) :: (Value.pointer (some { block := g2, off := o2 + j * 3 })) :: (Value.pointer (some { block := g2, off := o2 + j * 3 + 2 })) :: (Value.slice (some { block := gp, off := op }) ps.length sc) :: (Value.int IntKind.i64 ↑ps.length) :: (Value.bool true) :: (u38) :: (u39) :: (x 12) :: (x 0) :: (x 1) :: (x 2) :: (x 3) :: (x 4) :: (x 5) :: (x 6) :: (x 7) :: (x 8) :: (x 9) :: (x 10) :: (x 11) :: (x 13) :: (x 14) :: (u55) :: (u56) :: (u57) :: (u58) :: (u59) :: (u60) :: (u61) :: (u62) :: (u63) :: (u64) :: (u65) :: (u66) :: (u67) :: (u68) :: (u69) :: (u70) :: (u71) :: (u72) :: (u73) :: (u74) :: (u75) :: (u76) :: (u77) :: (u78) :: (u79) :: (u80) :: (undef) :: []), []⟩ W') := fun v W' h1 h2 => hK' _ _ (hK v W' h1 h2)
            clear hK hK' hp hd
            go_simp
            exact HK.out _ _ ((Below.refl _ W).alloc (Nat.le_refl _) _) ⟨rfl, by simp, AtC.new W 73 _⟩
        · intro x iw W hp
          obtain ⟨a, r, e11, R11⟩ := hp.post 11 (by decide)
          obtain ⟨e12, -⟩ := hp.post 12 (by decide)
          have e13 : x 13 = fstOf (x 12) := hp.post 13 (by decide)
          have e14 : x 14 = sndOf (x 12) := hp.post 14 (by decide)
          obtain ⟨e15, z15, A15⟩ := hp.post 15 (by decide)
          have l15 := hp.lo 15 (by decide)
          have lc := hp.lo 11 (by decide)
          have bel := of_drew hp.bel
          have ap := hp.apart 11 (by decide) 15 (by decide) (by decide)
          rw [← e12, e11] at e13
          rw [← e12, e11] at e14
          replace e14 : x 14 = r := e14
          rw [e11] at e12
          replace e12 := e12.symm
          replace e13 : x 13 = a := e13
          have y0 : W.cell? ⟨(iw 15).1, 0, none⟩ = some (.bool false) := A15.cell 0
          have f0 := A15.frozen 0
          have y1 : W.cell? ⟨(iw 15).1, 1, none⟩ = some (.slice none 0 0) := A15.cell 1
          have f1 := A15.frozen 1
          have y2 : W.cell? ⟨(iw 15).1, 2, none⟩ = some (.string ⟨#[]⟩) := A15.cell 2
          have f2 := A15.frozen 2
          obtain ⟨ba, bc, rfl, rfl, hR⟩ := R11
          have hb15 : wo.heap.size ≤ (iw 15).1 := l15.1
          have HFI : Hid (AtC W (iw 15).1 73 #[.bool false, .slice none 0 0, .string ⟨#[]⟩] ∧ RSl w (.slice ba bss.length bc) bss ∧ Below wo.heap.size wo W ∧ wo.heap.size ≤ (iw 15).1) := ⟨A15, hR, bel, hb15⟩
          clear hp A15 hR bel ap lc l15 z15 hb15
          simp only [e12, e13, e15, e14] at *
          generalize (iw 15).1 = bw at *
          go_wp2_with fail
          try rw [List.filterMap_nil]
          try go_wp2_with fail
          go_meet
          exact ⟨bw, ba, bc, rfl, rfl, ((HFI.out.1.set 0 _).set 1 _).set 2 _, HFI.out.2.1, ((HFI.out.2.2.1.setCell (p := ⟨bw, 0, none⟩) HFI.out.2.2.2 _).setCell (p := ⟨bw, 1, none⟩) HFI.out.2.2.2 _).setCell (p := ⟨bw, 2, none⟩) HFI.out.2.2.2 _, HFI.out.2.2.2⟩
        · intro qa hqa l hl x iw W hp
          simp only [List.mem_cons, List.not_mem_nil, or_false] at hqa
          subst hqa
          simp only [List.mem_cons, List.not_mem_nil, or_false] at hl
          obtain ⟨a, r, e11, R11⟩ := hp.post 11 (by decide)
          obtain ⟨e12, -⟩ := hp.post 12 (by decide)
          have e13 : x 13 = fstOf (x 12) := hp.post 13 (by decide)
          obtain ⟨e15, z15, A15⟩ := hp.post 15 (by decide)
          have l15 := hp.lo 15 (by decide)
          have lc := hp.lo 11 (by decide)
          have bel := of_drew hp.bel
          have ap := hp.apart 11 (by decide) 15 (by decide) (by decide)
          rw [← e12, e11] at e13
          rw [e11] at e12
          replace e12 := e12.symm
          replace e13 : x 13 = a := e13
          have y0 : W.cell? ⟨(iw 15).1, 0, none⟩ = some (.bool false) := A15.cell 0
          have f0 := A15.frozen 0
          have y1 : W.cell? ⟨(iw 15).1, 1, none⟩ = some (.slice none 0 0) := A15.cell 1
          have f1 := A15.frozen 1
          have y2 : W.cell? ⟨(iw 15).1, 2, none⟩ = some (.string ⟨#[]⟩) := A15.cell 2
          have f2 := A15.frozen 2
          obtain ⟨ba, bc, rfl, rfl, hR⟩ := R11
          have hb15 : wo.heap.size ≤ (iw 15).1 := l15.1
          have HFI : Hid (AtC W (iw 15).1 73 #[.bool false, .slice none 0 0, .string ⟨#[]⟩] ∧ RSl w (.slice ba bss.length bc) bss ∧ Below wo.heap.size wo W ∧ wo.heap.size ≤ (iw 15).1) := ⟨A15, hR, bel, hb15⟩
          clear hp A15 hR bel ap lc l15 z15 hb15
          simp only [e12, e13, e15] at *
          generalize (iw 15).1 = bw at *
          rcases hl with rfl | rfl
          · go_wp2_with fail
            try rw [List.filterMap_nil]
            try go_wp2_with fail
            go_meet
            exact ⟨bw, ba, bc, rfl, rfl, ((HFI.out.1.set 0 _).set 1 _).set 2 _, HFI.out.2.1, ((HFI.out.2.2.1.setCell (p := ⟨bw, 0, none⟩) HFI.out.2.2.2 _).setCell (p := ⟨bw, 1, none⟩) HFI.out.2.2.2 _).setCell (p := ⟨bw, 2, none⟩) HFI.out.2.2.2 _, HFI.out.2.2.2⟩
          · go_wp2_with fail
            try rw [List.filterMap_nil]
            try go_wp2_with fail
            go_meet
            exact ⟨bw, ba, bc, rfl, rfl, ((HFI.out.1.set 0 _).set 1 _).set 2 _, HFI.out.2.1, ((HFI.out.2.2.1.setCell (p := ⟨bw, 0, none⟩) HFI.out.2.2.2 _).setCell (p := ⟨bw, 1, none⟩) HFI.out.2.2.2 _).setCell (p := ⟨bw, 2, none⟩) HFI.out.2.2.2 _, HFI.out.2.2.2⟩
      case rest =>
        obtain ⟨bw, ba, bc, rfl, rfl, Aw, Rw, Bw, lw⟩ := hcut
        have HN2 : Hid (SlR w wc #[.slice a1 xs.length c1, .slice a2 ys.length c2, .slice (some ⟨g2, o2, none⟩) is.length c3, .slice a4 bs.length c4] bw lv l ∧ AtC wc bw 73 #[.bool bd, .slice ba bss.length bc, .string btx] ∧ l.length ≤ 4 * q + 0 ∧ l = nmdP bs (ps.take q) ++ nmdS (bss.take 0)) := ⟨(HR.out.1.below Bw).turn (fun k hk => by have := (HR.out.1.o.lt k hk).2; omega), Aw, HR.out.2.1, by rw [HR.out.2.2]; simp [nmdS]⟩
        have HRS := hide Rw
        clear Aw Rw Bw CB HR HWR lw
        go_wp2_with fail
        go_loopw [5, 9] (fun x5 kk wr => ∃ (lv : Value) (l : List Sl) (t : Nat), lv = x5 ∧ t ≤ bss.length ∧ kk = .int .i64 t ∧ Hid (SlR w wr #[.slice a1 xs.length c1, .slice a2 ys.length c2, .slice (some ⟨g2, o2, none⟩) is.length c3, .slice a4 bs.length c4] bw lv l ∧ AtC wr bw 73 #[.bool bd, .slice ba bss.length bc, .string btx] ∧ l.length ≤ 4 * q + t ∧ (bd = false → t = 0) ∧ l = nmdP bs (ps.take q) ++ nmdS (bss.take t))) (fun _ kk _ => bss.length - (intOf kk).toNat)
        case atStart => exact ⟨lv, l, 0, rfl, Nat.zero_le _, rfl, HN2.out.1, HN2.out.2.1, HN2.out.2.2.1, fun _ => rfl, HN2.out.2.2.2⟩
        case round =>
          clear HN2
          obtain ⟨lv', l', t, hlv, ht, rfl, HS⟩ := hrel
          subst hlv
          have g0 : wr.cell? ⟨bw, 0, none⟩ = some (.bool bd) := HS.out.2.1.cell 0
          have g1 : wr.cell? ⟨bw, 1, none⟩ = some (.slice ba bss.length bc) := HS.out.2.1.cell 1
          have t0 : (0 : Int) ≤ (t : Int) := by omega
          have hq2 : q < 2 := by omega
          by_cases htl : t < bss.length
          rotate_left
          · have t1 : ¬ ((t : Int) < (bss.length : Int)) := by omega
            have HEN : Hid (l' = nmdP bs (ps.take (q + 1)) ∧ l'.length ≤ 4 * (q + 1)) := by
              have e := HS.out.2.2.2.2
              rw [List.take_of_length_le (show bss.length ≤ t by omega)] at e
              refine ⟨?_, by have := HS.out.2.2.1; omega⟩
              rw [HTK.out, e]
              congr 1
              unfold nmd
              cases hbd : bd with
              | true => simp
              | false =>
                have := HS.out.2.2.2.1 hbd
                have : bss = [] := List.length_eq_zero_iff.1 (by omega)
                rw [this]
                simp [nmdS]
            go_wp2
            go_roundw
            case rel => exact ⟨lv', l', q + 1, rfl, by omega, by go_num, HS.out.1.turn (fun k hk => by have := (HS.out.1.o.lt k hk).1; omega), HEN.out.2, HEN.out.1⟩
            case measure => simp [intOf]; omega
          have t1 : (t : Int) < (bss.length : Int) := by omega
          cases bd with
          | false =>
            have HEN : Hid (l' = nmdP bs (ps.take (q + 1)) ∧ l'.length ≤ 4 * (q + 1)) := by
              have e := HS.out.2.2.2.2
              have e0 := HS.out.2.2.2.1 rfl
              refine ⟨?_, by have := HS.out.2.2.1; omega⟩
              rw [HTK.out, e, e0]
              simp [nmd, nmdS]
            go_wp2
            go_roundw
            case rel => exact ⟨lv', l', q + 1, rfl, by omega, by go_num, HS.out.1.turn (fun k hk => by have := (HS.out.1.o.lt k hk).1; omega), HEN.out.2, HEN.out.1⟩
            case measure => simp [intOf]; omega
          | true =>
          obtain ⟨sa', sc', e1, -, hcs⟩ := HRS.out
          simp only [Value.slice.injEq, true_and] at e1
          obtain ⟨rfl, rfl⟩ := e1
          obtain ⟨gs, os, rfl, hgs, ks0, ks1⟩ := hcs t htl
          have HTS := hide (nmdS_take htl)
          obtain ⟨⟨sn, si⟩, hsn⟩ : ∃ X, bss[t] = X := ⟨_, rfl⟩
          rw [hsn] at ks0 ks1 HTS
          simp only at ks0 ks1
          replace ks0 := (HS.out.1.b.cell (p := ⟨gs, os + t * 2, none⟩) hgs).trans ks0
          replace ks1 := (HS.out.1.b.cell (p := ⟨gs, os + t * 2 + 1, none⟩) hgs).trans ks1
          clear hcs hsn
          by_cases hse : sn = ⟨#[]⟩
          · subst hse
            have HE2 : Hid (l' = nmdP bs (ps.take q) ++ nmdS (bss.take (t + 1))) := by
              have e := HTS.out
              rw [if_pos rfl, List.append_nil] at e
              show l' = _
              rw [e]
              exact HS.out.2.2.2.2
            go_wp2
            go_roundw
            case rel => exact ⟨lv', l', t + 1, rfl, by omega, by go_num, HS.out.1, HS.out.2.1, by have := HS.out.2.2.1; omega, (fun e => by cases e), HE2.out⟩
            case measure => simp [intOf]; omega
          have hse2 : (sn.toList == ([] : List UInt8)) = false := beq_empty hse
          have hse3 : (sn.toList != ([] : List UInt8)) = true := by simp [bne, hse2]
          have HT : Hid (SOwns (wr.alloc (.cells #[.string sn, .int .i64 si] 77)) (w.heap.size + 1) 77 lv' l') := HS.out.1.o.alloc _
          have HK2 : Hid (AtC (wr.alloc (.cells #[.string sn, .int .i64 si] 77)) wr.heap.size 77 #[.string sn, .int .i64 si]) := AtC.new wr 77 _
          have HSZ : Hid (w.heap.size + 1 ≤ (wr.alloc (.cells #[.string sn, .int .i64 si] 77)).heap.size) := by have := HS.out.1.b.size; show _ ≤ _; simp; omega
          have HTL : Hid (l'.length ≤ 100000000000) := by have := HS.out.2.2.1; show _ ≤ _; omega
          have HAL : Hid (Below wr.heap.size wr (wr.alloc (.cells #[.string sn, .int .i64 si] 77))) := (Below.refl _ wr).alloc (Nat.le_refl _) _
          go_wp2_with (at_builtin; refine wpList_step fun K' hK' => ?_; refine step_append_sl _ rfl (.tmp 73) (.tmp 79) rfl (w.heap.size + 1) lv' _ rfl HT.out HSZ.out wr.heap.size sn si rfl HK2.out HTL.out ?_; intro v12 w12 T12 G12 V12; refine hK' _ _ ?_; have HR12 := hide (And.intro T12 (And.intro G12 V12)); clear T12 G12 V12 hK')
          have HRL : Hid (SlR w w12 #[.slice a1 xs.length c1, .slice a2 ys.length c2, .slice (some ⟨g2, o2, none⟩) is.length c3, .slice a4 bs.length c4] bw v12 (l' ++ [(sn, si)]) ∧ AtC w12 bw 73 #[.bool true, .slice (some ⟨gs, os, none⟩) bss.length bc, .string btx] ∧ (l' ++ [(sn, si)]).length ≤ 4 * q + (t + 1) ∧ (true = false → t + 1 = 0) ∧ l' ++ [(sn, si)] = nmdP bs (ps.take q) ++ nmdS (bss.take (t + 1))) := by
            obtain ⟨T12, G12, V12⟩ := HR12.out
            have n1 := HS.out.1.below HAL.out
            have hbw : bw < (wr.alloc (.cells #[.string sn, .int .i64 si] 77)).heap.size := (HS.out.2.1.over HAL.out).lt
            have e := HTS.out
            rw [if_neg hse] at e
            refine ⟨n1.app T12 G12 V12 hbw, (HS.out.2.1.over HAL.out).grown G12 (fun e => HS.out.1.n _ e rfl), by have := HS.out.2.2.1; simp; omega, (fun e => by cases e), ?_⟩
            rw [e, ← List.append_assoc, ← HS.out.2.2.2.2]
          go_roundw
          case rel => exact ⟨v12, l' ++ [(sn, si)], t + 1, rfl, by omega, by go_num, HRL.out⟩
          case measure => simp [intOf]; omega
end Go.Proofs.YtljooldjcefkoaaGreat
