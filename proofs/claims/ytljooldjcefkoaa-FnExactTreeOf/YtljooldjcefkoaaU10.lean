/- Texts of the proof, bundled: Cn. -/
import Derived.Deep.DeepCutAuto
import Derived.Deep.CutRange
import Derived.BigRegion
import Derived.RegionTactic
import Derived.Handy
import Derived.Test.YtljooldjcefkoaaU09
/- Of the specification: NamesOf by its contract: some names of its own. -/
namespace Go.Proofs.Ytljooldjcefkoaa.Kit
open Go.RowKit
/-- Names under way: a list of its own, apart from the boxes. -/
structure NmR (w wr : World) (D X : Array Value) (bw : Nat) (lv : Value) (l : List ByteArray) : Prop where
  o : ROwns wr (w.heap.size + 1) 9 lv (stc l)
  n : ∀ k, lv.ownBlock = some k → k ≠ w.heap.size + 1 + 1 ∧ k ≠ bw
  b : Below w.heap.size w wr
  d : AtC wr w.heap.size 36 D
  x : AtC wr (w.heap.size + 1 + 1) 49 X
theorem NmR.below {w wr wr' : World} {D X : Array Value} {bw : Nat} {lv : Value} {l : List ByteArray} (h : NmR w wr D X bw lv l) (hb : Below wr.heap.size wr wr') : NmR w wr' D X bw lv l :=
  ⟨h.o.below hb (Nat.le_refl _), h.n, h.b.trans (hb.mono h.b.size), h.d.over hb, h.x.over hb⟩
theorem NmR.app {w wr wr' : World} {D X : Array Value} {bw : Nat} {lv lv' : Value} {l l' : List ByteArray} (h : NmR w wr D X bw lv l) (ho : ROwns wr' (w.heap.size + 1) 9 lv' (stc l')) (hg : wr.grownBy wr' lv.ownBlock) (hv : ∀ k, lv'.ownBlock = some k → lv.ownBlock = some k ∨ wr.heap.size ≤ k) (hbw : bw < wr.heap.size) : NmR w wr' D X bw lv' l' :=
  ⟨ho, fun k hk => (hv k hk).elim (h.n k) (fun e => by have := h.x.lt; omega), h.b.grown hg h.b.size (fun k hk => by have := (h.o.lt k hk).1; omega), h.d.grown hg (fun e => by have := (h.o.lt _ e).1; omega), h.x.grown hg (fun e => (h.n _ e).1 rfl)⟩
theorem NmR.turn {w wr : World} {D X : Array Value} {bw bw' : Nat} {lv : Value} {l : List ByteArray} (h : NmR w wr D X bw lv l) (hb : ∀ k, lv.ownBlock = some k → k ≠ bw') : NmR w wr D X bw' lv l := ⟨h.o, fun k hk => ⟨(h.n k hk).1, hb k hk⟩, h.b, h.d, h.x⟩
theorem blkAt_four' {bs : List Blk} (hk : ∀ q ∈ bs, q.2.1.length ≤ 4) (x : Int) : (blkAt bs x).2.1.length ≤ 4 := by
  cases h : inB x 1 bs.length with
  | false => unfold blkAt; rw [h]; simp
  | true =>
    obtain ⟨jb, hb, -, e⟩ := blkAt_in h
    rw [e]
    exact hk _ (List.getElem_mem hb)
end Go.Proofs.Ytljooldjcefkoaa.Kit
namespace Go.Proofs.Ytljooldjcefkoaa
open Go.RowKit Kit
theorem Try.u85 : Try.prog.underlying 85 = some (.slice 9) := by kernel_rfl
theorem Try.i9 : (Try.prog.info? 9).map (fun i => (i.zero, i.size, i.bytes)) = some (some (.string ByteArray.empty), 1, 16) := by kernel_rfl
set_option maxRecDepth 100000 in
set_option maxHeartbeats 6400000 in
theorem names_any (x : Int) (dx dy iv bv : Value) (xs ys : List Bool) (is : List Ino) (bs : List Blk) (w : World) (h : DR w dx dy iv bv xs ys is bs) (hi : is.length = 8) (hbl : bs.length ≤ 1048576) (hp : ∀ q ∈ is, q.2.2.length ≤ 2) (hk : ∀ q ∈ bs, q.2.1.length ≤ 4) :
    Calls Try.prog 41 #[.agg #[dx, dy, iv, bv], .int .i64 x] w fun e w' => ∃ lv, e = .returned lv ∧ ROwns w' w.heap.size 9 lv (stc ((named is bs x).map (·.1))) ∧ Below w.heap.size w w' := by
  obtain ⟨a1, c1, a2, c2, a3, c3, a4, c4, rfl, rfl, rfl, rfl⟩ := h.form
  have HH := hide h
  have HW : Hid (∀ W, Below ((w.alloc (.cells #[.slice a1 xs.length c1, .slice a2 ys.length c2, .slice a3 is.length c3, .slice a4 bs.length c4] 36)).alloc (.cells #[] 9)).heap.size ((w.alloc (.cells #[.slice a1 xs.length c1, .slice a2 ys.length c2, .slice a3 is.length c3, .slice a4 bs.length c4] 36)).alloc (.cells #[] 9)) W → Below w.heap.size w W ∧ AtC W w.heap.size 36 #[.slice a1 xs.length c1, .slice a2 ys.length c2, .slice a3 is.length c3, .slice a4 bs.length c4] ∧ w.heap.size + 1 + 1 ≤ W.heap.size) := fun W bb => by
    have k1 := ((AtC.new w 36 #[.slice a1 xs.length c1, .slice a2 ys.length c2, .slice a3 is.length c3, .slice a4 bs.length c4]).over ((Below.refl _ (w.alloc (.cells #[.slice a1 xs.length c1, .slice a2 ys.length c2, .slice a3 is.length c3, .slice a4 bs.length c4] 36))).alloc (Nat.le_refl _) (.cells #[] 9))).over bb
    have sz := bb.size
    simp at sz
    exact ⟨(((Below.refl _ w).alloc (Nat.le_refl _) _).alloc (by simp) _).trans (bb.mono (by simp; omega)), k1, sz⟩
  have HL0 : Hid (ROwns ((w.alloc (.cells #[.slice a1 xs.length c1, .slice a2 ys.length c2, .slice a3 is.length c3, .slice a4 bs.length c4] 36)).alloc (.cells #[] 9)) w.heap.size 9 (.slice (some ⟨w.heap.size + 1, 0, none⟩) 0 0) (stc [])) := by
    have l0 := ROwns.lit0 (w.alloc (.cells #[.slice a1 xs.length c1, .slice a2 ys.length c2, .slice a3 is.length c3, .slice a4 bs.length c4] 36)) w.heap.size 9 (by simp)
    have e0 : (w.alloc (.cells #[.slice a1 xs.length c1, .slice a2 ys.length c2, .slice a3 is.length c3, .slice a4 bs.length c4] 36)).heap.size = w.heap.size + 1 := by simp
    rw [e0] at l0
    exact l0
  have x2 : ((w.alloc (.cells #[.slice a1 xs.length c1, .slice a2 ys.length c2, .slice a3 is.length c3, .slice a4 bs.length c4] 36)).alloc (.cells #[] 9)).cell? ⟨w.heap.size, 2, none⟩ = some (.slice a3 is.length c3) := (HW.out _ (Below.refl _ _)).2.1.cell 2
  have HBL := hide hbl
  have HKK := hide hk
  cases hin : inB x 1 is.length with
  | false =>
    have HIN := hide hin
    have e0 : named is bs x = [] := by unfold named; rw [kindAt_out hin]; rfl
    rw [e0]
    clear e0
    clear hin h hi hp hk hbl
    go_enter Try.func41, Try.ntmps41
    go_wp2_with (go_at_call 43; refine (l01In_any x 1 _ _).mono ?_; rintro e w7 ⟨rfl, rfl⟩; rw [HIN.out])
    go_ret
    exact ⟨_, rfl, HL0.out, (HW.out _ (Below.refl _ _)).1⟩
  | true =>
    have HIN := hide hin
    obtain ⟨h1, h2⟩ := inB_true hin
    obtain ⟨j, rfl⟩ : ∃ j : Nat, x = (j : Int) + 1 := ⟨(x - 1).toNat, by omega⟩
    have hj : j < is.length := by omega
    have hj8 : j < 8 := by omega
    have hnm : named is bs ((j : Int) + 1) = if is[j].1 = 2 then nmdP bs is[j].2.2 else [] := by unfold named; rw [(kindAt_in hj).1, (kindAt_in hj).2]
    rw [hnm]
    clear hnm
    have hwj : IntKind.i64.wrap (j : Int) = (j : Int) := wrap_small _ (by omega) (by omega)
    obtain ⟨qa, qc, qe, -, qh⟩ := h.i
    simp only [Value.slice.injEq, true_and] at qe
    obtain ⟨rfl, rfl⟩ := qe
    obtain ⟨g2, o2, ⟨t0, t1, t2⟩, rfl, hg2, r0, r1, r2, e0, e1, rr⟩ := qh j hj
    have hpl := hp _ (List.getElem_mem hj)
    obtain ⟨⟨kd, ln, ps⟩, hX⟩ : ∃ X, is[j] = X := ⟨_, rfl⟩
    rw [hX] at e0 e1 rr hpl ⊢
    simp only at e0 e1 rr r0 r1 r2 hpl
    subst e0 e1
    obtain ⟨sa, sc, rfl⟩ := rr.form
    have HRR := hide rr
    have HIH := hide h
    have bW := (HW.out _ (Below.refl _ _)).1
    have y0 := (bW.cell (p := ⟨g2, o2 + j * 3, none⟩) hg2).trans r0
    have y1 := (bW.cell (p := ⟨g2, o2 + j * 3 + 1, none⟩) hg2).trans r1
    have y2 := (bW.cell (p := ⟨g2, o2 + j * 3 + 2, none⟩) hg2).trans r2
    have j0 : (0 : Int) ≤ (j : Int) := by omega
    have j1 : (j : Int) < (is.length : Int) := by omega
    clear qh hX rr bW r0 r1 r2 hin h1 h2 hp hk hbl h hi
    by_cases hkd : kd = 2
    rotate_left
    · have hkb : (kd != 2) = true := by simp [hkd]
      rw [if_neg hkd]
      go_enter Try.func41, Try.ntmps41
      go_wp2_with (go_at_call 43; refine (l01In_any ((j : Int) + 1) 1 _ _).mono ?_; rintro e w7 ⟨rfl, rfl⟩; rw [HIN.out])
      go_ret
      exact ⟨_, rfl, HL0.out, (HW.out _ (Below.refl _ _)).1⟩
    subst hkd
    rw [if_pos rfl]
    obtain ⟨RES, hRES⟩ : ∃ r, (nmdP bs ps).map (·.1) = r := ⟨_, rfl⟩
    rw [hRES]
    have HRES := hide hRES
    clear hRES
    obtain ⟨W1, hW1⟩ : ∃ W1, (((w.alloc (.cells #[.slice a1 xs.length c1, .slice a2 ys.length c2, .slice (some ⟨g2, o2, none⟩) is.length c3, .slice a4 bs.length c4] 36)).alloc (.cells #[] 9)).alloc (.cells #[.int .i64 2, .int .i64 ln, .slice sa ps.length sc] 49)) = W1 := ⟨_, rfl⟩
    have HB1 : Hid (AtC W1 (w.heap.size + 1 + 1) 49 #[.int .i64 2, .int .i64 ln, .slice sa ps.length sc] ∧ Below ((w.alloc (.cells #[.slice a1 xs.length c1, .slice a2 ys.length c2, .slice (some ⟨g2, o2, none⟩) is.length c3, .slice a4 bs.length c4] 36)).alloc (.cells #[] 9)).heap.size ((w.alloc (.cells #[.slice a1 xs.length c1, .slice a2 ys.length c2, .slice (some ⟨g2, o2, none⟩) is.length c3, .slice a4 bs.length c4] 36)).alloc (.cells #[] 9)) W1) := by
      rw [← hW1]
      refine ⟨?_, (Below.refl _ _).alloc (Nat.le_refl _) _⟩
      have k := AtC.new ((w.alloc (.cells #[.slice a1 xs.length c1, .slice a2 ys.length c2, .slice (some ⟨g2, o2, none⟩) is.length c3, .slice a4 bs.length c4] 36)).alloc (.cells #[] 9)) 49 #[.int .i64 2, .int .i64 ln, .slice sa ps.length sc]
      have e0 : ((w.alloc (.cells #[.slice a1 xs.length c1, .slice a2 ys.length c2, .slice (some ⟨g2, o2, none⟩) is.length c3, .slice a4 bs.length c4] 36)).alloc (.cells #[] 9)).heap.size = w.heap.size + 1 + 1 := by simp
      rw [e0] at k
      exact k
    have HN1 : Hid (NmR w W1 #[.slice a1 xs.length c1, .slice a2 ys.length c2, .slice (some ⟨g2, o2, none⟩) is.length c3, .slice a4 bs.length c4] #[.int .i64 2, .int .i64 ln, .slice sa ps.length sc] 0 (.slice (some ⟨w.heap.size + 1, 0, none⟩) 0 0) []) := by
      obtain ⟨k1, k2, k3⟩ := HW.out W1 HB1.out.2
      have l0 := ROwns.lit0 (w.alloc (.cells #[.slice a1 xs.length c1, .slice a2 ys.length c2, .slice (some ⟨g2, o2, none⟩) is.length c3, .slice a4 bs.length c4] 36)) (w.heap.size + 1) 9 (by simp)
      have e0 : (w.alloc (.cells #[.slice a1 xs.length c1, .slice a2 ys.length c2, .slice (some ⟨g2, o2, none⟩) is.length c3, .slice a4 bs.length c4] 36)).heap.size = w.heap.size + 1 := by simp
      rw [e0] at l0
      exact ⟨l0.below HB1.out.2 (Nat.le_refl _), fun k hk => by simp [Value.ownBlock] at hk; omega, k1, k2, HB1.out.1⟩
    go_enter Try.func41, Try.ntmps41
    go_wp2_with (go_at_call 43; refine (l01In_any ((j : Int) + 1) 1 _ _).mono ?_; rintro e w7 ⟨rfl, rfl⟩; rw [HIN.out])
    clear hW1 y0 y1 y2 x2 HB1 HW HL0
    go_loopw [5, 7] (fun x5 kk wr => ∃ (lv : Value) (l : List ByteArray) (q : Nat), lv = x5 ∧ q ≤ ps.length ∧ kk = .int .i64 q ∧ Hid (NmR w wr #[.slice a1 xs.length c1, .slice a2 ys.length c2, .slice (some ⟨g2, o2, none⟩) is.length c3, .slice a4 bs.length c4] #[.int .i64 2, .int .i64 ln, .slice sa ps.length sc] 0 lv l ∧ l.length ≤ 4 * q ∧ l = (nmdP bs (ps.take q)).map (·.1))) (fun _ kk _ => ps.length - (intOf kk).toNat)
    case atStart => exact ⟨_, [], 0, rfl, Nat.zero_le _, rfl, HN1.out, by decide, by simp [nmdP]⟩
    case round =>
      obtain ⟨lv, l, q, hlv, hq, rfl, HR⟩ := hrel
      subst hlv
      obtain ⟨wo, hwo⟩ : ∃ wo, wo = wr := ⟨_, rfl⟩
      subst hwo
      clear HN1
      have q0 : (0 : Int) ≤ (q : Int) := by omega
      have x7 : wo.cell? ⟨w.heap.size + 1 + 1, 2, none⟩ = some (.slice sa ps.length sc) := HR.out.1.x.cell 2
      by_cases hlt : q < ps.length
      rotate_left
      · have q1 : ¬ ((q : Int) < (ps.length : Int)) := by omega
        go_wp2
        go_ret
        refine ⟨_, rfl, ?_, HR.out.1.b⟩
        have e1 := HR.out.2.2
        rw [List.take_of_length_le (by omega), HRES.out] at e1
        rw [← e1]
        exact HR.out.1.o.base_le (by omega)
      have q1 : (q : Int) < (ps.length : Int) := by omega
      obtain ⟨pa', pc', e1, hcp⟩ := HRR.out
      simp only [Value.slice.injEq, true_and] at e1
      obtain ⟨rfl, rfl⟩ := e1
      obtain ⟨gp, op, rfl, hgp, kp⟩ := hcp q hlt
      obtain ⟨Pn, hPn⟩ : ∃ Pn, ps[q] = Pn := ⟨_, rfl⟩
      rw [hPn] at kp
      have HTK := hide (nmdP_take (bs := bs) hlt)
      rw [hPn] at HTK
      have CB := hide (fun (W : World) (hd : Below w.heap.size w W) => blk_any Pn (.slice a1 xs.length c1) (.slice a2 ys.length c2) (.slice (some ⟨g2, o2, none⟩) is.length c3) (.slice a4 bs.length c4) xs ys is bs w W HIH.out hd HBL.out)
      have hb4 : (blkAt bs Pn).2.1.length ≤ 4 := blkAt_four' HKK.out Pn
      obtain ⟨⟨bd, bss, btx⟩, hBD⟩ : ∃ X, blkAt bs Pn = X := ⟨_, rfl⟩
      obtain ⟨F, hF⟩ : ∃ F, inB Pn 1 bs.length = F := ⟨_, rfl⟩
      rw [hBD, hF] at CB
      rw [hBD] at hb4
      simp only at hb4
      have HWR : Hid (∀ W, Below wo.heap.size wo W → NmR w W #[.slice a1 xs.length c1, .slice a2 ys.length c2, .slice (some ⟨g2, o2, none⟩) is.length c3, .slice a4 bs.length c4] #[.int .i64 2, .int .i64 ln, .slice (some ⟨gp, op, none⟩) ps.length sc] 0 lv l ∧ W.cell? ⟨gp, op + q, none⟩ = some (.int .i64 Pn)) := fun W b => by
        have r2 := HR.out.1.below b
        exact ⟨r2, (r2.b.cell (p := ⟨gp, op + q, none⟩) hgp).trans kp⟩
      rw [hBD] at HTK
      clear hPn kp hcp hBD hF
      go_upto_region 8 with fail
      clear x7
      go_cut [8, 9] from 35 to 78 (fun bv ok wx => ∃ (bw : Nat) (ba : Option Addr) (bc : Nat), bv = .pointer (some ⟨bw, 0, none⟩) ∧ ok = .bool F ∧ AtC wx bw 84 #[.bool bd, .slice ba bss.length bc, .string btx] ∧ RSl w (.slice ba bss.length bc) bss ∧ Below wo.heap.size wo wx ∧ wo.heap.size ≤ bw)
      case first =>
        refine wp_region_alt (by kernel_rfl) [0, 1, 2, 3, 4, 5, 6, 7, 8, 9, 10] [11, 12] [([0, 1, 2, 3, 4, 5, 6, 7, 8, 10], [[9, 11, 12], [11, 9, 12]])] (fun i => match i with | 0 => .const [] (.agg #[.slice a1 xs.length c1, .slice a2 ys.length c2, .slice (some ⟨g2, o2, none⟩) is.length c3, .slice a4 bs.length c4]) | 1 => .const [] (.pointer (some ⟨w.heap.size + 1 + 1, 2, none⟩)) | 2 => .const [1] (.slice (some ⟨gp, op, none⟩) ps.length sc) | 3 => .const [] (.int .i64 (q : Int)) | 4 => .const [2, 3] (.pointer (some ⟨gp, op + q, none⟩)) | 5 => .const [4] (.int .i64 Pn) | 6 => MkT2 [0, 5] (BlkR w bd btx bss F) BlkR.below | 7 => MkMv 6 | 8 => MkFs 7 | 9 => MkSd 7 | 10 => MkW 84 #[.bool false, .slice none 0 0, .string ⟨#[]⟩] | _ => .triv) (fun x => ⟨List.toArray ((Value.agg #[Value.slice a1 xs.length c1, Value.slice a2 ys.length c2, Value.slice (some { block := g2, off := o2 }) is.length c3, Value.slice a4 bs.length c4]) :: (Value.int IntKind.i64 (↑j + 1)) :: (Value.pointer (some { block := w.heap.size, off := 0 })) :: (undef) :: (Value.slice none 0 0) :: (lv) :: (Value.pointer (some { block := w.heap.size + 1 + 1, off := 0 })) :: (Value.int IntKind.i64 ↑q) :: (x 10) :: (u9) :: (u10) :: (Value.slice (some { block := w.heap.size + 1, off := 0 }) 0 0) :: (Value.int IntKind.i64 (↑j + 1)) :: (Value.pointer (some { block := w.heap.size, off := 2 })) :: (Value.slice (some { block := g2, off := o2 }) is.length c3) :: (Value.int IntKind.i64 ↑is.length) :: (Value.bool true) :: (Value.bool false) :: (Value.bool false) :: (Value.pointer (some { block := w.heap.size, off := 2 })) :: (Value.slice (some { block := g2, off := o2 }) is.length c3) :: (Value.int IntKind.i64 (↑j + 1)) :: (Value.int IntKind.i64 ↑j) :: (Value.pointer (some { block := g2, off := o2 + j * 3 })) :: (Value.pointer (some { block := g2, off := o2 + j * 3 })) :: (Value.int IntKind.i64 2) :: (Value.bool false) :: (Value.bool false) :: (undef) :: (Value.pointer (some { block := w.heap.size, off := 2 })) :: (Value.slice (some { block := g2, off := o2 }) is.length c3) :: (Value.int IntKind.i64 (↑j + 1)) :: (Value.int IntKind.i64 ↑j) :: (Value.pointer (some { block := g2, off := o2 + j * 3 })) :: (Value.agg #[Value.int IntKind.i64 2, Value.int IntKind.i64 ln, Value.slice (some { block := gp, off := op }) ps.length sc]) :: (Value.int IntKind.i64 ↑q) :: (Value.pointer (some { block := w.heap.size + 1 + 1, off := 2 })) :: (Value.slice (some { block := gp, off := op }) ps.length sc) :: (Value.int IntKind.i64 ↑ps.length) :: (Value.bool true) :: (u40) :: (u41) :: (x 7) :: (x 0) :: (x 1) :: (x 2) :: (x 3) :: (x 4) :: (x 5) :: (x 6) :: (x 8) :: (x 9) :: (u52) :: (u53) :: (u54) :: (u55) :: (u56) :: (u57) :: (u58) :: (u59) :: (u60) :: (u61) :: (u62) :: (u63) :: (u64) :: (u65) :: (u66) :: (u67) :: (u68) :: (u69) :: (u70) :: (u71) :: (u72) :: (u73) :: (u74) :: (u75) :: (u76) :: (u77) :: (u78) :: (undef) :: []), []⟩) (fun i => match i with | 0 => u43 | 1 => u44 | 2 => u45 | 3 => u46 | 4 => u47 | 5 => u48 | 6 => u49 | 7 => u42 | 8 => u50 | 9 => u51 | 10 => u8 | _ => undef) rfl (makersOk2_of (by kernel_rfl) (by kernel_rfl)) (by kernel_rfl) (by kernel_rfl) (by kernel_rfl) rfl ?_ ?_ ?_
        · intro jo hj so x iw W hd hp K hK
          simp only [List.mem_cons, List.not_mem_nil, or_false] at hj
          rcases hj with rfl | rfl | rfl | rfl | rfl | rfl | rfl | rfl | rfl | rfl | rfl
          · refine wpOp_step (o := _) rfl fun K' hK' => ?_
            have HK : Hid (∀ v W', Below W.heap.size W W' → ((Mk.const [] (.agg #[.slice a1 xs.length c1, .slice a2 ys.length c2, .slice (some ⟨g2, o2, none⟩) is.length c3, .slice a4 bs.length c4]) : Mk)).P W.heap.size W'.heap.size W' v (upd x 0 v) → K' ⟨List.toArray ((Value.agg #[Value.slice a1 xs.length c1, Value.slice a2 ys.length c2, Value.slice (some { block := g2, off := o2 }) is.length c3, Value.slice a4 bs.length c4]) :: (Value.int IntKind.i64 (↑j + 1)) :: (Value.pointer (some { block := w.heap.size, off := 0 })) :: (undef) :: (Value.slice none 0 0) :: (lv) :: (Value.pointer (some { block := w.heap.size + 1 + 1, off := 0 })) :: (Value.int IntKind.i64 ↑q) :: (x 10) :: (u9) :: (u10) :: (Value.slice (some { block := w.heap.size + 1, off := 0 }) 0 0) :: (Value.int IntKind.i64 (↑j + 1)) :: (Value.pointer (some { block := w.heap.size, off := 2 })) :: (Value.slice (some { block := g2, off := o2 }) is.length c3) :: (Value.int IntKind.i64 ↑is.length) :: (Value.bool true) :: (Value.bool false) :: (Value.bool false) :: (Value.pointer (some { block := w.heap.size, off := 2 })) :: (Value.slice (some { block := g2, off := o2 }) is.length c3) :: (Value.int IntKind.i64 (↑j + 1)) :: (Value.int IntKind.i64 ↑j) :: (Value.pointer (some { block := g2, off := o2 + j * 3 })) :: (Value.pointer (some { block := g2, off := o2 + j * 3 })) :: (Value.int IntKind.i64 2) :: (Value.bool false) :: (Value.bool false) :: (undef) :: (Value.pointer (some { block := w.heap.size, off := 2 })) :: (Value.slice (some { block := g2, off := o2 }) is.length c3) :: (Value.int IntKind.i64 (↑j + 1)) :: (Value.int IntKind.i64 ↑j) :: (Value.pointer (some { block := g2, off := o2 + j * 3 })) :: (Value.agg #[Value.int IntKind.i64 2, Value.int IntKind.i64 ln, Value.slice (some { block := gp, off := op }) ps.length sc]) :: (Value.int IntKind.i64 ↑q) :: (Value.pointer (some { block := w.heap.size + 1 + 1, off := 2 })) :: (Value.slice (some { block := gp, off := op }) ps.length sc) :: (Value.int IntKind.i64 ↑ps.length) :: (Value.bool true) :: (u40) :: (u41) :: (x 7) :: (v) :: (x 1) :: (x 2) :: (x 3) :: (x 4) :: (x 5) :: (x 6) :: (x 8) :: (x 9) :: (u52) :: (u53) :: (u54) :: (u55) :: (u56) :: (u57) :: (u58) :: (u59) :: (u60) :: (u61) :: (u62) :: (u63) :: (u64) :: (u65) :: (u66) :: (u67) :: (u68) :: (u69) :: (u70) :: (u71) :: (u72) :: (u73) :: (u74) :: (u75) :: (u76) :: (u77) :: (u78) :: (undef) :: []), []⟩ W') := fun v W' h1 h2 => hK' _ _ (hK v W' h1 h2)
            have bw := of_drew hp.bel
            have k0 := (HWR.out W bw).1.d
            have q5 : W.cell? ⟨w.heap.size, 0, none⟩ = some (.slice a1 xs.length c1) := k0.cell 0
            have q6 : W.cell? ⟨w.heap.size, 1, none⟩ = some (.slice a2 ys.length c2) := k0.cell 1
            have q7 : W.cell? ⟨w.heap.size, 2, none⟩ = some (.slice (some ⟨g2, o2, none⟩) is.length c3) := k0.cell 2
            have q8 : W.cell? ⟨w.heap.size, 3, none⟩ = some (.slice a4 bs.length c4) := k0.cell 3
            clear k0 bw
            clear hK hK' hp hd
            go_simp
            exact HK.out _ _ (Below.refl _ _) rfl
          · refine wpOp_step (o := _) rfl fun K' hK' => ?_
            have HK : Hid (∀ v W', Below W.heap.size W W' → ((Mk.const [] (.pointer (some ⟨w.heap.size + 1 + 1, 2, none⟩)) : Mk)).P W.heap.size W'.heap.size W' v (upd x 1 v) → K' ⟨List.toArray ((Value.agg #[Value.slice a1 xs.length c1, Value.slice a2 ys.length c2, Value.slice (some { block := g2, off := o2 }) is.length c3, Value.slice a4 bs.length c4]) :: (Value.int IntKind.i64 (↑j + 1)) :: (Value.pointer (some { block := w.heap.size, off := 0 })) :: (undef) :: (Value.slice none 0 0) :: (lv) :: (Value.pointer (some { block := w.heap.size + 1 + 1, off := 0 })) :: (Value.int IntKind.i64 ↑q) :: (x 10) :: (u9) :: (u10) :: (Value.slice (some { block := w.heap.size + 1, off := 0 }) 0 0) :: (Value.int IntKind.i64 (↑j + 1)) :: (Value.pointer (some { block := w.heap.size, off := 2 })) :: (Value.slice (some { block := g2, off := o2 }) is.length c3) :: (Value.int IntKind.i64 ↑is.length) :: (Value.bool true) :: (Value.bool false) :: (Value.bool false) :: (Value.pointer (some { block := w.heap.size, off := 2 })) :: (Value.slice (some { block := g2, off := o2 }) is.length c3) :: (Value.int IntKind.i64 (↑j + 1)) :: (Value.int IntKind.i64 ↑j) :: (Value.pointer (some { block := g2, off := o2 + j * 3 })) :: (Value.pointer (some { block := g2, off := o2 + j * 3 })) :: (Value.int IntKind.i64 2) :: (Value.bool false) :: (Value.bool false) :: (undef) :: (Value.pointer (some { block := w.heap.size, off := 2 })) :: (Value.slice (some { block := g2, off := o2 }) is.length c3) :: (Value.int IntKind.i64 (↑j + 1)) :: (Value.int IntKind.i64 ↑j) :: (Value.pointer (some { block := g2, off := o2 + j * 3 })) :: (Value.agg #[Value.int IntKind.i64 2, Value.int IntKind.i64 ln, Value.slice (some { block := gp, off := op }) ps.length sc]) :: (Value.int IntKind.i64 ↑q) :: (Value.pointer (some { block := w.heap.size + 1 + 1, off := 2 })) :: (Value.slice (some { block := gp, off := op }) ps.length sc) :: (Value.int IntKind.i64 ↑ps.length) :: (Value.bool true) :: (u40) :: (u41) :: (x 7) :: (x 0) :: (v) :: (x 2) :: (x 3) :: (x 4) :: (x 5) :: (x 6) :: (x 8) :: (x 9) :: (u52) :: (u53) :: (u54) :: (u55) :: (u56) :: (u57) :: (u58) :: (u59) :: (u60) :: (u61) :: (u62) :: (u63) :: (u64) :: (u65) :: (u66) :: (u67) :: (u68) :: (u69) :: (u70) :: (u71) :: (u72) :: (u73) :: (u74) :: (u75) :: (u76) :: (u77) :: (u78) :: (undef) :: []), []⟩ W') := fun v W' h1 h2 => hK' _ _ (hK v W' h1 h2)
            clear hK hK' hp hd
            go_simp
            exact HK.out _ _ (Below.refl _ _) rfl
          · refine wpOp_step (o := _) rfl fun K' hK' => ?_
            have HK : Hid (∀ v W', Below W.heap.size W W' → ((Mk.const [1] (.slice (some ⟨gp, op, none⟩) ps.length sc) : Mk)).P W.heap.size W'.heap.size W' v (upd x 2 v) → K' ⟨List.toArray ((Value.agg #[Value.slice a1 xs.length c1, Value.slice a2 ys.length c2, Value.slice (some { block := g2, off := o2 }) is.length c3, Value.slice a4 bs.length c4]) :: (Value.int IntKind.i64 (↑j + 1)) :: (Value.pointer (some { block := w.heap.size, off := 0 })) :: (undef) :: (Value.slice none 0 0) :: (lv) :: (Value.pointer (some { block := w.heap.size + 1 + 1, off := 0 })) :: (Value.int IntKind.i64 ↑q) :: (x 10) :: (u9) :: (u10) :: (Value.slice (some { block := w.heap.size + 1, off := 0 }) 0 0) :: (Value.int IntKind.i64 (↑j + 1)) :: (Value.pointer (some { block := w.heap.size, off := 2 })) :: (Value.slice (some { block := g2, off := o2 }) is.length c3) :: (Value.int IntKind.i64 ↑is.length) :: (Value.bool true) :: (Value.bool false) :: (Value.bool false) :: (Value.pointer (some { block := w.heap.size, off := 2 })) :: (Value.slice (some { block := g2, off := o2 }) is.length c3) :: (Value.int IntKind.i64 (↑j + 1)) :: (Value.int IntKind.i64 ↑j) :: (Value.pointer (some { block := g2, off := o2 + j * 3 })) :: (Value.pointer (some { block := g2, off := o2 + j * 3 })) :: (Value.int IntKind.i64 2) :: (Value.bool false) :: (Value.bool false) :: (undef) :: (Value.pointer (some { block := w.heap.size, off := 2 })) :: (Value.slice (some { block := g2, off := o2 }) is.length c3) :: (Value.int IntKind.i64 (↑j + 1)) :: (Value.int IntKind.i64 ↑j) :: (Value.pointer (some { block := g2, off := o2 + j * 3 })) :: (Value.agg #[Value.int IntKind.i64 2, Value.int IntKind.i64 ln, Value.slice (some { block := gp, off := op }) ps.length sc]) :: (Value.int IntKind.i64 ↑q) :: (Value.pointer (some { block := w.heap.size + 1 + 1, off := 2 })) :: (Value.slice (some { block := gp, off := op }) ps.length sc) :: (Value.int IntKind.i64 ↑ps.length) :: (Value.bool true) :: (u40) :: (u41) :: (x 7) :: (x 0) :: (x 1) :: (v) :: (x 3) :: (x 4) :: (x 5) :: (x 6) :: (x 8) :: (x 9) :: (u52) :: (u53) :: (u54) :: (u55) :: (u56) :: (u57) :: (u58) :: (u59) :: (u60) :: (u61) :: (u62) :: (u63) :: (u64) :: (u65) :: (u66) :: (u67) :: (u68) :: (u69) :: (u70) :: (u71) :: (u72) :: (u73) :: (u74) :: (u75) :: (u76) :: (u77) :: (u78) :: (undef) :: []), []⟩ W') := fun v W' h1 h2 => hK' _ _ (hK v W' h1 h2)
            have e1 : x 1 = .pointer (some ⟨w.heap.size + 1 + 1, 2, none⟩) := hp.post 1 (hd 1 (show 1 ∈ [1] from by decide))
            have bw := of_drew hp.bel
            have q5 : W.cell? ⟨w.heap.size + 1 + 1, 2, none⟩ = some (.slice (some ⟨gp, op, none⟩) ps.length sc) := (HWR.out W bw).1.x.cell 2
            clear bw
            clear hK hK' hp hd
            simp only [e1] at HK ⊢
            go_simp
            exact HK.out _ _ (Below.refl _ _) rfl
          · refine wpOp_step (o := _) rfl fun K' hK' => ?_
            have HK : Hid (∀ v W', Below W.heap.size W W' → ((Mk.const [] (.int .i64 (q : Int)) : Mk)).P W.heap.size W'.heap.size W' v (upd x 3 v) → K' ⟨List.toArray ((Value.agg #[Value.slice a1 xs.length c1, Value.slice a2 ys.length c2, Value.slice (some { block := g2, off := o2 }) is.length c3, Value.slice a4 bs.length c4]) :: (Value.int IntKind.i64 (↑j + 1)) :: (Value.pointer (some { block := w.heap.size, off := 0 })) :: (undef) :: (Value.slice none 0 0) :: (lv) :: (Value.pointer (some { block := w.heap.size + 1 + 1, off := 0 })) :: (Value.int IntKind.i64 ↑q) :: (x 10) :: (u9) :: (u10) :: (Value.slice (some { block := w.heap.size + 1, off := 0 }) 0 0) :: (Value.int IntKind.i64 (↑j + 1)) :: (Value.pointer (some { block := w.heap.size, off := 2 })) :: (Value.slice (some { block := g2, off := o2 }) is.length c3) :: (Value.int IntKind.i64 ↑is.length) :: (Value.bool true) :: (Value.bool false) :: (Value.bool false) :: (Value.pointer (some { block := w.heap.size, off := 2 })) :: (Value.slice (some { block := g2, off := o2 }) is.length c3) :: (Value.int IntKind.i64 (↑j + 1)) :: (Value.int IntKind.i64 ↑j) :: (Value.pointer (some { block := g2, off := o2 + j * 3 })) :: (Value.pointer (some { block := g2, off := o2 + j * 3 })) :: (Value.int IntKind.i64 2) :: (Value.bool false) :: (Value.bool false) :: (undef) :: (Value.pointer (some { block := w.heap.size, off := 2 })) :: (Value.slice (some { block := g2, off := o2 }) is.length c3) :: (Value.int IntKind.i64 (↑j + 1)) :: (Value.int IntKind.i64 ↑j) :: (Value.pointer (some { block := g2, off := o2 + j * 3 })) :: (Value.agg #[Value.int IntKind.i64 2, Value.int IntKind.i64 ln, Value.slice (some { block := gp, off := op }) ps.length sc]) :: (Value.int IntKind.i64 ↑q) :: (Value.pointer (some { block := w.heap.size + 1 + 1, off := 2 })) :: (Value.slice (some { block := gp, off := op }) ps.length sc) :: (Value.int IntKind.i64 ↑ps.length) :: (Value.bool true) :: (u40) :: (u41) :: (x 7) :: (x 0) :: (x 1) :: (x 2) :: (v) :: (x 4) :: (x 5) :: (x 6) :: (x 8) :: (x 9) :: (u52) :: (u53) :: (u54) :: (u55) :: (u56) :: (u57) :: (u58) :: (u59) :: (u60) :: (u61) :: (u62) :: (u63) :: (u64) :: (u65) :: (u66) :: (u67) :: (u68) :: (u69) :: (u70) :: (u71) :: (u72) :: (u73) :: (u74) :: (u75) :: (u76) :: (u77) :: (u78) :: (undef) :: []), []⟩ W') := fun v W' h1 h2 => hK' _ _ (hK v W' h1 h2)
            clear hK hK' hp hd
            go_simp
            exact HK.out _ _ (Below.refl _ _) rfl
          · refine wpOp_step (o := _) rfl fun K' hK' => ?_
            have HK : Hid (∀ v W', Below W.heap.size W W' → ((Mk.const [2, 3] (.pointer (some ⟨gp, op + q, none⟩)) : Mk)).P W.heap.size W'.heap.size W' v (upd x 4 v) → K' ⟨List.toArray ((Value.agg #[Value.slice a1 xs.length c1, Value.slice a2 ys.length c2, Value.slice (some { block := g2, off := o2 }) is.length c3, Value.slice a4 bs.length c4]) :: (Value.int IntKind.i64 (↑j + 1)) :: (Value.pointer (some { block := w.heap.size, off := 0 })) :: (undef) :: (Value.slice none 0 0) :: (lv) :: (Value.pointer (some { block := w.heap.size + 1 + 1, off := 0 })) :: (Value.int IntKind.i64 ↑q) :: (x 10) :: (u9) :: (u10) :: (Value.slice (some { block := w.heap.size + 1, off := 0 }) 0 0) :: (Value.int IntKind.i64 (↑j + 1)) :: (Value.pointer (some { block := w.heap.size, off := 2 })) :: (Value.slice (some { block := g2, off := o2 }) is.length c3) :: (Value.int IntKind.i64 ↑is.length) :: (Value.bool true) :: (Value.bool false) :: (Value.bool false) :: (Value.pointer (some { block := w.heap.size, off := 2 })) :: (Value.slice (some { block := g2, off := o2 }) is.length c3) :: (Value.int IntKind.i64 (↑j + 1)) :: (Value.int IntKind.i64 ↑j) :: (Value.pointer (some { block := g2, off := o2 + j * 3 })) :: (Value.pointer (some { block := g2, off := o2 + j * 3 })) :: (Value.int IntKind.i64 2) :: (Value.bool false) :: (Value.bool false) :: (undef) :: (Value.pointer (some { block := w.heap.size, off := 2 })) :: (Value.slice (some { block := g2, off := o2 }) is.length c3) :: (Value.int IntKind.i64 (↑j + 1)) :: (Value.int IntKind.i64 ↑j) :: (Value.pointer (some { block := g2, off := o2 + j * 3 })) :: (Value.agg #[Value.int IntKind.i64 2, Value.int IntKind.i64 ln, Value.slice (some { block := gp, off := op }) ps.length sc]) :: (Value.int IntKind.i64 ↑q) :: (Value.pointer (some { block := w.heap.size + 1 + 1, off := 2 })) :: (Value.slice (some { block := gp, off := op }) ps.length sc) :: (Value.int IntKind.i64 ↑ps.length) :: (Value.bool true) :: (u40) :: (u41) :: (x 7) :: (x 0) :: (x 1) :: (x 2) :: (x 3) :: (v) :: (x 5) :: (x 6) :: (x 8) :: (x 9) :: (u52) :: (u53) :: (u54) :: (u55) :: (u56) :: (u57) :: (u58) :: (u59) :: (u60) :: (u61) :: (u62) :: (u63) :: (u64) :: (u65) :: (u66) :: (u67) :: (u68) :: (u69) :: (u70) :: (u71) :: (u72) :: (u73) :: (u74) :: (u75) :: (u76) :: (u77) :: (u78) :: (undef) :: []), []⟩ W') := fun v W' h1 h2 => hK' _ _ (hK v W' h1 h2)
            have e2 : x 2 = .slice (some ⟨gp, op, none⟩) ps.length sc := hp.post 2 (hd 2 (show 2 ∈ [2, 3] from by decide))
            have e3 : x 3 = .int .i64 (q : Int) := hp.post 3 (hd 3 (show 3 ∈ [2, 3] from by decide))
            clear hK hK' hp hd
            simp only [e2, e3] at HK ⊢
            go_simp
            exact HK.out _ _ (Below.refl _ _) rfl
          · refine wpOp_step (o := _) rfl fun K' hK' => ?_
            have HK : Hid (∀ v W', Below W.heap.size W W' → ((Mk.const [4] (.int .i64 Pn) : Mk)).P W.heap.size W'.heap.size W' v (upd x 5 v) → K' ⟨List.toArray ((Value.agg #[Value.slice a1 xs.length c1, Value.slice a2 ys.length c2, Value.slice (some { block := g2, off := o2 }) is.length c3, Value.slice a4 bs.length c4]) :: (Value.int IntKind.i64 (↑j + 1)) :: (Value.pointer (some { block := w.heap.size, off := 0 })) :: (undef) :: (Value.slice none 0 0) :: (lv) :: (Value.pointer (some { block := w.heap.size + 1 + 1, off := 0 })) :: (Value.int IntKind.i64 ↑q) :: (x 10) :: (u9) :: (u10) :: (Value.slice (some { block := w.heap.size + 1, off := 0 }) 0 0) :: (Value.int IntKind.i64 (↑j + 1)) :: (Value.pointer (some { block := w.heap.size, off := 2 })) :: (Value.slice (some { block := g2, off := o2 }) is.length c3) :: (Value.int IntKind.i64 ↑is.length) :: (Value.bool true) :: (Value.bool false) :: (Value.bool false) :: (Value.pointer (some { block := w.heap.size, off := 2 })) :: (Value.slice (some { block := g2, off := o2 }) is.length c3) :: (Value.int IntKind.i64 (↑j + 1)) :: (Value.int IntKind.i64 ↑j) :: (Value.pointer (some { block := g2, off := o2 + j * 3 })) :: (Value.pointer (some { block := g2, off := o2 + j * 3 })) :: (Value.int IntKind.i64 2) :: (Value.bool false) :: (Value.bool false) :: (undef) :: (Value.pointer (some { block := w.heap.size, off := 2 })) :: (Value.slice (some { block := g2, off := o2 }) is.length c3) :: (Value.int IntKind.i64 (↑j + 1)) :: (Value.int IntKind.i64 ↑j) :: (Value.pointer (some { block := g2, off := o2 + j * 3 })) :: (Value.agg #[Value.int IntKind.i64 2, Value.int IntKind.i64 ln, Value.slice (some { block := gp, off := op }) ps.length sc]) :: (Value.int IntKind.i64 ↑q) :: (Value.pointer (some { block := w.heap.size + 1 + 1, off := 2 })) :: (Value.slice (some { block := gp, off := op }) ps.length sc) :: (Value.int IntKind.i64 ↑ps.length) :: (Value.bool true) :: (u40) :: (u41) :: (x 7) :: (x 0) :: (x 1) :: (x 2) :: (x 3) :: (x 4) :: (v) :: (x 6) :: (x 8) :: (x 9) :: (u52) :: (u53) :: (u54) :: (u55) :: (u56) :: (u57) :: (u58) :: (u59) :: (u60) :: (u61) :: (u62) :: (u63) :: (u64) :: (u65) :: (u66) :: (u67) :: (u68) :: (u69) :: (u70) :: (u71) :: (u72) :: (u73) :: (u74) :: (u75) :: (u76) :: (u77) :: (u78) :: (undef) :: []), []⟩ W') := fun v W' h1 h2 => hK' _ _ (hK v W' h1 h2)
            have e4 : x 4 = .pointer (some ⟨gp, op + q, none⟩) := hp.post 4 (hd 4 (show 4 ∈ [4] from by decide))
            have bw := of_drew hp.bel
            have q9 := (HWR.out W bw).2
            clear bw
            clear hK hK' hp hd
            simp only [e4] at HK ⊢
            go_simp
            exact HK.out _ _ (Below.refl _ _) rfl
          · refine wpOp_step (o := _) rfl fun K' hK' => ?_
            have HK : Hid (∀ v W', Below W.heap.size W W' → (MkT2 [0, 5] (BlkR w bd btx bss F) BlkR.below).P W.heap.size W'.heap.size W' v (upd x 6 v) → K' ⟨List.toArray ((Value.agg #[Value.slice a1 xs.length c1, Value.slice a2 ys.length c2, Value.slice (some { block := g2, off := o2 }) is.length c3, Value.slice a4 bs.length c4]) :: (Value.int IntKind.i64 (↑j + 1)) :: (Value.pointer (some { block := w.heap.size, off := 0 })) :: (undef) :: (Value.slice none 0 0) :: (lv) :: (Value.pointer (some { block := w.heap.size + 1 + 1, off := 0 })) :: (Value.int IntKind.i64 ↑q) :: (x 10) :: (u9) :: (u10) :: (Value.slice (some { block := w.heap.size + 1, off := 0 }) 0 0) :: (Value.int IntKind.i64 (↑j + 1)) :: (Value.pointer (some { block := w.heap.size, off := 2 })) :: (Value.slice (some { block := g2, off := o2 }) is.length c3) :: (Value.int IntKind.i64 ↑is.length) :: (Value.bool true) :: (Value.bool false) :: (Value.bool false) :: (Value.pointer (some { block := w.heap.size, off := 2 })) :: (Value.slice (some { block := g2, off := o2 }) is.length c3) :: (Value.int IntKind.i64 (↑j + 1)) :: (Value.int IntKind.i64 ↑j) :: (Value.pointer (some { block := g2, off := o2 + j * 3 })) :: (Value.pointer (some { block := g2, off := o2 + j * 3 })) :: (Value.int IntKind.i64 2) :: (Value.bool false) :: (Value.bool false) :: (undef) :: (Value.pointer (some { block := w.heap.size, off := 2 })) :: (Value.slice (some { block := g2, off := o2 }) is.length c3) :: (Value.int IntKind.i64 (↑j + 1)) :: (Value.int IntKind.i64 ↑j) :: (Value.pointer (some { block := g2, off := o2 + j * 3 })) :: (Value.agg #[Value.int IntKind.i64 2, Value.int IntKind.i64 ln, Value.slice (some { block := gp, off := op }) ps.length sc]) :: (Value.int IntKind.i64 ↑q) :: (Value.pointer (some { block := w.heap.size + 1 + 1, off := 2 })) :: (Value.slice (some { block := gp, off := op }) ps.length sc) :: (Value.int IntKind.i64 ↑ps.length) :: (Value.bool true) :: (u40) :: (u41) :: (x 7) :: (x 0) :: (x 1) :: (x 2) :: (x 3) :: (x 4) :: (x 5) :: (v) :: (x 8) :: (x 9) :: (u52) :: (u53) :: (u54) :: (u55) :: (u56) :: (u57) :: (u58) :: (u59) :: (u60) :: (u61) :: (u62) :: (u63) :: (u64) :: (u65) :: (u66) :: (u67) :: (u68) :: (u69) :: (u70) :: (u71) :: (u72) :: (u73) :: (u74) :: (u75) :: (u76) :: (u77) :: (u78) :: (undef) :: []), []⟩ W') := fun v W' h1 h2 => hK' _ _ (hK v W' h1 h2)
            have e0 : x 0 = .agg #[.slice a1 xs.length c1, .slice a2 ys.length c2, .slice (some ⟨g2, o2, none⟩) is.length c3, .slice a4 bs.length c4] := hp.post 0 (hd 0 (show 0 ∈ [0, 5] from by decide))
            have e5 : x 5 = .int .i64 Pn := hp.post 5 (hd 5 (show 5 ∈ [0, 5] from by decide))
            have dr := (HWR.out W (of_drew hp.bel)).1.b
            clear hK hK' hp hd
            simp only [e0, e5] at HK ⊢
            clear e0 e5
            go_simp
            refine (CB.out W dr).mono ?_
            rintro e w6 ⟨sv, rfl, R6, B6⟩
            obtain ⟨ba, bc, rfl, hR6⟩ := R6
            go_simp
            exact HK.out _ _ B6 ⟨_, _, rfl, ba, bc, rfl, rfl, ba, bc, rfl, hR6⟩
          · refine wpOp_step (o := _) rfl fun K' hK' => ?_
            have HK : Hid (∀ v W', Below W.heap.size W W' → (MkMv 6).P W.heap.size W'.heap.size W' v (upd x 7 v) → K' ⟨List.toArray ((Value.agg #[Value.slice a1 xs.length c1, Value.slice a2 ys.length c2, Value.slice (some { block := g2, off := o2 }) is.length c3, Value.slice a4 bs.length c4]) :: (Value.int IntKind.i64 (↑j + 1)) :: (Value.pointer (some { block := w.heap.size, off := 0 })) :: (undef) :: (Value.slice none 0 0) :: (lv) :: (Value.pointer (some { block := w.heap.size + 1 + 1, off := 0 })) :: (Value.int IntKind.i64 ↑q) :: (x 10) :: (u9) :: (u10) :: (Value.slice (some { block := w.heap.size + 1, off := 0 }) 0 0) :: (Value.int IntKind.i64 (↑j + 1)) :: (Value.pointer (some { block := w.heap.size, off := 2 })) :: (Value.slice (some { block := g2, off := o2 }) is.length c3) :: (Value.int IntKind.i64 ↑is.length) :: (Value.bool true) :: (Value.bool false) :: (Value.bool false) :: (Value.pointer (some { block := w.heap.size, off := 2 })) :: (Value.slice (some { block := g2, off := o2 }) is.length c3) :: (Value.int IntKind.i64 (↑j + 1)) :: (Value.int IntKind.i64 ↑j) :: (Value.pointer (some { block := g2, off := o2 + j * 3 })) :: (Value.pointer (some { block := g2, off := o2 + j * 3 })) :: (Value.int IntKind.i64 2) :: (Value.bool false) :: (Value.bool false) :: (undef) :: (Value.pointer (some { block := w.heap.size, off := 2 })) :: (Value.slice (some { block := g2, off := o2 }) is.length c3) :: (Value.int IntKind.i64 (↑j + 1)) :: (Value.int IntKind.i64 ↑j) :: (Value.pointer (some { block := g2, off := o2 + j * 3 })) :: (Value.agg #[Value.int IntKind.i64 2, Value.int IntKind.i64 ln, Value.slice (some { block := gp, off := op }) ps.length sc]) :: (Value.int IntKind.i64 ↑q) :: (Value.pointer (some { block := w.heap.size + 1 + 1, off := 2 })) :: (Value.slice (some { block := gp, off := op }) ps.length sc) :: (Value.int IntKind.i64 ↑ps.length) :: (Value.bool true) :: (u40) :: (u41) :: (v) :: (x 0) :: (x 1) :: (x 2) :: (x 3) :: (x 4) :: (x 5) :: (x 6) :: (x 8) :: (x 9) :: (u52) :: (u53) :: (u54) :: (u55) :: (u56) :: (u57) :: (u58) :: (u59) :: (u60) :: (u61) :: (u62) :: (u63) :: (u64) :: (u65) :: (u66) :: (u67) :: (u68) :: (u69) :: (u70) :: (u71) :: (u72) :: (u73) :: (u74) :: (u75) :: (u76) :: (u77) :: (u78) :: (undef) :: []), []⟩ W') := fun v W' h1 h2 => hK' _ _ (hK v W' h1 h2)
            have e6 : ∃ a r, x 6 = .tuple #[a, r] ∧ BlkR w bd btx bss F (iw 6).1 (iw 6).2 W a r := hp.post 6 (hd 6 (show 6 ∈ [6] from by decide))
            clear hK hK' hp hd
            obtain ⟨a, r, e6, -⟩ := e6
            have ea := hide e6
            simp only [e6] at HK ⊢
            clear e6
            go_simp
            exact HK.out _ _ (Below.refl _ _) ⟨ea.out, a, r, rfl⟩
          · refine wpOp_step (o := _) rfl fun K' hK' => ?_
            have HK : Hid (∀ v W', Below W.heap.size W W' → (MkFs 7).P W.heap.size W'.heap.size W' v (upd x 8 v) → K' ⟨List.toArray ((Value.agg #[Value.slice a1 xs.length c1, Value.slice a2 ys.length c2, Value.slice (some { block := g2, off := o2 }) is.length c3, Value.slice a4 bs.length c4]) :: (Value.int IntKind.i64 (↑j + 1)) :: (Value.pointer (some { block := w.heap.size, off := 0 })) :: (undef) :: (Value.slice none 0 0) :: (lv) :: (Value.pointer (some { block := w.heap.size + 1 + 1, off := 0 })) :: (Value.int IntKind.i64 ↑q) :: (x 10) :: (u9) :: (u10) :: (Value.slice (some { block := w.heap.size + 1, off := 0 }) 0 0) :: (Value.int IntKind.i64 (↑j + 1)) :: (Value.pointer (some { block := w.heap.size, off := 2 })) :: (Value.slice (some { block := g2, off := o2 }) is.length c3) :: (Value.int IntKind.i64 ↑is.length) :: (Value.bool true) :: (Value.bool false) :: (Value.bool false) :: (Value.pointer (some { block := w.heap.size, off := 2 })) :: (Value.slice (some { block := g2, off := o2 }) is.length c3) :: (Value.int IntKind.i64 (↑j + 1)) :: (Value.int IntKind.i64 ↑j) :: (Value.pointer (some { block := g2, off := o2 + j * 3 })) :: (Value.pointer (some { block := g2, off := o2 + j * 3 })) :: (Value.int IntKind.i64 2) :: (Value.bool false) :: (Value.bool false) :: (undef) :: (Value.pointer (some { block := w.heap.size, off := 2 })) :: (Value.slice (some { block := g2, off := o2 }) is.length c3) :: (Value.int IntKind.i64 (↑j + 1)) :: (Value.int IntKind.i64 ↑j) :: (Value.pointer (some { block := g2, off := o2 + j * 3 })) :: (Value.agg #[Value.int IntKind.i64 2, Value.int IntKind.i64 ln, Value.slice (some { block := gp, off := op }) ps.length sc]) :: (Value.int IntKind.i64 ↑q) :: (Value.pointer (some { block := w.heap.size + 1 + 1, off := 2 })) :: (Value.slice (some { block := gp, off := op }) ps.length sc) :: (Value.int IntKind.i64 ↑ps.length) :: (Value.bool true) :: (u40) :: (u41) :: (x 7) :: (x 0) :: (x 1) :: (x 2) :: (x 3) :: (x 4) :: (x 5) :: (x 6) :: (v) :: (x 9) :: (u52) :: (u53) :: (u54) :: (u55) :: (u56) :: (u57) :: (u58) :: (u59) :: (u60) :: (u61) :: (u62) :: (u63) :: (u64) :: (u65) :: (u66) :: (u67) :: (u68) :: (u69) :: (u70) :: (u71) :: (u72) :: (u73) :: (u74) :: (u75) :: (u76) :: (u77) :: (u78) :: (undef) :: []), []⟩ W') := fun v W' h1 h2 => hK' _ _ (hK v W' h1 h2)
            have e7 : x 6 = x 7 ∧ ∃ a r, x 7 = .tuple #[a, r] := hp.post 7 (hd 7 (show 7 ∈ [7] from by decide))
            clear hK hK' hp hd
            obtain ⟨-, a, r, e7⟩ := e7
            have ea : Hid (a = fstOf (x 7)) := by rw [e7]; rfl
            simp only [e7] at HK ⊢
            clear e7
            go_simp
            exact HK.out _ _ (Below.refl _ _) ea.out
          · refine wpOp_step (o := _) rfl fun K' hK' => ?_
            have HK : Hid (∀ v W', Below W.heap.size W W' → (MkSd 7).P W.heap.size W'.heap.size W' v (upd x 9 v) → K' ⟨List.toArray ((Value.agg #[Value.slice a1 xs.length c1, Value.slice a2 ys.length c2, Value.slice (some { block := g2, off := o2 }) is.length c3, Value.slice a4 bs.length c4]) :: (Value.int IntKind.i64 (↑j + 1)) :: (Value.pointer (some { block := w.heap.size, off := 0 })) :: (undef) :: (Value.slice none 0 0) :: (lv) :: (Value.pointer (some { block := w.heap.size + 1 + 1, off := 0 })) :: (Value.int IntKind.i64 ↑q) :: (x 10) :: (u9) :: (u10) :: (Value.slice (some { block := w.heap.size + 1, off := 0 }) 0 0) :: (Value.int IntKind.i64 (↑j + 1)) :: (Value.pointer (some { block := w.heap.size, off := 2 })) :: (Value.slice (some { block := g2, off := o2 }) is.length c3) :: (Value.int IntKind.i64 ↑is.length) :: (Value.bool true) :: (Value.bool false) :: (Value.bool false) :: (Value.pointer (some { block := w.heap.size, off := 2 })) :: (Value.slice (some { block := g2, off := o2 }) is.length c3) :: (Value.int IntKind.i64 (↑j + 1)) :: (Value.int IntKind.i64 ↑j) :: (Value.pointer (some { block := g2, off := o2 + j * 3 })) :: (Value.pointer (some { block := g2, off := o2 + j * 3 })) :: (Value.int IntKind.i64 2) :: (Value.bool false) :: (Value.bool false) :: (undef) :: (Value.pointer (some { block := w.heap.size, off := 2 })) :: (Value.slice (some { block := g2, off := o2 }) is.length c3) :: (Value.int IntKind.i64 (↑j + 1)) :: (Value.int IntKind.i64 ↑j) :: (Value.pointer (some { block := g2, off := o2 + j * 3 })) :: (Value.agg #[Value.int IntKind.i64 2, Value.int IntKind.i64 ln, Value.slice (some { block := gp, off := op }) ps.length sc]) :: (Value.int IntKind.i64 ↑q) :: (Value.pointer (some { block := w.heap.size + 1 + 1, off := 2 })) :: (Value.slice (some { block := gp, off := op }) ps.length sc) :: (Value.int IntKind.i64 ↑ps.length) :: (Value.bool true) :: (u40) :: (u41) :: (x 7) :: (x 0) :: (x 1) :: (x 2) :: (x 3) :: (x 4) :: (x 5) :: (x 6) :: (x 8) :: (v) :: (u52) :: (u53) :: (u54) :: (u55) :: (u56) :: (u57) :: (u58) :: (u59) :: (u60) :: (u61) :: (u62) :: (u63) :: (u64) :: (u65) :: (u66) :: (u67) :: (u68) :: (u69) :: (u70) :: (u71) :: (u72) :: (u73) :: (u74) :: (u75) :: (u76) :: (u77) :: (u78) :: (undef) :: []), []⟩ W') := fun v W' h1 h2 => hK' _ _ (hK v W' h1 h2)
            have e7 : x 6 = x 7 ∧ ∃ a r, x 7 = .tuple #[a, r] := hp.post 7 (hd 7 (show 7 ∈ [7] from by decide))
            clear hK hK' hp hd
            obtain ⟨-, a, r, e7⟩ := e7
            have ea : Hid (r = sndOf (x 7)) := by rw [e7]; rfl
            simp only [e7] at HK ⊢
            clear e7
            go_simp
            exact HK.out _ _ (Below.refl _ _) ea.out
          · refine wpOp_step (o := _) rfl fun K' hK' => ?_
            have HK : Hid (∀ v W', Below W.heap.size W W' → (MkW 84 #[.bool false, .slice none 0 0, .string ⟨#[]⟩]).P W.heap.size W'.heap.size W' v (upd x 10 v) → K' ⟨List.toArray ((Value.agg #[Value.slice a1 xs.length c1, Value.slice a2 ys.length c2, Value.slice (some { block := g2, off := o2 }) is.length c3, Value.slice a4 bs.length c4]) :: (Value.int IntKind.i64 (↑j + 1)) :: (Value.pointer (some { block := w.heap.size, off := 0 })) :: (undef) :: (Value.slice none 0 0) :: (lv) :: (Value.pointer (some { block := w.heap.size + 1 + 1, off := 0 })) :: (Value.int IntKind.i64 ↑q) :: (v) :: (u9) :: (u10) :: (Value.slice (some { block := w.heap.size + 1, off := 0 }) 0 0) :: (Value.int IntKind.i64 (↑j + 1)) :: (Value.pointer (some { block := w.heap.size, off := 2 })) :: (Value.slice (some { block := g2, off := o2 }) is.length c3) :: (Value.int IntKind.i64 ↑is.length) :: (Value.bool true) :: (Value.bool false) :: (Value.bool false) :: (Value.pointer (some { block := w.heap.size, off := 2 })) :: (Value.slice (some { block := g2, off := o2 }) is.length c3) :: (Value.int IntKind.i64 (↑j + 1)) :: (Value.int IntKind.i64 ↑j) :: (Value.pointer (some { block := g2, off := o2 + j * 3 })) :: (Value.pointer (some { block := g2, off := o2 + j * 3 })) :: (Value.int IntKind.i64 2) :: (Value.bool false) :: (Value.bool false) :: (undef) :: (Value.pointer (some { block := w.heap.size, off := 2 })) :: (Value.slice (some { block := g2, off := o2 }) is.length c3) :: (Value.int IntKind.i64 (↑j + 1)) :: (Value.int IntKind.i64 ↑j) :: (Value.pointer (some { block := g2, off := o2 + j * 3 })) :: (Value.agg #[Value.int IntKind.i64 2, Value.int IntKind.i64 ln, Value.slice (some { block := gp, off := op }) ps.length sc]) :: (Value.int IntKind.i64 ↑q) :: (Value.pointer (some { block := w.heap.size + 1 + 1, off := 2 })) :: (Value.slice (some { block := gp, off := op }) ps.length sc) :: (Value.int IntKind.i64 ↑ps.length) :: (Value.bool true) :: (u40) :: (u41) :: (x 7) :: (x 0) :: (x 1) :: (x 2) :: (x 3) :: (x 4) :: (x 5) :: (x 6) :: (x 8) :: (x 9) :: (u52) :: (u53) :: (u54) :: (u55) :: (u56) :: (u57) :: (u58) :: (u59) :: (u60) :: (u61) :: (u62) :: (u63) :: (u64) :: (u65) :: (u66) :: (u67) :: (u68) :: (u69) :: (u70) :: (u71) :: (u72) :: (u73) :: (u74) :: (u75) :: (u76) :: (u77) :: (u78) :: (undef) :: []), []⟩ W') := fun v W' h1 h2 => hK' _ _ (hK v W' h1 h2)
            clear hK hK' hp hd
            go_simp
            exact HK.out _ _ ((Below.refl _ W).alloc (Nat.le_refl _) _) ⟨rfl, by simp, AtC.new W 84 _⟩
        · intro x iw W hp
          obtain ⟨a, r, e6, R6⟩ := hp.post 6 (by decide)
          obtain ⟨e7, -⟩ := hp.post 7 (by decide)
          have e8 : x 8 = fstOf (x 7) := hp.post 8 (by decide)
          have e9 : x 9 = sndOf (x 7) := hp.post 9 (by decide)
          obtain ⟨e10, z10, A10⟩ := hp.post 10 (by decide)
          have l10 := hp.lo 10 (by decide)
          have lc := hp.lo 6 (by decide)
          have bel := of_drew hp.bel
          have ap := hp.apart 6 (by decide) 10 (by decide) (by decide)
          rw [← e7, e6] at e8
          rw [← e7, e6] at e9
          replace e9 : x 9 = r := e9
          rw [e6] at e7
          replace e7 := e7.symm
          replace e8 : x 8 = a := e8
          have y0 : W.cell? ⟨(iw 10).1, 0, none⟩ = some (.bool false) := A10.cell 0
          have f0 := A10.frozen 0
          have y1 : W.cell? ⟨(iw 10).1, 1, none⟩ = some (.slice none 0 0) := A10.cell 1
          have f1 := A10.frozen 1
          have y2 : W.cell? ⟨(iw 10).1, 2, none⟩ = some (.string ⟨#[]⟩) := A10.cell 2
          have f2 := A10.frozen 2
          obtain ⟨ba, bc, rfl, rfl, hR⟩ := R6
          have hb10 : wo.heap.size ≤ (iw 10).1 := l10.1
          have HFI : Hid (AtC W (iw 10).1 84 #[.bool false, .slice none 0 0, .string ⟨#[]⟩] ∧ RSl w (.slice ba bss.length bc) bss ∧ Below wo.heap.size wo W ∧ wo.heap.size ≤ (iw 10).1) := ⟨A10, hR, bel, hb10⟩
          clear hp A10 hR bel ap lc l10 z10 hb10
          simp only [e7, e8, e10, e9] at *
          generalize (iw 10).1 = bw at *
          go_wp2_with fail
          try rw [List.filterMap_nil]
          try go_wp2_with fail
          go_meet
          exact ⟨bw, ba, bc, rfl, rfl, ((HFI.out.1.set 0 _).set 1 _).set 2 _, HFI.out.2.1, ((HFI.out.2.2.1.setCell (p := ⟨bw, 0, none⟩) HFI.out.2.2.2 _).setCell (p := ⟨bw, 1, none⟩) HFI.out.2.2.2 _).setCell (p := ⟨bw, 2, none⟩) HFI.out.2.2.2 _, HFI.out.2.2.2⟩
        · intro qa hqa l hl x iw W hp
          simp only [List.mem_cons, List.not_mem_nil, or_false] at hqa
          subst hqa
          simp only [List.mem_cons, List.not_mem_nil, or_false] at hl
          obtain ⟨a, r, e6, R6⟩ := hp.post 6 (by decide)
          obtain ⟨e7, -⟩ := hp.post 7 (by decide)
          have e8 : x 8 = fstOf (x 7) := hp.post 8 (by decide)
          obtain ⟨e10, z10, A10⟩ := hp.post 10 (by decide)
          have l10 := hp.lo 10 (by decide)
          have lc := hp.lo 6 (by decide)
          have bel := of_drew hp.bel
          have ap := hp.apart 6 (by decide) 10 (by decide) (by decide)
          rw [← e7, e6] at e8
          rw [e6] at e7
          replace e7 := e7.symm
          replace e8 : x 8 = a := e8
          have y0 : W.cell? ⟨(iw 10).1, 0, none⟩ = some (.bool false) := A10.cell 0
          have f0 := A10.frozen 0
          have y1 : W.cell? ⟨(iw 10).1, 1, none⟩ = some (.slice none 0 0) := A10.cell 1
          have f1 := A10.frozen 1
          have y2 : W.cell? ⟨(iw 10).1, 2, none⟩ = some (.string ⟨#[]⟩) := A10.cell 2
          have f2 := A10.frozen 2
          obtain ⟨ba, bc, rfl, rfl, hR⟩ := R6
          have hb10 : wo.heap.size ≤ (iw 10).1 := l10.1
          have HFI : Hid (AtC W (iw 10).1 84 #[.bool false, .slice none 0 0, .string ⟨#[]⟩] ∧ RSl w (.slice ba bss.length bc) bss ∧ Below wo.heap.size wo W ∧ wo.heap.size ≤ (iw 10).1) := ⟨A10, hR, bel, hb10⟩
          clear hp A10 hR bel ap lc l10 z10 hb10
          simp only [e7, e8, e10] at *
          generalize (iw 10).1 = bw at *
          rcases hl with rfl | rfl
          · go_wp2_with fail
            try rw [List.filterMap_nil]
            try go_wp2_with fail
            go_meet
            exact ⟨bw, ba, bc, rfl, rfl, ((HFI.out.1.set 0 _).set 1 _).set 2 _, HFI.out.2.1, ((HFI.out.2.2.1.setCell (p := ⟨bw, 0, none⟩) HFI.out.2.2.2 _).setCell (p := ⟨bw, 1, none⟩) HFI.out.2.2.2 _).setCell (p := ⟨bw, 2, none⟩) HFI.out.2.2.2 _, HFI.out.2.2.2⟩
          · go_wp2_with fail
            try rw [List.filterMap_nil]
            try go_wp2_with fail
            go_meet
            exact ⟨bw, ba, bc, rfl, rfl, ((HFI.out.1.set 0 _).set 1 _).set 2 _, HFI.out.2.1, ((HFI.out.2.2.1.setCell (p := ⟨bw, 0, none⟩) HFI.out.2.2.2 _).setCell (p := ⟨bw, 1, none⟩) HFI.out.2.2.2 _).setCell (p := ⟨bw, 2, none⟩) HFI.out.2.2.2 _, HFI.out.2.2.2⟩
      case rest =>
        obtain ⟨bw, ba, bc, rfl, rfl, Aw, Rw, Bw, lw⟩ := hcut
        have HN2 : Hid (NmR w wc #[.slice a1 xs.length c1, .slice a2 ys.length c2, .slice (some ⟨g2, o2, none⟩) is.length c3, .slice a4 bs.length c4] #[.int .i64 2, .int .i64 ln, .slice (some ⟨gp, op, none⟩) ps.length sc] bw lv l ∧ AtC wc bw 84 #[.bool bd, .slice ba bss.length bc, .string btx] ∧ l.length ≤ 4 * q + 0 ∧ l = (nmdP bs (ps.take q)).map (·.1) ++ (nmdS (bss.take 0)).map (·.1)) := ⟨(HR.out.1.below Bw).turn (fun k hk => by have := (HR.out.1.o.lt k hk).2; omega), Aw, HR.out.2.1, by rw [HR.out.2.2]; simp [nmdS]⟩
        have HRS := hide Rw
        clear Aw Rw Bw CB HR HWR lw
        go_wp2_with fail
        go_loopw [5, 10] (fun x5 kk wr => ∃ (lv : Value) (l : List ByteArray) (t : Nat), lv = x5 ∧ t ≤ bss.length ∧ kk = .int .i64 t ∧ Hid (NmR w wr #[.slice a1 xs.length c1, .slice a2 ys.length c2, .slice (some ⟨g2, o2, none⟩) is.length c3, .slice a4 bs.length c4] #[.int .i64 2, .int .i64 ln, .slice (some ⟨gp, op, none⟩) ps.length sc] bw lv l ∧ AtC wr bw 84 #[.bool bd, .slice ba bss.length bc, .string btx] ∧ l.length ≤ 4 * q + t ∧ l = (nmdP bs (ps.take q)).map (·.1) ++ (nmdS (bss.take t)).map (·.1) ∧ (bd = true ∨ t = 0))) (fun _ kk _ => bss.length - (intOf kk).toNat)
        case atStart => exact ⟨lv, l, 0, rfl, Nat.zero_le _, rfl, HN2.out.1, HN2.out.2.1, HN2.out.2.2.1, HN2.out.2.2.2, .inr rfl⟩
        case round =>
          clear HN2
          obtain ⟨lv', l', t, hlv, ht, rfl, HS⟩ := hrel
          subst hlv
          have g0 : wr.cell? ⟨bw, 0, none⟩ = some (.bool bd) := HS.out.2.1.cell 0
          have g1 : wr.cell? ⟨bw, 1, none⟩ = some (.slice ba bss.length bc) := HS.out.2.1.cell 1
          have t0 : (0 : Int) ≤ (t : Int) := by omega
          have hq2 : q < 2 := by omega
          by_cases htl : t < bss.length
          rotate_left
          · have t1 : ¬ ((t : Int) < (bss.length : Int)) := by omega
            go_wp2
            go_roundw
            case rel =>
              refine ⟨lv', l', q + 1, rfl, by omega, by go_num, HS.out.1.turn (fun k hk => by have := (HS.out.1.o.lt k hk).1; omega), by have := HS.out.2.2.1; omega, ?_⟩
              rw [HTK.out, List.map_append, HS.out.2.2.2.1, List.take_of_length_le (show bss.length ≤ t by omega)]
              rcases HS.out.2.2.2.2 with rfl | e
              · rfl
              · have : bss = [] := List.length_eq_zero_iff.1 (by omega)
                subst this
                cases bd <;> rfl
            case measure => simp [intOf]; omega
          have t1 : (t : Int) < (bss.length : Int) := by omega
          cases bd with
          | false =>
            go_wp2
            go_roundw
            case rel =>
              refine ⟨lv', l', q + 1, rfl, by omega, by go_num, HS.out.1.turn (fun k hk => by have := (HS.out.1.o.lt k hk).1; omega), by have := HS.out.2.2.1; omega, ?_⟩
              rcases HS.out.2.2.2.2 with e | e
              · cases e
              · subst e
                rw [HTK.out, List.map_append, HS.out.2.2.2.1]
                rfl
            case measure => simp [intOf]; omega
          | true =>
          obtain ⟨sa', sc', e1, -, hcs⟩ := HRS.out
          simp only [Value.slice.injEq, true_and] at e1
          obtain ⟨rfl, rfl⟩ := e1
          obtain ⟨gs, os, rfl, hgs, ks0, ks1⟩ := hcs t htl
          obtain ⟨sn, hsn⟩ : ∃ sn, bss[t].1 = sn := ⟨_, rfl⟩
          rw [hsn] at ks0
          have HTS := hide (nmdS_take htl)
          have HSN := hide hsn
          replace ks0 := (HS.out.1.b.cell (p := ⟨gs, os + t * 2, none⟩) hgs).trans ks0
          clear hcs hsn ks1
          by_cases hse : sn = ⟨#[]⟩
          · subst hse
            go_wp2
            go_roundw
            case rel =>
              refine ⟨lv', l', t + 1, rfl, by omega, by go_num, HS.out.1, HS.out.2.1, by have := HS.out.2.2.1; omega, ?_, by simp⟩
              rw [HTS.out, HS.out.2.2.2.1, if_pos HSN.out, List.append_nil]
            case measure => simp [intOf]; omega
          have hse2 : (sn.toList == ([] : List UInt8)) = false := beq_empty hse
          have hse3 : (sn.toList != ([] : List UInt8)) = true := by simp [bne, hse2]
          have HT : Hid (ROwns (wr.alloc (.cells #[.string sn] 9)) (w.heap.size + 1) 9 lv' (stc l')) := HS.out.1.o.alloc _
          have HK2 : Hid ((wr.alloc (.cells #[.string sn] 9)).cell? ⟨wr.heap.size, 0, none⟩ = some (.string sn)) := (AtC.new wr 9 #[.string sn]).cell 0
          have HSZ : Hid (w.heap.size + 1 ≤ (wr.alloc (.cells #[.string sn] 9)).heap.size) := by have := HS.out.1.b.size; show _ ≤ _; simp; omega
          have HTL : Hid ((stc l').length ≤ 100000000000) := by have := HS.out.2.2.1; show _ ≤ _; rw [stc_length]; omega
          have HAL : Hid (Below wr.heap.size wr (wr.alloc (.cells #[.string sn] 9))) := (Below.refl _ wr).alloc (Nat.le_refl _) _
          go_wp2_with (at_builtin; refine wpList_step fun K' hK' => ?_; refine step_append_one _ rfl (.tmp 70) (.tmp 77) 85 rfl (w.heap.size + 1) 9 Try.u85 _ 16 Try.i9 rfl (by decide) lv' _ rfl HT.out HSZ.out wr.heap.size (.string sn) rfl HK2.out rfl HTL.out ?_; intro v12 w12 T12 G12 V12; refine hK' _ _ ?_; have HR12 := hide (And.intro T12 (And.intro G12 V12)); clear T12 G12 V12 hK')
          have HRL : Hid (NmR w w12 #[.slice a1 xs.length c1, .slice a2 ys.length c2, .slice (some ⟨g2, o2, none⟩) is.length c3, .slice a4 bs.length c4] #[.int .i64 2, .int .i64 ln, .slice (some ⟨gp, op, none⟩) ps.length sc] bw v12 (l' ++ [sn]) ∧ AtC w12 bw 84 #[.bool true, .slice (some ⟨gs, os, none⟩) bss.length bc, .string btx] ∧ (l' ++ [sn]).length ≤ 4 * q + (t + 1) ∧ l' ++ [sn] = (nmdP bs (ps.take q)).map (·.1) ++ (nmdS (bss.take (t + 1))).map (·.1)) := by
            obtain ⟨T12, G12, V12⟩ := HR12.out
            have n1 := HS.out.1.below HAL.out
            have hbw : bw < (wr.alloc (.cells #[.string sn] 9)).heap.size := (HS.out.2.1.over HAL.out).lt
            refine ⟨n1.app (by rw [stc_append]; exact T12) G12 V12 hbw, (HS.out.2.1.over HAL.out).grown G12 (fun e => (HS.out.1.n _ e).2 rfl), by have := HS.out.2.2.1; simp; omega, ?_⟩
            rw [HTS.out, HS.out.2.2.2.1, if_neg (by rw [HSN.out]; exact hse), List.map_append, List.append_assoc, List.map_cons, List.map_nil, HSN.out]
          go_roundw
          case rel => exact ⟨v12, l' ++ [sn], t + 1, rfl, by omega, by go_num, HRL.out.1, HRL.out.2.1, HRL.out.2.2.1, HRL.out.2.2.2, by simp⟩
          case measure => simp [intOf]; omega
end Go.Proofs.Ytljooldjcefkoaa
