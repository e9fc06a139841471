/- Texts of the proof, bundled: Tx. -/
import Derived.Test.YtljooldjcefkoaaU10
/- Of the specification: TextOf by its contract. -/
namespace Go.Proofs.Ytljooldjcefkoaa
open Go.RowKit Kit
/-- Both texts of a file. -/
def textsAt (is : List Ino) (bs : List Blk) (i : Int) : ByteArray × ByteArray := if kindAt is i = 1 then ((blkAt bs ((ptrsAt is i).getD 0 0)).2.2, (blkAt bs ((ptrsAt is i).getD 1 0)).2.2) else (⟨#[]⟩, ⟨#[]⟩)
set_option maxRecDepth 100000 in
set_option maxHeartbeats 6400000 in
theorem text_any (x : Int) (dx dy iv bv : Value) (xs ys : List Bool) (is : List Ino) (bs : List Blk) (w : World) (h : DR w dx dy iv bv xs ys is bs) (hi : is.length ≤ 1048576) (hbl : bs.length ≤ 1048576) (hp : ∀ q ∈ is, q.2.2.length = 2) :
    Calls Try.prog 44 #[.agg #[dx, dy, iv, bv], .int .i64 x] w fun e w' => e = .returned (.tuple #[.string (textsAt is bs x).1, .string (textsAt is bs x).2]) ∧ Below w.heap.size w w' := by
  obtain ⟨a3, c3, rfl, -, hc⟩ := h.i
  have HH := hide h
  have HBL := hide hbl
  cases hin : inB x 1 is.length with
  | false =>
    have HIN := hide hin
    have e0 : textsAt is bs x = (⟨#[]⟩, ⟨#[]⟩) := by unfold textsAt; rw [kindAt_out hin]; rfl
    rw [e0]
    clear hin h hc hi hp hbl e0
    have HB : Hid (∀ A, Below w.heap.size w (w.alloc (.cells A 36))) := fun A => (Below.refl _ w).alloc (Nat.le_refl _) _
    go_enter Try.func44, Try.ntmps44
    go_wp2_with (go_at_call 43; refine (l01In_any x 1 _ _).mono ?_; rintro e w7 ⟨rfl, rfl⟩; rw [HIN.out])
    go_ret2
    exact ⟨rfl, HB.out _⟩
  | true =>
    have HIN := hide hin
    obtain ⟨h1, h2⟩ := inB_true hin
    obtain ⟨j, rfl⟩ : ∃ j : Nat, x = (j : Int) + 1 := ⟨(x - 1).toNat, by omega⟩
    have hj : j < is.length := by omega
    obtain ⟨g2, o2, ⟨t0, t1, t2⟩, rfl, hg2, r0, r1, r2, e0, e1, rr⟩ := hc j hj
    have hpl := hp _ (List.getElem_mem hj)
    have hT : textsAt is bs ((j : Int) + 1) = if is[j].1 = 1 then ((blkAt bs (is[j].2.2.getD 0 0)).2.2, (blkAt bs (is[j].2.2.getD 1 0)).2.2) else (⟨#[]⟩, ⟨#[]⟩) := by unfold textsAt; rw [(kindAt_in hj).1, (kindAt_in hj).2]
    rw [hT]
    obtain ⟨⟨kd, ln, ps⟩, hX⟩ : ∃ X, is[j] = X := ⟨_, rfl⟩
    rw [hX] at e0 e1 rr hpl ⊢
    simp only at e0 e1 rr r0 r1 r2 hpl ⊢
    subst e0 e1
    obtain ⟨p0, p1, rfl⟩ : ∃ p0 p1, ps = [p0, p1] := by
      match ps, hpl with
      | [p0, p1], _ => exact ⟨p0, p1, rfl⟩
    obtain ⟨sa, sc, e1, hcp⟩ := rr
    have e2 : t2 = .slice sa 2 sc := e1
    subst e2
    obtain ⟨gp, op, rfl, hgp, kp0⟩ := hcp 0 (by simp)
    obtain ⟨gp', op', e3, -, kp1⟩ := hcp 1 (by simp)
    simp only [Option.some.injEq, Addr.mk.injEq, and_true] at e3
    obtain ⟨rfl, rfl⟩ := e3
    simp only [List.getElem_cons_zero, List.getElem_cons_succ, Nat.add_zero] at kp0 kp1
    have HW : Hid (∀ W, Below (w.alloc (.cells #[dx, dy, .slice (some ⟨g2, o2, none⟩) is.length c3, bv] 36)).heap.size (w.alloc (.cells #[dx, dy, .slice (some ⟨g2, o2, none⟩) is.length c3, bv] 36)) W → Below w.heap.size w W ∧ AtC W w.heap.size 36 #[dx, dy, .slice (some ⟨g2, o2, none⟩) is.length c3, bv] ∧ W.cell? ⟨g2, o2 + j * 3, none⟩ = some (.int .i64 kd) ∧ W.cell? ⟨g2, o2 + j * 3 + 1, none⟩ = some (.int .i64 ln) ∧ W.cell? ⟨g2, o2 + j * 3 + 2, none⟩ = some (.slice (some ⟨gp, op, none⟩) 2 sc) ∧ W.cell? ⟨gp, op, none⟩ = some (.int .i64 p0) ∧ W.cell? ⟨gp, op + 1, none⟩ = some (.int .i64 p1)) := fun W b => by
      have bb : Below w.heap.size w W := ((Below.refl _ w).alloc (Nat.le_refl _) _).trans (b.mono (by simp))
      exact ⟨bb, (AtC.new w 36 _).over b, (bb.cell (p := ⟨g2, o2 + j * 3, none⟩) hg2).trans r0, (bb.cell (p := ⟨g2, o2 + j * 3 + 1, none⟩) hg2).trans r1, (bb.cell (p := ⟨g2, o2 + j * 3 + 2, none⟩) hg2).trans r2, (bb.cell (p := ⟨gp, op, none⟩) hgp).trans kp0, (bb.cell (p := ⟨gp, op + 1, none⟩) hgp).trans kp1⟩
    have hwj : IntKind.i64.wrap (j : Int) = (j : Int) := wrap_small _ (by omega) (by omega)
    have j0 : (0 : Int) ≤ (j : Int) := by omega
    have j1 : (j : Int) < (is.length : Int) := by omega
    obtain ⟨-, -, y0, y1, y2, y3, y4⟩ := HW.out _ (Below.refl _ _)
    have HB : Hid (Below w.heap.size w (w.alloc (.cells #[dx, dy, .slice (some ⟨g2, o2, none⟩) is.length c3, bv] 36))) := (HW.out _ (Below.refl _ _)).1
    clear hT hX hin h1 h2 hp hc hcp h r0 r1 r2 kp0 kp1 hpl hi hbl
    by_cases hkd : kd = 1
    rotate_left
    · have hkb : (kd != 1) = true := by simp [hkd]
      rw [if_neg hkd]
      go_enter Try.func44, Try.ntmps44
      go_wp2_with (go_at_call 43; refine (l01In_any ((j : Int) + 1) 1 _ _).mono ?_; rintro e w7 ⟨rfl, rfl⟩; rw [HIN.out])
      go_ret2
      exact ⟨rfl, HB.out⟩
    subst hkd
    rw [if_pos rfl]
    simp only [List.getD_cons_zero, List.getD_cons_succ]
    have CB := hide (fun (P : Int) (W : World) (hd : Below w.heap.size w W) => blk_any P dx dy (.slice (some ⟨g2, o2, none⟩) is.length c3) bv xs ys is bs w W HH.out hd HBL.out)
    obtain ⟨⟨bd, bss, btx⟩, hBD⟩ : ∃ X, blkAt bs p0 = X := ⟨_, rfl⟩
    obtain ⟨⟨cd, css, ctx⟩, hCD⟩ : ∃ X, blkAt bs p1 = X := ⟨_, rfl⟩
    obtain ⟨F, hF⟩ : ∃ F, inB p0 1 bs.length = F := ⟨_, rfl⟩
    obtain ⟨G, hG⟩ : ∃ F, inB p1 1 bs.length = F := ⟨_, rfl⟩
    have CB0 := hide (CB.out p0)
    have CB1 := hide (CB.out p1)
    rw [hBD, hF] at CB0
    rw [hCD, hG] at CB1
    rw [hBD, hCD]
    clear hBD hCD hF hG CB HB
    obtain ⟨w0, hw0⟩ : ∃ w0, (w.alloc (.cells #[dx, dy, .slice (some ⟨g2, o2, none⟩) is.length c3, bv] 36)) = w0 := ⟨_, rfl⟩
    have hsz0 : w.heap.size + 1 ≤ w0.heap.size := by rw [← hw0]; simp
    rw [hw0] at HW y0 y1 y2 y3 y4
    have x2 : w0.cell? ⟨w.heap.size, 2, none⟩ = some (.slice (some ⟨g2, o2, none⟩) is.length c3) := (HW.out _ (Below.refl _ _)).2.1.cell 2
    go_enter Try.func44, Try.ntmps44
    go_upto_region 3 with (go_at_call 43; refine (l01In_any ((j : Int) + 1) 1 _ _).mono ?_; rintro e w7 ⟨rfl, hw7⟩; subst w7; rw [HIN.out])
    clear hw0 y0 y1 y2 y3 y4 x2
    go_cut [6, 7] from 37 to 50 (fun bv ok wx => ∃ (bw : Nat) (ba : Option Addr) (bc : Nat), bv = .pointer (some ⟨bw, 0, none⟩) ∧ ok = .bool F ∧ AtC wx bw 84 #[.bool bd, .slice ba bss.length bc, .string btx] ∧ Below w0.heap.size w0 wx ∧ w0.heap.size ≤ bw)
    case first =>
      refine wp_region_alt (by kernel_rfl) [0, 1, 2, 3, 4, 5, 6, 7, 8, 9, 10, 11, 12, 13, 14] [15, 16] [([0, 1, 2, 3, 4, 5, 6, 7, 8, 9, 10, 11, 12, 14], [[13, 15, 16], [15, 13, 16]])] (fun i => match i with | 0 => .const [] (.agg #[dx, dy, .slice (some ⟨g2, o2, none⟩) is.length c3, bv]) | 1 => .const [] (.pointer (some ⟨w.heap.size, 2, none⟩)) | 2 => .const [1] (.slice (some ⟨g2, o2, none⟩) is.length c3) | 3 => .const [] (.int .i64 ((j : Int) + 1)) | 4 => .const [3] (.int .i64 (j : Int)) | 5 => .const [2, 4] (.pointer (some ⟨g2, o2 + j * 3, none⟩)) | 6 => .const [5] (.pointer (some ⟨g2, o2 + j * 3 + 2, none⟩)) | 7 => .const [6] (.slice (some ⟨gp, op, none⟩) 2 sc) | 8 => .const [7] (.pointer (some ⟨gp, op, none⟩)) | 9 => .const [8] (.int .i64 p0) | 10 => MkT2 [0, 9] (BlkR w bd btx bss F) BlkR.below | 11 => MkMv 10 | 12 => MkFs 11 | 13 => MkSd 11 | 14 => MkW 84 #[.bool false, .slice none 0 0, .string ⟨#[]⟩] | _ => .triv) (fun x => ⟨List.toArray ((Value.agg #[dx, dy, Value.slice (some { block := g2, off := o2 }) is.length c3, bv]) :: (Value.int IntKind.i64 (↑j + 1)) :: (Value.pointer (some { block := w.heap.size, off := 0 })) :: (undef) :: (Value.string { data := #[] }) :: (Value.string { data := #[] }) :: (x 14) :: (undef) :: (undef) :: (undef) :: (Value.int IntKind.i64 (↑j + 1)) :: (Value.pointer (some { block := w.heap.size, off := 2 })) :: (Value.slice (some { block := g2, off := o2 }) is.length c3) :: (Value.int IntKind.i64 ↑is.length) :: (Value.bool true) :: (Value.bool false) :: (Value.bool false) :: (Value.pointer (some { block := w.heap.size, off := 2 })) :: (Value.slice (some { block := g2, off := o2 }) is.length c3) :: (Value.int IntKind.i64 (↑j + 1)) :: (Value.int IntKind.i64 ↑j) :: (Value.pointer (some { block := g2, off := o2 + j * 3 })) :: (Value.pointer (some { block := g2, off := o2 + j * 3 })) :: (Value.int IntKind.i64 1) :: (Value.bool false) :: (Value.bool false) :: (Value.bool false) :: (Value.pointer (some { block := w.heap.size, off := 2 })) :: (Value.slice (some { block := g2, off := o2 }) is.length c3) :: (Value.int IntKind.i64 (↑j + 1)) :: (Value.int IntKind.i64 ↑j) :: (Value.pointer (some { block := g2, off := o2 + j * 3 })) :: (Value.pointer (some { block := g2, off := o2 + j * 3 + 2 })) :: (Value.slice (some { block := gp, off := op }) 2 sc) :: (Value.int IntKind.i64 2) :: (Value.bool false) :: (Value.bool false) :: (x 11) :: (x 0) :: (x 1) :: (x 2) :: (x 3) :: (x 4) :: (x 5) :: (x 6) :: (x 7) :: (x 8) :: (x 9) :: (x 10) :: (x 12) :: (x 13) :: (undef) :: (undef) :: (undef) :: (undef) :: (undef) :: (undef) :: (undef) :: (undef) :: (undef) :: (undef) :: (undef) :: (undef) :: (undef) :: (undef) :: (undef) :: (undef) :: (undef) :: (undef) :: []), []⟩) (fun i => match i with | 0 => undef | 1 => undef | 2 => undef | 3 => undef | 4 => undef | 5 => undef | 6 => undef | 7 => undef | 8 => undef | 9 => undef | 10 => undef | 11 => undef | 12 => undef | 13 => undef | 14 => undef | _ => undef) rfl (makersOk2_of (by kernel_rfl) (by kernel_rfl)) (by kernel_rfl) (by kernel_rfl) (by kernel_rfl) rfl ?_ ?_ ?_
      · intro jo hj so x iw W hd hp K hK
        simp only [List.mem_cons, List.not_mem_nil, or_false] at hj
        rcases hj with rfl | rfl | rfl | rfl | rfl | rfl | rfl | rfl | rfl | rfl | rfl | rfl | rfl | rfl | rfl
        · refine wpOp_step (o := _) rfl fun K' hK' => ?_
          have HK : Hid (∀ v W', Below W.heap.size W W' → ((Mk.const [] (.agg #[dx, dy, .slice (some ⟨g2, o2, none⟩) is.length c3, bv]) : Mk)).P W.heap.size W'.heap.size W' v (upd x 0 v) → K' ⟨List.toArray ((Value.agg #[dx, dy, Value.slice (some { block := g2, off := o2 }) is.length c3, bv]) :: (Value.int IntKind.i64 (↑j + 1)) :: (Value.pointer (some { block := w.heap.size, off := 0 })) :: (undef) :: (Value.string { data := #[] }) :: (Value.string { data := #[] }) :: (x 14) :: (undef) :: (undef) :: (undef) :: (Value.int IntKind.i64 (↑j + 1)) :: (Value.pointer (some { block := w.heap.size, off := 2 })) :: (Value.slice (some { block := g2, off := o2 }) is.length c3) :: (Value.int IntKind.i64 ↑is.length) :: (Value.bool true) :: (Value.bool false) :: (Value.bool false) :: (Value.pointer (some { block := w.heap.size, off := 2 })) :: (Value.slice (some { block := g2, off := o2 }) is.length c3) :: (Value.int IntKind.i64 (↑j + 1)) :: (Value.int IntKind.i64 ↑j) :: (Value.pointer (some { block := g2, off := o2 + j * 3 })) :: (Value.pointer (some { block := g2, off := o2 + j * 3 })) :: (Value.int IntKind.i64 1) :: (Value.bool false) :: (Value.bool false) :: (Value.bool false) :: (Value.pointer (some { block := w.heap.size, off := 2 })) :: (Value.slice (some { block := g2, off := o2 }) is.length c3) :: (Value.int IntKind.i64 (↑j + 1)) :: (Value.int IntKind.i64 ↑j) :: (Value.pointer (some { block := g2, off := o2 + j * 3 })) :: (Value.pointer (some { block := g2, off := o2 + j * 3 + 2 })) :: (Value.slice (some { block := gp, off := op }) 2 sc) :: (Value.int IntKind.i64 2) :: (Value.bool false) :: (Value.bool false) :: (x 11) :: (v) :: (x 1) :: (x 2) :: (x 3) :: (x 4) :: (x 5) :: (x 6) :: (x 7) :: (x 8) :: (x 9) :: (x 10) :: (x 12) :: (x 13) :: (undef) :: (undef) :: (undef) :: (undef) :: (undef) :: (undef) :: (undef) :: (undef) :: (undef) :: (undef) :: (undef) :: (undef) :: (undef) :: (undef) :: (undef) :: (undef) :: (undef) :: (undef) :: []), []⟩ W') := fun v W' h1 h2 => hK' _ _ (hK v W' h1 h2)
          have bw := of_drew hp.bel
          obtain ⟨qb, qd, q0, q1, q2, q3, q4⟩ := HW.out W bw
          have k0 : W.cell? ⟨w.heap.size, 0, none⟩ = some (dx) := qd.cell 0
          have k1 : W.cell? ⟨w.heap.size, 1, none⟩ = some (dy) := qd.cell 1
          have k2 : W.cell? ⟨w.heap.size, 2, none⟩ = some (.slice (some ⟨g2, o2, none⟩) is.length c3) := qd.cell 2
          have k3 : W.cell? ⟨w.heap.size, 3, none⟩ = some (bv) := qd.cell 3
          clear bw qb qd q0 q1 q2 q3 q4
          clear hK hK' hp hd
          go_simp
          exact HK.out _ _ (Below.refl _ _) rfl
        · refine wpOp_step (o := _) rfl fun K' hK' => ?_
          have HK : Hid (∀ v W', Below W.heap.size W W' → ((Mk.const [] (.pointer (some ⟨w.heap.size, 2, none⟩)) : Mk)).P W.heap.size W'.heap.size W' v (upd x 1 v) → K' ⟨List.toArray ((Value.agg #[dx, dy, Value.slice (some { block := g2, off := o2 }) is.length c3, bv]) :: (Value.int IntKind.i64 (↑j + 1)) :: (Value.pointer (some { block := w.heap.size, off := 0 })) :: (undef) :: (Value.string { data := #[] }) :: (Value.string { data := #[] }) :: (x 14) :: (undef) :: (undef) :: (undef) :: (Value.int IntKind.i64 (↑j + 1)) :: (Value.pointer (some { block := w.heap.size, off := 2 })) :: (Value.slice (some { block := g2, off := o2 }) is.length c3) :: (Value.int IntKind.i64 ↑is.length) :: (Value.bool true) :: (Value.bool false) :: (Value.bool false) :: (Value.pointer (some { block := w.heap.size, off := 2 })) :: (Value.slice (some { block := g2, off := o2 }) is.length c3) :: (Value.int IntKind.i64 (↑j + 1)) :: (Value.int IntKind.i64 ↑j) :: (Value.pointer (some { block := g2, off := o2 + j * 3 })) :: (Value.pointer (some { block := g2, off := o2 + j * 3 })) :: (Value.int IntKind.i64 1) :: (Value.bool false) :: (Value.bool false) :: (Value.bool false) :: (Value.pointer (some { block := w.heap.size, off := 2 })) :: (Value.slice (some { block := g2, off := o2 }) is.length c3) :: (Value.int IntKind.i64 (↑j + 1)) :: (Value.int IntKind.i64 ↑j) :: (Value.pointer (some { block := g2, off := o2 + j * 3 })) :: (Value.pointer (some { block := g2, off := o2 + j * 3 + 2 })) :: (Value.slice (some { block := gp, off := op }) 2 sc) :: (Value.int IntKind.i64 2) :: (Value.bool false) :: (Value.bool false) :: (x 11) :: (x 0) :: (v) :: (x 2) :: (x 3) :: (x 4) :: (x 5) :: (x 6) :: (x 7) :: (x 8) :: (x 9) :: (x 10) :: (x 12) :: (x 13) :: (undef) :: (undef) :: (undef) :: (undef) :: (undef) :: (undef) :: (undef) :: (undef) :: (undef) :: (undef) :: (undef) :: (undef) :: (undef) :: (undef) :: (undef) :: (undef) :: (undef) :: (undef) :: []), []⟩ W') := fun v W' h1 h2 => hK' _ _ (hK v W' h1 h2)
          clear hK hK' hp hd
          go_simp
          exact HK.out _ _ (Below.refl _ _) rfl
        · refine wpOp_step (o := _) rfl fun K' hK' => ?_
          have HK : Hid (∀ v W', Below W.heap.size W W' → ((Mk.const [1] (.slice (some ⟨g2, o2, none⟩) is.length c3) : Mk)).P W.heap.size W'.heap.size W' v (upd x 2 v) → K' ⟨List.toArray ((Value.agg #[dx, dy, Value.slice (some { block := g2, off := o2 }) is.length c3, bv]) :: (Value.int IntKind.i64 (↑j + 1)) :: (Value.pointer (some { block := w.heap.size, off := 0 })) :: (undef) :: (Value.string { data := #[] }) :: (Value.string { data := #[] }) :: (x 14) :: (undef) :: (undef) :: (undef) :: (Value.int IntKind.i64 (↑j + 1)) :: (Value.pointer (some { block := w.heap.size, off := 2 })) :: (Value.slice (some { block := g2, off := o2 }) is.length c3) :: (Value.int IntKind.i64 ↑is.length) :: (Value.bool true) :: (Value.bool false) :: (Value.bool false) :: (Value.pointer (some { block := w.heap.size, off := 2 })) :: (Value.slice (some { block := g2, off := o2 }) is.length c3) :: (Value.int IntKind.i64 (↑j + 1)) :: (Value.int IntKind.i64 ↑j) :: (Value.pointer (some { block := g2, off := o2 + j * 3 })) :: (Value.pointer (some { block := g2, off := o2 + j * 3 })) :: (Value.int IntKind.i64 1) :: (Value.bool false) :: (Value.bool false) :: (Value.bool false) :: (Value.pointer (some { block := w.heap.size, off := 2 })) :: (Value.slice (some { block := g2, off := o2 }) is.length c3) :: (Value.int IntKind.i64 (↑j + 1)) :: (Value.int IntKind.i64 ↑j) :: (Value.pointer (some { block := g2, off := o2 + j * 3 })) :: (Value.pointer (some { block := g2, off := o2 + j * 3 + 2 })) :: (Value.slice (some { block := gp, off := op }) 2 sc) :: (Value.int IntKind.i64 2) :: (Value.bool false) :: (Value.bool false) :: (x 11) :: (x 0) :: (x 1) :: (v) :: (x 3) :: (x 4) :: (x 5) :: (x 6) :: (x 7) :: (x 8) :: (x 9) :: (x 10) :: (x 12) :: (x 13) :: (undef) :: (undef) :: (undef) :: (undef) :: (undef) :: (undef) :: (undef) :: (undef) :: (undef) :: (undef) :: (undef) :: (undef) :: (undef) :: (undef) :: (undef) :: (undef) :: (undef) :: (undef) :: []), []⟩ W') := fun v W' h1 h2 => hK' _ _ (hK v W' h1 h2)
          have e1 : x 1 = .pointer (some ⟨w.heap.size, 2, none⟩) := hp.post 1 (hd 1 (show 1 ∈ [1] from by decide))
          have bw := of_drew hp.bel
          obtain ⟨qb, qd, q0, q1, q2, q3, q4⟩ := HW.out W bw
          have k1 : W.cell? ⟨w.heap.size, 2, none⟩ = some (.slice (some ⟨g2, o2, none⟩) is.length c3) := qd.cell 2
          clear bw qb qd q0 q1 q2 q3 q4
          clear hK hK' hp hd
          simp only [e1] at HK ⊢
          go_simp
          exact HK.out _ _ (Below.refl _ _) rfl
        · refine wpOp_step (o := _) rfl fun K' hK' => ?_
          have HK : Hid (∀ v W', Below W.heap.size W W' → ((Mk.const [] (.int .i64 ((j : Int) + 1)) : Mk)).P W.heap.size W'.heap.size W' v (upd x 3 v) → K' ⟨List.toArray ((Value.agg #[dx, dy, Value.slice (some { block := g2, off := o2 }) is.length c3, bv]) :: (Value.int IntKind.i64 (↑j + 1)) :: (Value.pointer (some { block := w.heap.size, off := 0 })) :: (undef) :: (Value.string { data := #[] }) :: (Value.string { data := #[] }) :: (x 14) :: (undef) :: (undef) :: (undef) :: (Value.int IntKind.i64 (↑j + 1)) :: (Value.pointer (some { block := w.heap.size, off := 2 })) :: (Value.slice (some { block := g2, off := o2 }) is.length c3) :: (Value.int IntKind.i64 ↑is.length) :: (Value.bool true) :: (Value.bool false) :: (Value.bool false) :: (Value.pointer (some { block := w.heap.size, off := 2 })) :: (Value.slice (some { block := g2, off := o2 }) is.length c3) :: (Value.int IntKind.i64 (↑j + 1)) :: (Value.int IntKind.i64 ↑j) :: (Value.pointer (some { block := g2, off := o2 + j * 3 })) :: (Value.pointer (some { block := g2, off := o2 + j * 3 })) :: (Value.int IntKind.i64 1) :: (Value.bool false) :: (Value.bool false) :: (Value.bool false) :: (Value.pointer (some { block := w.heap.size, off := 2 })) :: (Value.slice (some { block := g2, off := o2 }) is.length c3) :: (Value.int IntKind.i64 (↑j + 1)) :: (Value.int IntKind.i64 ↑j) :: (Value.pointer (some { block := g2, off := o2 + j * 3 })) :: (Value.pointer (some { block := g2, off := o2 + j * 3 + 2 })) :: (Value.slice (some { block := gp, off := op }) 2 sc) :: (Value.int IntKind.i64 2) :: (Value.bool false) :: (Value.bool false) :: (x 11) :: (x 0) :: (x 1) :: (x 2) :: (v) :: (x 4) :: (x 5) :: (x 6) :: (x 7) :: (x 8) :: (x 9) :: (x 10) :: (x 12) :: (x 13) :: (undef) :: (undef) :: (undef) :: (undef) :: (undef) :: (undef) :: (undef) :: (undef) :: (undef) :: (undef) :: (undef) :: (undef) :: (undef) :: (undef) :: (undef) :: (undef) :: (undef) :: (undef) :: []), []⟩ W') := fun v W' h1 h2 => hK' _ _ (hK v W' h1 h2)
          clear hK hK' hp hd
          go_simp
          exact HK.out _ _ (Below.refl _ _) rfl
        · refine wpOp_step (o := _) rfl fun K' hK' => ?_
          have HK : Hid (∀ v W', Below W.heap.size W W' → ((Mk.const [3] (.int .i64 (j : Int)) : Mk)).P W.heap.size W'.heap.size W' v (upd x 4 v) → K' ⟨List.toArray ((Value.agg #[dx, dy, Value.slice (some { block := g2, off := o2 }) is.length c3, bv]) :: (Value.int IntKind.i64 (↑j + 1)) :: (Value.pointer (some { block := w.heap.size, off := 0 })) :: (undef) :: (Value.string { data := #[] }) :: (Value.string { data := #[] }) :: (x 14) :: (undef) :: (undef) :: (undef) :: (Value.int IntKind.i64 (↑j + 1)) :: (Value.pointer (some { block := w.heap.size, off := 2 })) :: (Value.slice (some { block := g2, off := o2 }) is.length c3) :: (Value.int IntKind.i64 ↑is.length) :: (Value.bool true) :: (Value.bool false) :: (Value.bool false) :: (Value.pointer (some { block := w.heap.size, off := 2 })) :: (Value.slice (some { block := g2, off := o2 }) is.length c3) :: (Value.int IntKind.i64 (↑j + 1)) :: (Value.int IntKind.i64 ↑j) :: (Value.pointer (some { block := g2, off := o2 + j * 3 })) :: (Value.pointer (some { block := g2, off := o2 + j * 3 })) :: (Value.int IntKind.i64 1) :: (Value.bool false) :: (Value.bool false) :: (Value.bool false) :: (Value.pointer (some { block := w.heap.size, off := 2 })) :: (Value.slice (some { block := g2, off := o2 }) is.length c3) :: (Value.int IntKind.i64 (↑j + 1)) :: (Value.int IntKind.i64 ↑j) :: (Value.pointer (some { block := g2, off := o2 + j * 3 })) :: (Value.pointer (some { block := g2, off := o2 + j * 3 + 2 })) :: (Value.slice (some { block := gp, off := op }) 2 sc) :: (Value.int IntKind.i64 2) :: (Value.bool false) :: (Value.bool false) :: (x 11) :: (x 0) :: (x 1) :: (x 2) :: (x 3) :: (v) :: (x 5) :: (x 6) :: (x 7) :: (x 8) :: (x 9) :: (x 10) :: (x 12) :: (x 13) :: (undef) :: (undef) :: (undef) :: (undef) :: (undef) :: (undef) :: (undef) :: (undef) :: (undef) :: (undef) :: (undef) :: (undef) :: (undef) :: (undef) :: (undef) :: (undef) :: (undef) :: (undef) :: []), []⟩ W') := fun v W' h1 h2 => hK' _ _ (hK v W' h1 h2)
          have e3 : x 3 = .int .i64 ((j : Int) + 1) := hp.post 3 (hd 3 (show 3 ∈ [3] from by decide))
          clear hK hK' hp hd
          simp only [e3] at HK ⊢
          go_simp
          exact HK.out _ _ (Below.refl _ _) rfl
        · refine wpOp_step (o := _) rfl fun K' hK' => ?_
          have HK : Hid (∀ v W', Below W.heap.size W W' → ((Mk.const [2, 4] (.pointer (some ⟨g2, o2 + j * 3, none⟩)) : Mk)).P W.heap.size W'.heap.size W' v (upd x 5 v) → K' ⟨List.toArray ((Value.agg #[dx, dy, Value.slice (some { block := g2, off := o2 }) is.length c3, bv]) :: (Value.int IntKind.i64 (↑j + 1)) :: (Value.pointer (some { block := w.heap.size, off := 0 })) :: (undef) :: (Value.string { data := #[] }) :: (Value.string { data := #[] }) :: (x 14) :: (undef) :: (undef) :: (undef) :: (Value.int IntKind.i64 (↑j + 1)) :: (Value.pointer (some { block := w.heap.size, off := 2 })) :: (Value.slice (some { block := g2, off := o2 }) is.length c3) :: (Value.int IntKind.i64 ↑is.length) :: (Value.bool true) :: (Value.bool false) :: (Value.bool false) :: (Value.pointer (some { block := w.heap.size, off := 2 })) :: (Value.slice (some { block := g2, off := o2 }) is.length c3) :: (Value.int IntKind.i64 (↑j + 1)) :: (Value.int IntKind.i64 ↑j) :: (Value.pointer (some { block := g2, off := o2 + j * 3 })) :: (Value.pointer (some { block := g2, off := o2 + j * 3 })) :: (Value.int IntKind.i64 1) :: (Value.bool false) :: (Value.bool false) :: (Value.bool false) :: (Value.pointer (some { block := w.heap.size, off := 2 })) :: (Value.slice (some { block := g2, off := o2 }) is.length c3) :: (Value.int IntKind.i64 (↑j + 1)) :: (Value.int IntKind.i64 ↑j) :: (Value.pointer (some { block := g2, off := o2 + j * 3 })) :: (Value.pointer (some { block := g2, off := o2 + j * 3 + 2 })) :: (Value.slice (some { block := gp, off := op }) 2 sc) :: (Value.int IntKind.i64 2) :: (Value.bool false) :: (Value.bool false) :: (x 11) :: (x 0) :: (x 1) :: (x 2) :: (x 3) :: (x 4) :: (v) :: (x 6) :: (x 7) :: (x 8) :: (x 9) :: (x 10) :: (x 12) :: (x 13) :: (undef) :: (undef) :: (undef) :: (undef) :: (undef) :: (undef) :: (undef) :: (undef) :: (undef) :: (undef) :: (undef) :: (undef) :: (undef) :: (undef) :: (undef) :: (undef) :: (undef) :: (undef) :: []), []⟩ W') := fun v W' h1 h2 => hK' _ _ (hK v W' h1 h2)
          have e2 : x 2 = .slice (some ⟨g2, o2, none⟩) is.length c3 := hp.post 2 (hd 2 (show 2 ∈ [2, 4] from by decide))
          have e4 : x 4 = .int .i64 (j : Int) := hp.post 4 (hd 4 (show 4 ∈ [2, 4] from by decide))
          clear hK hK' hp hd
          simp only [e2, e4] at HK ⊢
          go_simp
          exact HK.out _ _ (Below.refl _ _) rfl
        · refine wpOp_step (o := _) rfl fun K' hK' => ?_
          have HK : Hid (∀ v W', Below W.heap.size W W' → ((Mk.const [5] (.pointer (some ⟨g2, o2 + j * 3 + 2, none⟩)) : Mk)).P W.heap.size W'.heap.size W' v (upd x 6 v) → K' ⟨List.toArray ((Value.agg #[dx, dy, Value.slice (some { block := g2, off := o2 }) is.length c3, bv]) :: (Value.int IntKind.i64 (↑j + 1)) :: (Value.pointer (some { block := w.heap.size, off := 0 })) :: (undef) :: (Value.string { data := #[] }) :: (Value.string { data := #[] }) :: (x 14) :: (undef) :: (undef) :: (undef) :: (Value.int IntKind.i64 (↑j + 1)) :: (Value.pointer (some { block := w.heap.size, off := 2 })) :: (Value.slice (some { block := g2, off := o2 }) is.length c3) :: (Value.int IntKind.i64 ↑is.length) :: (Value.bool true) :: (Value.bool false) :: (Value.bool false) :: (Value.pointer (some { block := w.heap.size, off := 2 })) :: (Value.slice (some { block := g2, off := o2 }) is.length c3) :: (Value.int IntKind.i64 (↑j + 1)) :: (Value.int IntKind.i64 ↑j) :: (Value.pointer (some { block := g2, off := o2 + j * 3 })) :: (Value.pointer (some { block := g2, off := o2 + j * 3 })) :: (Value.int IntKind.i64 1) :: (Value.bool false) :: (Value.bool false) :: (Value.bool false) :: (Value.pointer (some { block := w.heap.size, off := 2 })) :: (Value.slice (some { block := g2, off := o2 }) is.length c3) :: (Value.int IntKind.i64 (↑j + 1)) :: (Value.int IntKind.i64 ↑j) :: (Value.pointer (some { block := g2, off := o2 + j * 3 })) :: (Value.pointer (some { block := g2, off := o2 + j * 3 + 2 })) :: (Value.slice (some { block := gp, off := op }) 2 sc) :: (Value.int IntKind.i64 2) :: (Value.bool false) :: (Value.bool false) :: (x 11) :: (x 0) :: (x 1) :: (x 2) :: (x 3) :: (x 4) :: (x 5) :: (v) :: (x 7) :: (x 8) :: (x 9) :: (x 10) :: (x 12) :: (x 13) :: (undef) :: (undef) :: (undef) :: (undef) :: (undef) :: (undef) :: (undef) :: (undef) :: (undef) :: (undef) :: (undef) :: (undef) :: (undef) :: (undef) :: (undef) :: (undef) :: (undef) :: (undef) :: []), []⟩ W') := fun v W' h1 h2 => hK' _ _ (hK v W' h1 h2)
          have e5 : x 5 = .pointer (some ⟨g2, o2 + j * 3, none⟩) := hp.post 5 (hd 5 (show 5 ∈ [5] from by decide))
          clear hK hK' hp hd
          simp only [e5] at HK ⊢
          go_simp
          exact HK.out _ _ (Below.refl _ _) rfl
        · refine wpOp_step (o := _) rfl fun K' hK' => ?_
          have HK : Hid (∀ v W', Below W.heap.size W W' → ((Mk.const [6] (.slice (some ⟨gp, op, none⟩) 2 sc) : Mk)).P W.heap.size W'.heap.size W' v (upd x 7 v) → K' ⟨List.toArray ((Value.agg #[dx, dy, Value.slice (some { block := g2, off := o2 }) is.length c3, bv]) :: (Value.int IntKind.i64 (↑j + 1)) :: (Value.pointer (some { block := w.heap.size, off := 0 })) :: (undef) :: (Value.string { data := #[] }) :: (Value.string { data := #[] }) :: (x 14) :: (undef) :: (undef) :: (undef) :: (Value.int IntKind.i64 (↑j + 1)) :: (Value.pointer (some { block := w.heap.size, off := 2 })) :: (Value.slice (some { block := g2, off := o2 }) is.length c3) :: (Value.int IntKind.i64 ↑is.length) :: (Value.bool true) :: (Value.bool false) :: (Value.bool false) :: (Value.pointer (some { block := w.heap.size, off := 2 })) :: (Value.slice (some { block := g2, off := o2 }) is.length c3) :: (Value.int IntKind.i64 (↑j + 1)) :: (Value.int IntKind.i64 ↑j) :: (Value.pointer (some { block := g2, off := o2 + j * 3 })) :: (Value.pointer (some { block := g2, off := o2 + j * 3 })) :: (Value.int IntKind.i64 1) :: (Value.bool false) :: (Value.bool false) :: (Value.bool false) :: (Value.pointer (some { block := w.heap.size, off := 2 })) :: (Value.slice (some { block := g2, off := o2 }) is.length c3) :: (Value.int IntKind.i64 (↑j + 1)) :: (Value.int IntKind.i64 ↑j) :: (Value.pointer (some { block := g2, off := o2 + j * 3 })) :: (Value.pointer (some { block := g2, off := o2 + j * 3 + 2 })) :: (Value.slice (some { block := gp, off := op }) 2 sc) :: (Value.int IntKind.i64 2) :: (Value.bool false) :: (Value.bool false) :: (x 11) :: (x 0) :: (x 1) :: (x 2) :: (x 3) :: (x 4) :: (x 5) :: (x 6) :: (v) :: (x 8) :: (x 9) :: (x 10) :: (x 12) :: (x 13) :: (undef) :: (undef) :: (undef) :: (undef) :: (undef) :: (undef) :: (undef) :: (undef) :: (undef) :: (undef) :: (undef) :: (undef) :: (undef) :: (undef) :: (undef) :: (undef) :: (undef) :: (undef) :: []), []⟩ W') := fun v W' h1 h2 => hK' _ _ (hK v W' h1 h2)
          have e6 : x 6 = .pointer (some ⟨g2, o2 + j * 3 + 2, none⟩) := hp.post 6 (hd 6 (show 6 ∈ [6] from by decide))
          have bw := of_drew hp.bel
          obtain ⟨qb, qd, q0, q1, q2, q3, q4⟩ := HW.out W bw
          clear bw qb qd q0 q1 q3 q4
          clear hK hK' hp hd
          simp only [e6] at HK ⊢
          go_simp
          exact HK.out _ _ (Below.refl _ _) rfl
        · refine wpOp_step (o := _) rfl fun K' hK' => ?_
          have HK : Hid (∀ v W', Below W.heap.size W W' → ((Mk.const [7] (.pointer (some ⟨gp, op, none⟩)) : Mk)).P W.heap.size W'.heap.size W' v (upd x 8 v) → K' ⟨List.toArray ((Value.agg #[dx, dy, Value.slice (some { block := g2, off := o2 }) is.length c3, bv]) :: (Value.int IntKind.i64 (↑j + 1)) :: (Value.pointer (some { block := w.heap.size, off := 0 })) :: (undef) :: (Value.string { data := #[] }) :: (Value.string { data := #[] }) :: (x 14) :: (undef) :: (undef) :: (undef) :: (Value.int IntKind.i64 (↑j + 1)) :: (Value.pointer (some { block := w.heap.size, off := 2 })) :: (Value.slice (some { block := g2, off := o2 }) is.length c3) :: (Value.int IntKind.i64 ↑is.length) :: (Value.bool true) :: (Value.bool false) :: (Value.bool false) :: (Value.pointer (some { block := w.heap.size, off := 2 })) :: (Value.slice (some { block := g2, off := o2 }) is.length c3) :: (Value.int IntKind.i64 (↑j + 1)) :: (Value.int IntKind.i64 ↑j) :: (Value.pointer (some { block := g2, off := o2 + j * 3 })) :: (Value.pointer (some { block := g2, off := o2 + j * 3 })) :: (Value.int IntKind.i64 1) :: (Value.bool false) :: (Value.bool false) :: (Value.bool false) :: (Value.pointer (some { block := w.heap.size, off := 2 })) :: (Value.slice (some { block := g2, off := o2 }) is.length c3) :: (Value.int IntKind.i64 (↑j + 1)) :: (Value.int IntKind.i64 ↑j) :: (Value.pointer (some { block := g2, off := o2 + j * 3 })) :: (Value.pointer (some { block := g2, off := o2 + j * 3 + 2 })) :: (Value.slice (some { block := gp, off := op }) 2 sc) :: (Value.int IntKind.i64 2) :: (Value.bool false) :: (Value.bool false) :: (x 11) :: (x 0) :: (x 1) :: (x 2) :: (x 3) :: (x 4) :: (x 5) :: (x 6) :: (x 7) :: (v) :: (x 9) :: (x 10) :: (x 12) :: (x 13) :: (undef) :: (undef) :: (undef) :: (undef) :: (undef) :: (undef) :: (undef) :: (undef) :: (undef) :: (undef) :: (undef) :: (undef) :: (undef) :: (undef) :: (undef) :: (undef) :: (undef) :: (undef) :: []), []⟩ W') := fun v W' h1 h2 => hK' _ _ (hK v W' h1 h2)
          have e7 : x 7 = .slice (some ⟨gp, op, none⟩) 2 sc := hp.post 7 (hd 7 (show 7 ∈ [7] from by decide))
          clear hK hK' hp hd
          simp only [e7] at HK ⊢
          go_simp
          exact HK.out _ _ (Below.refl _ _) rfl
        · refine wpOp_step (o := _) rfl fun K' hK' => ?_
          have HK : Hid (∀ v W', Below W.heap.size W W' → ((Mk.const [8] (.int .i64 p0) : Mk)).P W.heap.size W'.heap.size W' v (upd x 9 v) → K' ⟨List.toArray ((Value.agg #[dx, dy, Value.slice (some { block := g2, off := o2 }) is.length c3, bv]) :: (Value.int IntKind.i64 (↑j + 1)) :: (Value.pointer (some { block := w.heap.size, off := 0 })) :: (undef) :: (Value.string { data := #[] }) :: (Value.string { data := #[] }) :: (x 14) :: (undef) :: (undef) :: (undef) :: (Value.int IntKind.i64 (↑j + 1)) :: (Value.pointer (some { block := w.heap.size, off := 2 })) :: (Value.slice (some { block := g2, off := o2 }) is.length c3) :: (Value.int IntKind.i64 ↑is.length) :: (Value.bool true) :: (Value.bool false) :: (Value.bool false) :: (Value.pointer (some { block := w.heap.size, off := 2 })) :: (Value.slice (some { block := g2, off := o2 }) is.length c3) :: (Value.int IntKind.i64 (↑j + 1)) :: (Value.int IntKind.i64 ↑j) :: (Value.pointer (some { block := g2, off := o2 + j * 3 })) :: (Value.pointer (some { block := g2, off := o2 + j * 3 })) :: (Value.int IntKind.i64 1) :: (Value.bool false) :: (Value.bool false) :: (Value.bool false) :: (Value.pointer (some { block := w.heap.size, off := 2 })) :: (Value.slice (some { block := g2, off := o2 }) is.length c3) :: (Value.int IntKind.i64 (↑j + 1)) :: (Value.int IntKind.i64 ↑j) :: (Value.pointer (some { block := g2, off := o2 + j * 3 })) :: (Value.pointer (some { block := g2, off := o2 + j * 3 + 2 })) :: (Value.slice (some { block := gp, off := op }) 2 sc) :: (Value.int IntKind.i64 2) :: (Value.bool false) :: (Value.bool false) :: (x 11) :: (x 0) :: (x 1) :: (x 2) :: (x 3) :: (x 4) :: (x 5) :: (x 6) :: (x 7) :: (x 8) :: (v) :: (x 10) :: (x 12) :: (x 13) :: (undef) :: (undef) :: (undef) :: (undef) :: (undef) :: (undef) :: (undef) :: (undef) :: (undef) :: (undef) :: (undef) :: (undef) :: (undef) :: (undef) :: (undef) :: (undef) :: (undef) :: (undef) :: []), []⟩ W') := fun v W' h1 h2 => hK' _ _ (hK v W' h1 h2)
          have e8 : x 8 = .pointer (some ⟨gp, op, none⟩) := hp.post 8 (hd 8 (show 8 ∈ [8] from by decide))
          have bw := of_drew hp.bel
          obtain ⟨qb, qd, q0, q1, q2, q3, q4⟩ := HW.out W bw
          clear bw qb qd q0 q1 q2 q4
          clear hK hK' hp hd
          simp only [e8] at HK ⊢
          go_simp
          exact HK.out _ _ (Below.refl _ _) rfl
        · refine wpOp_step (o := _) rfl fun K' hK' => ?_
          have HK : Hid (∀ v W', Below W.heap.size W W' → (MkT2 [0, 9] (BlkR w bd btx bss F) BlkR.below).P W.heap.size W'.heap.size W' v (upd x 10 v) → K' ⟨List.toArray ((Value.agg #[dx, dy, Value.slice (some { block := g2, off := o2 }) is.length c3, bv]) :: (Value.int IntKind.i64 (↑j + 1)) :: (Value.pointer (some { block := w.heap.size, off := 0 })) :: (undef) :: (Value.string { data := #[] }) :: (Value.string { data := #[] }) :: (x 14) :: (undef) :: (undef) :: (undef) :: (Value.int IntKind.i64 (↑j + 1)) :: (Value.pointer (some { block := w.heap.size, off := 2 })) :: (Value.slice (some { block := g2, off := o2 }) is.length c3) :: (Value.int IntKind.i64 ↑is.length) :: (Value.bool true) :: (Value.bool false) :: (Value.bool false) :: (Value.pointer (some { block := w.heap.size, off := 2 })) :: (Value.slice (some { block := g2, off := o2 }) is.length c3) :: (Value.int IntKind.i64 (↑j + 1)) :: (Value.int IntKind.i64 ↑j) :: (Value.pointer (some { block := g2, off := o2 + j * 3 })) :: (Value.pointer (some { block := g2, off := o2 + j * 3 })) :: (Value.int IntKind.i64 1) :: (Value.bool false) :: (Value.bool false) :: (Value.bool false) :: (Value.pointer (some { block := w.heap.size, off := 2 })) :: (Value.slice (some { block := g2, off := o2 }) is.length c3) :: (Value.int IntKind.i64 (↑j + 1)) :: (Value.int IntKind.i64 ↑j) :: (Value.pointer (some { block := g2, off := o2 + j * 3 })) :: (Value.pointer (some { block := g2, off := o2 + j * 3 + 2 })) :: (Value.slice (some { block := gp, off := op }) 2 sc) :: (Value.int IntKind.i64 2) :: (Value.bool false) :: (Value.bool false) :: (x 11) :: (x 0) :: (x 1) :: (x 2) :: (x 3) :: (x 4) :: (x 5) :: (x 6) :: (x 7) :: (x 8) :: (x 9) :: (v) :: (x 12) :: (x 13) :: (undef) :: (undef) :: (undef) :: (undef) :: (undef) :: (undef) :: (undef) :: (undef) :: (undef) :: (undef) :: (undef) :: (undef) :: (undef) :: (undef) :: (undef) :: (undef) :: (undef) :: (undef) :: []), []⟩ W') := fun v W' h1 h2 => hK' _ _ (hK v W' h1 h2)
          have e0 : x 0 = .agg #[dx, dy, .slice (some ⟨g2, o2, none⟩) is.length c3, bv] := hp.post 0 (hd 0 (show 0 ∈ [0, 9] from by decide))
          have e9 : x 9 = .int .i64 p0 := hp.post 9 (hd 9 (show 9 ∈ [0, 9] from by decide))
          have dr := (HW.out W (of_drew hp.bel)).1
          clear hK hK' hp hd
          simp only [e0, e9] at HK ⊢
          clear e0 e9
          go_simp
          refine (CB0.out W dr).mono ?_
          rintro e w6 ⟨sv, rfl, R6, B6⟩
          obtain ⟨ba, bc, rfl, hR6⟩ := R6
          go_simp
          exact HK.out _ _ B6 ⟨_, _, rfl, ba, bc, rfl, rfl, ba, bc, rfl, hR6⟩
        · refine wpOp_step (o := _) rfl fun K' hK' => ?_
          have HK : Hid (∀ v W', Below W.heap.size W W' → (MkMv 10).P W.heap.size W'.heap.size W' v (upd x 11 v) → K' ⟨List.toArray ((Value.agg #[dx, dy, Value.slice (some { block := g2, off := o2 }) is.length c3, bv]) :: (Value.int IntKind.i64 (↑j + 1)) :: (Value.pointer (some { block := w.heap.size, off := 0 })) :: (undef) :: (Value.string { data := #[] }) :: (Value.string { data := #[] }) :: (x 14) :: (undef) :: (undef) :: (undef) :: (Value.int IntKind.i64 (↑j + 1)) :: (Value.pointer (some { block := w.heap.size, off := 2 })) :: (Value.slice (some { block := g2, off := o2 }) is.length c3) :: (Value.int IntKind.i64 ↑is.length) :: (Value.bool true) :: (Value.bool false) :: (Value.bool false) :: (Value.pointer (some { block := w.heap.size, off := 2 })) :: (Value.slice (some { block := g2, off := o2 }) is.length c3) :: (Value.int IntKind.i64 (↑j + 1)) :: (Value.int IntKind.i64 ↑j) :: (Value.pointer (some { block := g2, off := o2 + j * 3 })) :: (Value.pointer (some { block := g2, off := o2 + j * 3 })) :: (Value.int IntKind.i64 1) :: (Value.bool false) :: (Value.bool false) :: (Value.bool false) :: (Value.pointer (some { block := w.heap.size, off := 2 })) :: (Value.slice (some { block := g2, off := o2 }) is.length c3) :: (Value.int IntKind.i64 (↑j + 1)) :: (Value.int IntKind.i64 ↑j) :: (Value.pointer (some { block := g2, off := o2 + j * 3 })) :: (Value.pointer (some { block := g2, off := o2 + j * 3 + 2 })) :: (Value.slice (some { block := gp, off := op }) 2 sc) :: (Value.int IntKind.i64 2) :: (Value.bool false) :: (Value.bool false) :: (v) :: (x 0) :: (x 1) :: (x 2) :: (x 3) :: (x 4) :: (x 5) :: (x 6) :: (x 7) :: (x 8) :: (x 9) :: (x 10) :: (x 12) :: (x 13) :: (undef) :: (undef) :: (undef) :: (undef) :: (undef) :: (undef) :: (undef) :: (undef) :: (undef) :: (undef) :: (undef) :: (undef) :: (undef) :: (undef) :: (undef) :: (undef) :: (undef) :: (undef) :: []), []⟩ W') := fun v W' h1 h2 => hK' _ _ (hK v W' h1 h2)
          have e10 : ∃ a r, x 10 = .tuple #[a, r] ∧ BlkR w bd btx bss F (iw 10).1 (iw 10).2 W a r := hp.post 10 (hd 10 (show 10 ∈ [10] from by decide))
          clear hK hK' hp hd
          obtain ⟨a, r, e10, -⟩ := e10
          have ea := hide e10
          simp only [e10] at HK ⊢
          clear e10
          go_simp
          exact HK.out _ _ (Below.refl _ _) ⟨ea.out, a, r, rfl⟩
        · refine wpOp_step (o := _) rfl fun K' hK' => ?_
          have HK : Hid (∀ v W', Below W.heap.size W W' → (MkFs 11).P W.heap.size W'.heap.size W' v (upd x 12 v) → K' ⟨List.toArray ((Value.agg #[dx, dy, Value.slice (some { block := g2, off := o2 }) is.length c3, bv]) :: (Value.int IntKind.i64 (↑j + 1)) :: (Value.pointer (some { block := w.heap.size, off := 0 })) :: (undef) :: (Value.string { data := #[] }) :: (Value.string { data := #[] }) :: (x 14) :: (undef) :: (undef) :: (undef) :: (Value.int IntKind.i64 (↑j + 1)) :: (Value.pointer (some { block := w.heap.size, off := 2 })) :: (Value.slice (some { block := g2, off := o2 }) is.length c3) :: (Value.int IntKind.i64 ↑is.length) :: (Value.bool true) :: (Value.bool false) :: (Value.bool false) :: (Value.pointer (some { block := w.heap.size, off := 2 })) :: (Value.slice (some { block := g2, off := o2 }) is.length c3) :: (Value.int IntKind.i64 (↑j + 1)) :: (Value.int IntKind.i64 ↑j) :: (Value.pointer (some { block := g2, off := o2 + j * 3 })) :: (Value.pointer (some { block := g2, off := o2 + j * 3 })) :: (Value.int IntKind.i64 1) :: (Value.bool false) :: (Value.bool false) :: (Value.bool false) :: (Value.pointer (some { block := w.heap.size, off := 2 })) :: (Value.slice (some { block := g2, off := o2 }) is.length c3) :: (Value.int IntKind.i64 (↑j + 1)) :: (Value.int IntKind.i64 ↑j) :: (Value.pointer (some { block := g2, off := o2 + j * 3 })) :: (Value.pointer (some { block := g2, off := o2 + j * 3 + 2 })) :: (Value.slice (some { block := gp, off := op }) 2 sc) :: (Value.int IntKind.i64 2) :: (Value.bool false) :: (Value.bool false) :: (x 11) :: (x 0) :: (x 1) :: (x 2) :: (x 3) :: (x 4) :: (x 5) :: (x 6) :: (x 7) :: (x 8) :: (x 9) :: (x 10) :: (v) :: (x 13) :: (undef) :: (undef) :: (undef) :: (undef) :: (undef) :: (undef) :: (undef) :: (undef) :: (undef) :: (undef) :: (undef) :: (undef) :: (undef) :: (undef) :: (undef) :: (undef) :: (undef) :: (undef) :: []), []⟩ W') := fun v W' h1 h2 => hK' _ _ (hK v W' h1 h2)
          have e11 : x 10 = x 11 ∧ ∃ a r, x 11 = .tuple #[a, r] := hp.post 11 (hd 11 (show 11 ∈ [11] from by decide))
          clear hK hK' hp hd
          obtain ⟨-, a, r, e11⟩ := e11
          have ea : Hid (a = fstOf (x 11)) := by rw [e11]; rfl
          simp only [e11] at HK ⊢
          clear e11
          go_simp
          exact HK.out _ _ (Below.refl _ _) ea.out
        · refine wpOp_step (o := _) rfl fun K' hK' => ?_
          have HK : Hid (∀ v W', Below W.heap.size W W' → (MkSd 11).P W.heap.size W'.heap.size W' v (upd x 13 v) → K' ⟨List.toArray ((Value.agg #[dx, dy, Value.slice (some { block := g2, off := o2 }) is.length c3, bv]) :: (Value.int IntKind.i64 (↑j + 1)) :: (Value.pointer (some { block := w.heap.size, off := 0 })) :: (undef) :: (Value.string { data := #[] }) :: (Value.string { data := #[] }) :: (x 14) :: (undef) :: (undef) :: (undef) :: (Value.int IntKind.i64 (↑j + 1)) :: (Value.pointer (some { block := w.heap.size, off := 2 })) :: (Value.slice (some { block := g2, off := o2 }) is.length c3) :: (Value.int IntKind.i64 ↑is.length) :: (Value.bool true) :: (Value.bool false) :: (Value.bool false) :: (Value.pointer (some { block := w.heap.size, off := 2 })) :: (Value.slice (some { block := g2, off := o2 }) is.length c3) :: (Value.int IntKind.i64 (↑j + 1)) :: (Value.int IntKind.i64 ↑j) :: (Value.pointer (some { block := g2, off := o2 + j * 3 })) :: (Value.pointer (some { block := g2, off := o2 + j * 3 })) :: (Value.int IntKind.i64 1) :: (Value.bool false) :: (Value.bool false) :: (Value.bool false) :: (Value.pointer (some { block := w.heap.size, off := 2 })) :: (Value.slice (some { block := g2, off := o2 }) is.length c3) :: (Value.int IntKind.i64 (↑j + 1)) :: (Value.int IntKind.i64 ↑j) :: (Value.pointer (some { block := g2, off := o2 + j * 3 })) :: (Value.pointer (some { block := g2, off := o2 + j * 3 + 2 })) :: (Value.slice (some { block := gp, off := op }) 2 sc) :: (Value.int IntKind.i64 2) :: (Value.bool false) :: (Value.bool false) :: (x 11) :: (x 0) :: (x 1) :: (x 2) :: (x 3) :: (x 4) :: (x 5) :: (x 6) :: (x 7) :: (x 8) :: (x 9) :: (x 10) :: (x 12) :: (v) :: (undef) :: (undef) :: (undef) :: (undef) :: (undef) :: (undef) :: (undef) :: (undef) :: (undef) :: (undef) :: (undef) :: (undef) :: (undef) :: (undef) :: (undef) :: (undef) :: (undef) :: (undef) :: []), []⟩ W') := fun v W' h1 h2 => hK' _ _ (hK v W' h1 h2)
          have e11 : x 10 = x 11 ∧ ∃ a r, x 11 = .tuple #[a, r] := hp.post 11 (hd 11 (show 11 ∈ [11] from by decide))
          clear hK hK' hp hd
          obtain ⟨-, a, r, e11⟩ := e11
          have ea : Hid (r = sndOf (x 11)) := by rw [e11]; rfl
          simp only [e11] at HK ⊢
          clear e11
          go_simp
          exact HK.out _ _ (Below.refl _ _) ea.out
        · refine wpOp_step (o := _) rfl fun K' hK' => ?_
          have HK : Hid (∀ v W', Below W.heap.size W W' → (MkW 84 #[.bool false, .slice none 0 0, .string ⟨#[]⟩]).P W.heap.size W'.heap.size W' v (upd x 14 v) → K' ⟨List.toArray ((Value.agg #[dx, dy, Value.slice (some { block := g2, off := o2 }) is.length c3, bv]) :: (Value.int IntKind.i64 (↑j + 1)) :: (Value.pointer (some { block := w.heap.size, off := 0 })) :: (undef) :: (Value.string { data := #[] }) :: (Value.string { data := #[] }) :: (v) :: (undef) :: (undef) :: (undef) :: (Value.int IntKind.i64 (↑j + 1)) :: (Value.pointer (some { block := w.heap.size, off := 2 })) :: (Value.slice (some { block := g2, off := o2 }) is.length c3) :: (Value.int IntKind.i64 ↑is.length) :: (Value.bool true) :: (Value.bool false) :: (Value.bool false) :: (Value.pointer (some { block := w.heap.size, off := 2 })) :: (Value.slice (some { block := g2, off := o2 }) is.length c3) :: (Value.int IntKind.i64 (↑j + 1)) :: (Value.int IntKind.i64 ↑j) :: (Value.pointer (some { block := g2, off := o2 + j * 3 })) :: (Value.pointer (some { block := g2, off := o2 + j * 3 })) :: (Value.int IntKind.i64 1) :: (Value.bool false) :: (Value.bool false) :: (Value.bool false) :: (Value.pointer (some { block := w.heap.size, off := 2 })) :: (Value.slice (some { block := g2, off := o2 }) is.length c3) :: (Value.int IntKind.i64 (↑j + 1)) :: (Value.int IntKind.i64 ↑j) :: (Value.pointer (some { block := g2, off := o2 + j * 3 })) :: (Value.pointer (some { block := g2, off := o2 + j * 3 + 2 })) :: (Value.slice (some { block := gp, off := op }) 2 sc) :: (Value.int IntKind.i64 2) :: (Value.bool false) :: (Value.bool false) :: (x 11) :: (x 0) :: (x 1) :: (x 2) :: (x 3) :: (x 4) :: (x 5) :: (x 6) :: (x 7) :: (x 8) :: (x 9) :: (x 10) :: (x 12) :: (x 13) :: (undef) :: (undef) :: (undef) :: (undef) :: (undef) :: (undef) :: (undef) :: (undef) :: (undef) :: (undef) :: (undef) :: (undef) :: (undef) :: (undef) :: (undef) :: (undef) :: (undef) :: (undef) :: []), []⟩ W') := fun v W' h1 h2 => hK' _ _ (hK v W' h1 h2)
          clear hK hK' hp hd
          go_simp
          exact HK.out _ _ ((Below.refl _ W).alloc (Nat.le_refl _) _) ⟨rfl, by simp, AtC.new W 84 _⟩
      · intro x iw W hp
        obtain ⟨a, r, e10, R10⟩ := hp.post 10 (by decide)
        obtain ⟨e11, -⟩ := hp.post 11 (by decide)
        have e12 : x 12 = fstOf (x 11) := hp.post 12 (by decide)
        have e13 : x 13 = sndOf (x 11) := hp.post 13 (by decide)
        obtain ⟨e14, z14, A14⟩ := hp.post 14 (by decide)
        have l14 := hp.lo 14 (by decide)
        have lc := hp.lo 10 (by decide)
        have bel := of_drew hp.bel
        have ap := hp.apart 10 (by decide) 14 (by decide) (by decide)
        rw [← e11, e10] at e12
        rw [← e11, e10] at e13
        replace e13 : x 13 = r := e13
        rw [e10] at e11
        replace e11 := e11.symm
        replace e12 : x 12 = a := e12
        have y0 : W.cell? ⟨(iw 14).1, 0, none⟩ = some (.bool false) := A14.cell 0
        have f0 := A14.frozen 0
        have y1 : W.cell? ⟨(iw 14).1, 1, none⟩ = some (.slice none 0 0) := A14.cell 1
        have f1 := A14.frozen 1
        have y2 : W.cell? ⟨(iw 14).1, 2, none⟩ = some (.string ⟨#[]⟩) := A14.cell 2
        have f2 := A14.frozen 2
        obtain ⟨ba, bc, rfl, rfl, hR⟩ := R10
        have hb14 : w0.heap.size ≤ (iw 14).1 := l14.1
        have HFI : Hid (AtC W (iw 14).1 84 #[.bool false, .slice none 0 0, .string ⟨#[]⟩] ∧ Below w0.heap.size w0 W ∧ w0.heap.size ≤ (iw 14).1) := ⟨A14, bel, hb14⟩
        clear hp A14 hR bel ap lc l14 z14 hb14
        simp only [e11, e12, e14, e13] at *
        generalize (iw 14).1 = bw at *
        go_wp2_with fail
        try rw [List.filterMap_nil]
        try go_wp2_with fail
        go_meet
        exact ⟨bw, ba, bc, rfl, rfl, ((HFI.out.1.set 0 _).set 1 _).set 2 _, ((HFI.out.2.1.setCell (p := ⟨bw, 0, none⟩) HFI.out.2.2 _).setCell (p := ⟨bw, 1, none⟩) HFI.out.2.2 _).setCell (p := ⟨bw, 2, none⟩) HFI.out.2.2 _, HFI.out.2.2⟩
      · intro qa hqa l hl x iw W hp
        simp only [List.mem_cons, List.not_mem_nil, or_false] at hqa
        subst hqa
        simp only [List.mem_cons, List.not_mem_nil, or_false] at hl
        obtain ⟨a, r, e10, R10⟩ := hp.post 10 (by decide)
        obtain ⟨e11, -⟩ := hp.post 11 (by decide)
        have e12 : x 12 = fstOf (x 11) := hp.post 12 (by decide)
        obtain ⟨e14, z14, A14⟩ := hp.post 14 (by decide)
        have l14 := hp.lo 14 (by decide)
        have lc := hp.lo 10 (by decide)
        have bel := of_drew hp.bel
        have ap := hp.apart 10 (by decide) 14 (by decide) (by decide)
        rw [← e11, e10] at e12
        rw [e10] at e11
        replace e11 := e11.symm
        replace e12 : x 12 = a := e12
        have y0 : W.cell? ⟨(iw 14).1, 0, none⟩ = some (.bool false) := A14.cell 0
        have f0 := A14.frozen 0
        have y1 : W.cell? ⟨(iw 14).1, 1, none⟩ = some (.slice none 0 0) := A14.cell 1
        have f1 := A14.frozen 1
        have y2 : W.cell? ⟨(iw 14).1, 2, none⟩ = some (.string ⟨#[]⟩) := A14.cell 2
        have f2 := A14.frozen 2
        obtain ⟨ba, bc, rfl, rfl, hR⟩ := R10
        have hb14 : w0.heap.size ≤ (iw 14).1 := l14.1
        have HFI : Hid (AtC W (iw 14).1 84 #[.bool false, .slice none 0 0, .string ⟨#[]⟩] ∧ Below w0.heap.size w0 W ∧ w0.heap.size ≤ (iw 14).1) := ⟨A14, bel, hb14⟩
        clear hp A14 hR bel ap lc l14 z14 hb14
        simp only [e11, e12, e14] at *
        generalize (iw 14).1 = bw at *
        rcases hl with rfl | rfl
        · go_wp2_with fail
          try rw [List.filterMap_nil]
          try go_wp2_with fail
          go_meet
          exact ⟨bw, ba, bc, rfl, rfl, ((HFI.out.1.set 0 _).set 1 _).set 2 _, ((HFI.out.2.1.setCell (p := ⟨bw, 0, none⟩) HFI.out.2.2 _).setCell (p := ⟨bw, 1, none⟩) HFI.out.2.2 _).setCell (p := ⟨bw, 2, none⟩) HFI.out.2.2 _, HFI.out.2.2⟩
        · go_wp2_with fail
          try rw [List.filterMap_nil]
          try go_wp2_with fail
          go_meet
          exact ⟨bw, ba, bc, rfl, rfl, ((HFI.out.1.set 0 _).set 1 _).set 2 _, ((HFI.out.2.1.setCell (p := ⟨bw, 0, none⟩) HFI.out.2.2 _).setCell (p := ⟨bw, 1, none⟩) HFI.out.2.2 _).setCell (p := ⟨bw, 2, none⟩) HFI.out.2.2 _, HFI.out.2.2⟩
    case rest =>
      obtain ⟨bw, ba, bc, rfl, rfl, Aw, Bw, lw⟩ := hcut
      obtain ⟨w1, hw1⟩ : ∃ w1, w1 = wc := ⟨_, rfl⟩
      subst hw1
      have HW1 : Hid (∀ W, Below w1.heap.size w1 W → Below w.heap.size w W ∧ AtC W w.heap.size 36 #[dx, dy, .slice (some ⟨g2, o2, none⟩) is.length c3, bv] ∧ W.cell? ⟨g2, o2 + j * 3, none⟩ = some (.int .i64 1) ∧ W.cell? ⟨g2, o2 + j * 3 + 1, none⟩ = some (.int .i64 ln) ∧ W.cell? ⟨g2, o2 + j * 3 + 2, none⟩ = some (.slice (some ⟨gp, op, none⟩) 2 sc) ∧ W.cell? ⟨gp, op, none⟩ = some (.int .i64 p0) ∧ W.cell? ⟨gp, op + 1, none⟩ = some (.int .i64 p1)) := fun W b => HW.out W (Bw.trans (b.mono Bw.size))
      have HA : Hid (∀ W, Below w1.heap.size w1 W → W.cell? ⟨bw, 2, none⟩ = some (.string btx)) := fun W b => (Aw.over b).cell 2
      have HLT := hide (And.intro Aw.lt (And.intro lw hsz0))
      clear Aw Bw HW CB0 lw
      go_upto_region 4 with fail
      go_cut [8, 9] from 51 to 64 (fun bv ok wx => ∃ (bw : Nat) (ba : Option Addr) (bc : Nat), bv = .pointer (some ⟨bw, 0, none⟩) ∧ ok = .bool G ∧ AtC wx bw 84 #[.bool cd, .slice ba css.length bc, .string ctx] ∧ Below w1.heap.size w1 wx ∧ w1.heap.size ≤ bw)
      case first =>
        refine wp_region_alt (by kernel_rfl) [0, 1, 2, 3, 4, 5, 6, 7, 8, 9, 10, 11, 12, 13, 14] [15, 16] [([0, 1, 2, 3, 4, 5, 6, 7, 8, 9, 10, 11, 12, 14], [[13, 15, 16], [15, 13, 16]])] (fun i => match i with | 0 => .const [] (.agg #[dx, dy, .slice (some ⟨g2, o2, none⟩) is.length c3, bv]) | 1 => .const [] (.pointer (some ⟨w.heap.size, 2, none⟩)) | 2 => .const [1] (.slice (some ⟨g2, o2, none⟩) is.length c3) | 3 => .const [] (.int .i64 ((j : Int) + 1)) | 4 => .const [3] (.int .i64 (j : Int)) | 5 => .const [2, 4] (.pointer (some ⟨g2, o2 + j * 3, none⟩)) | 6 => .const [5] (.pointer (some ⟨g2, o2 + j * 3 + 2, none⟩)) | 7 => .const [6] (.slice (some ⟨gp, op, none⟩) 2 sc) | 8 => .const [7] (.pointer (some ⟨gp, op + 1, none⟩)) | 9 => .const [8] (.int .i64 p1) | 10 => MkT2 [0, 9] (BlkR w cd ctx css G) BlkR.below | 11 => MkMv 10 | 12 => MkFs 11 | 13 => MkSd 11 | 14 => MkW 84 #[.bool false, .slice none 0 0, .string ⟨#[]⟩] | _ => .triv) (fun x => ⟨List.toArray ((Value.agg #[dx, dy, Value.slice (some { block := g2, off := o2 }) is.length c3, bv]) :: (Value.int IntKind.i64 (↑j + 1)) :: (Value.pointer (some { block := w.heap.size, off := 0 })) :: (undef) :: (Value.string { data := #[] }) :: (Value.string { data := #[] }) :: (Value.pointer (some { block := bw, off := 0 })) :: (Value.bool F) :: (x 14) :: (undef) :: (Value.int IntKind.i64 (↑j + 1)) :: (Value.pointer (some { block := w.heap.size, off := 2 })) :: (Value.slice (some { block := g2, off := o2 }) is.length c3) :: (Value.int IntKind.i64 ↑is.length) :: (Value.bool true) :: (Value.bool false) :: (Value.bool false) :: (Value.pointer (some { block := w.heap.size, off := 2 })) :: (Value.slice (some { block := g2, off := o2 }) is.length c3) :: (Value.int IntKind.i64 (↑j + 1)) :: (Value.int IntKind.i64 ↑j) :: (Value.pointer (some { block := g2, off := o2 + j * 3 })) :: (Value.pointer (some { block := g2, off := o2 + j * 3 })) :: (Value.int IntKind.i64 1) :: (Value.bool false) :: (Value.bool false) :: (Value.bool false) :: (Value.pointer (some { block := w.heap.size, off := 2 })) :: (Value.slice (some { block := g2, off := o2 }) is.length c3) :: (Value.int IntKind.i64 (↑j + 1)) :: (Value.int IntKind.i64 ↑j) :: (Value.pointer (some { block := g2, off := o2 + j * 3 })) :: (Value.pointer (some { block := g2, off := o2 + j * 3 + 2 })) :: (Value.slice (some { block := gp, off := op }) 2 sc) :: (Value.int IntKind.i64 2) :: (Value.bool false) :: (Value.bool false) :: (u37) :: (u38) :: (u39) :: (u40) :: (u41) :: (u42) :: (u43) :: (u44) :: (u45) :: (u46) :: (u47) :: (u48) :: (u49) :: (u50) :: (x 11) :: (x 0) :: (x 1) :: (x 2) :: (x 3) :: (x 4) :: (x 5) :: (x 6) :: (x 7) :: (x 8) :: (x 9) :: (x 10) :: (x 12) :: (x 13) :: (undef) :: (undef) :: (undef) :: (undef) :: []), []⟩) (fun i => match i with | 0 => undef | 1 => undef | 2 => undef | 3 => undef | 4 => undef | 5 => undef | 6 => undef | 7 => undef | 8 => undef | 9 => undef | 10 => undef | 11 => undef | 12 => undef | 13 => undef | 14 => undef | _ => undef) rfl (makersOk2_of (by kernel_rfl) (by kernel_rfl)) (by kernel_rfl) (by kernel_rfl) (by kernel_rfl) rfl ?_ ?_ ?_
        · intro jo hj so x iw W hd hp K hK
          simp only [List.mem_cons, List.not_mem_nil, or_false] at hj
          rcases hj with rfl | rfl | rfl | rfl | rfl | rfl | rfl | rfl | rfl | rfl | rfl | rfl | rfl | rfl | rfl
          · refine wpOp_step (o := _) rfl fun K' hK' => ?_
            have HK : Hid (∀ v W', Below W.heap.size W W' → ((Mk.const [] (.agg #[dx, dy, .slice (some ⟨g2, o2, none⟩) is.length c3, bv]) : Mk)).P W.heap.size W'.heap.size W' v (upd x 0 v) → K' ⟨List.toArray ((Value.agg #[dx, dy, Value.slice (some { block := g2, off := o2 }) is.length c3, bv]) :: (Value.int IntKind.i64 (↑j + 1)) :: (Value.pointer (some { block := w.heap.size, off := 0 })) :: (undef) :: (Value.string { data := #[] }) :: (Value.string { data := #[] }) :: (Value.pointer (some { block := bw, off := 0 })) :: (Value.bool F) :: (x 14) :: (undef) :: (Value.int IntKind.i64 (↑j + 1)) :: (Value.pointer (some { block := w.heap.size, off := 2 })) :: (Value.slice (some { block := g2, off := o2 }) is.length c3) :: (Value.int IntKind.i64 ↑is.length) :: (Value.bool true) :: (Value.bool false) :: (Value.bool false) :: (Value.pointer (some { block := w.heap.size, off := 2 })) :: (Value.slice (some { block := g2, off := o2 }) is.length c3) :: (Value.int IntKind.i64 (↑j + 1)) :: (Value.int IntKind.i64 ↑j) :: (Value.pointer (some { block := g2, off := o2 + j * 3 })) :: (Value.pointer (some { block := g2, off := o2 + j * 3 })) :: (Value.int IntKind.i64 1) :: (Value.bool false) :: (Value.bool false) :: (Value.bool false) :: (Value.pointer (some { block := w.heap.size, off := 2 })) :: (Value.slice (some { block := g2, off := o2 }) is.length c3) :: (Value.int IntKind.i64 (↑j + 1)) :: (Value.int IntKind.i64 ↑j) :: (Value.pointer (some { block := g2, off := o2 + j * 3 })) :: (Value.pointer (some { block := g2, off := o2 + j * 3 + 2 })) :: (Value.slice (some { block := gp, off := op }) 2 sc) :: (Value.int IntKind.i64 2) :: (Value.bool false) :: (Value.bool false) :: (u37) :: (u38) :: (u39) :: (u40) :: (u41) :: (u42) :: (u43) :: (u44) :: (u45) :: (u46) :: (u47) :: (u48) :: (u49) :: (u50) :: (x 11) :: (v) :: (x 1) :: (x 2) :: (x 3) :: (x 4) :: (x 5) :: (x 6) :: (x 7) :: (x 8) :: (x 9) :: (x 10) :: (x 12) :: (x 13) :: (undef) :: (undef) :: (undef) :: (undef) :: []), []⟩ W') := fun v W' h1 h2 => hK' _ _ (hK v W' h1 h2)
            have bw := of_drew hp.bel
            obtain ⟨qb, qd, q0, q1, q2, q3, q4⟩ := HW1.out W bw
            have k0 : W.cell? ⟨w.heap.size, 0, none⟩ = some (dx) := qd.cell 0
            have k1 : W.cell? ⟨w.heap.size, 1, none⟩ = some (dy) := qd.cell 1
            have k2 : W.cell? ⟨w.heap.size, 2, none⟩ = some (.slice (some ⟨g2, o2, none⟩) is.length c3) := qd.cell 2
            have k3 : W.cell? ⟨w.heap.size, 3, none⟩ = some (bv) := qd.cell 3
            clear bw qb qd q0 q1 q2 q3 q4
            clear hK hK' hp hd
            go_simp
            exact HK.out _ _ (Below.refl _ _) rfl
          · refine wpOp_step (o := _) rfl fun K' hK' => ?_
            have HK : Hid (∀ v W', Below W.heap.size W W' → ((Mk.const [] (.pointer (some ⟨w.heap.size, 2, none⟩)) : Mk)).P W.heap.size W'.heap.size W' v (upd x 1 v) → K' ⟨List.toArray ((Value.agg #[dx, dy, Value.slice (some { block := g2, off := o2 }) is.length c3, bv]) :: (Value.int IntKind.i64 (↑j + 1)) :: (Value.pointer (some { block := w.heap.size, off := 0 })) :: (undef) :: (Value.string { data := #[] }) :: (Value.string { data := #[] }) :: (Value.pointer (some { block := bw, off := 0 })) :: (Value.bool F) :: (x 14) :: (undef) :: (Value.int IntKind.i64 (↑j + 1)) :: (Value.pointer (some { block := w.heap.size, off := 2 })) :: (Value.slice (some { block := g2, off := o2 }) is.length c3) :: (Value.int IntKind.i64 ↑is.length) :: (Value.bool true) :: (Value.bool false) :: (Value.bool false) :: (Value.pointer (some { block := w.heap.size, off := 2 })) :: (Value.slice (some { block := g2, off := o2 }) is.length c3) :: (Value.int IntKind.i64 (↑j + 1)) :: (Value.int IntKind.i64 ↑j) :: (Value.pointer (some { block := g2, off := o2 + j * 3 })) :: (Value.pointer (some { block := g2, off := o2 + j * 3 })) :: (Value.int IntKind.i64 1) :: (Value.bool false) :: (Value.bool false) :: (Value.bool false) :: (Value.pointer (some { block := w.heap.size, off := 2 })) :: (Value.slice (some { block := g2, off := o2 }) is.length c3) :: (Value.int IntKind.i64 (↑j + 1)) :: (Value.int IntKind.i64 ↑j) :: (Value.pointer (some { block := g2, off := o2 + j * 3 })) :: (Value.pointer (some { block := g2, off := o2 + j * 3 + 2 })) :: (Value.slice (some { block := gp, off := op }) 2 sc) :: (Value.int IntKind.i64 2) :: (Value.bool false) :: (Value.bool false) :: (u37) :: (u38) :: (u39) :: (u40) :: (u41) :: (u42) :: (u43) :: (u44) :: (u45) :: (u46) :: (u47) :: (u48) :: (u49) :: (u50) :: (x 11) :: (x 0) :: (v) :: (x 2) :: (x 3) :: (x 4) :: (x 5) :: (x 6) :: (x 7) :: (x 8) :: (x 9) :: (x 10) :: (x 12) :: (x 13) :: (undef) :: (undef) :: (undef) :: (undef) :: []), []⟩ W') := fun v W' h1 h2 => hK' _ _ (hK v W' h1 h2)
            clear hK hK' hp hd
            go_simp
            exact HK.out _ _ (Below.refl _ _) rfl
          · refine wpOp_step (o := _) rfl fun K' hK' => ?_
            have HK : Hid (∀ v W', Below W.heap.size W W' → ((Mk.const [1] (.slice (some ⟨g2, o2, none⟩) is.length c3) : Mk)).P W.heap.size W'.heap.size W' v (upd x 2 v) → K' ⟨List.toArray ((Value.agg #[dx, dy, Value.slice (some { block := g2, off := o2 }) is.length c3, bv]) :: (Value.int IntKind.i64 (↑j + 1)) :: (Value.pointer (some { block := w.heap.size, off := 0 })) :: (undef) :: (Value.string { data := #[] }) :: (Value.string { data := #[] }) :: (Value.pointer (some { block := bw, off := 0 })) :: (Value.bool F) :: (x 14) :: (undef) :: (Value.int IntKind.i64 (↑j + 1)) :: (Value.pointer (some { block := w.heap.size, off := 2 })) :: (Value.slice (some { block := g2, off := o2 }) is.length c3) :: (Value.int IntKind.i64 ↑is.length) :: (Value.bool true) :: (Value.bool false) :: (Value.bool false) :: (Value.pointer (some { block := w.heap.size, off := 2 })) :: (Value.slice (some { block := g2, off := o2 }) is.length c3) :: (Value.int IntKind.i64 (↑j + 1)) :: (Value.int IntKind.i64 ↑j) :: (Value.pointer (some { block := g2, off := o2 + j * 3 })) :: (Value.pointer (some { block := g2, off := o2 + j * 3 })) :: (Value.int IntKind.i64 1) :: (Value.bool false) :: (Value.bool false) :: (Value.bool false) :: (Value.pointer (some { block := w.heap.size, off := 2 })) :: (Value.slice (some { block := g2, off := o2 }) is.length c3) :: (Value.int IntKind.i64 (↑j + 1)) :: (Value.int IntKind.i64 ↑j) :: (Value.pointer (some { block := g2, off := o2 + j * 3 })) :: (Value.pointer (some { block := g2, off := o2 + j * 3 + 2 })) :: (Value.slice (some { block := gp, off := op }) 2 sc) :: (Value.int IntKind.i64 2) :: (Value.bool false) :: (Value.bool false) :: (u37) :: (u38) :: (u39) :: (u40) :: (u41) :: (u42) :: (u43) :: (u44) :: (u45) :: (u46) :: (u47) :: (u48) :: (u49) :: (u50) :: (x 11) :: (x 0) :: (x 1) :: (v) :: (x 3) :: (x 4) :: (x 5) :: (x 6) :: (x 7) :: (x 8) :: (x 9) :: (x 10) :: (x 12) :: (x 13) :: (undef) :: (undef) :: (undef) :: (undef) :: []), []⟩ W') := fun v W' h1 h2 => hK' _ _ (hK v W' h1 h2)
            have e1 : x 1 = .pointer (some ⟨w.heap.size, 2, none⟩) := hp.post 1 (hd 1 (show 1 ∈ [1] from by decide))
            have bw := of_drew hp.bel
            obtain ⟨qb, qd, q0, q1, q2, q3, q4⟩ := HW1.out W bw
            have k1 : W.cell? ⟨w.heap.size, 2, none⟩ = some (.slice (some ⟨g2, o2, none⟩) is.length c3) := qd.cell 2
            clear bw qb qd q0 q1 q2 q3 q4
            clear hK hK' hp hd
            simp only [e1] at HK ⊢
            go_simp
            exact HK.out _ _ (Below.refl _ _) rfl
          · refine wpOp_step (o := _) rfl fun K' hK' => ?_
            have HK : Hid (∀ v W', Below W.heap.size W W' → ((Mk.const [] (.int .i64 ((j : Int) + 1)) : Mk)).P W.heap.size W'.heap.size W' v (upd x 3 v) → K' ⟨List.toArray ((Value.agg #[dx, dy, Value.slice (some { block := g2, off := o2 }) is.length c3, bv]) :: (Value.int IntKind.i64 (↑j + 1)) :: (Value.pointer (some { block := w.heap.size, off := 0 })) :: (undef) :: (Value.string { data := #[] }) :: (Value.string { data := #[] }) :: (Value.pointer (some { block := bw, off := 0 })) :: (Value.bool F) :: (x 14) :: (undef) :: (Value.int IntKind.i64 (↑j + 1)) :: (Value.pointer (some { block := w.heap.size, off := 2 })) :: (Value.slice (some { block := g2, off := o2 }) is.length c3) :: (Value.int IntKind.i64 ↑is.length) :: (Value.bool true) :: (Value.bool false) :: (Value.bool false) :: (Value.pointer (some { block := w.heap.size, off := 2 })) :: (Value.slice (some { block := g2, off := o2 }) is.length c3) :: (Value.int IntKind.i64 (↑j + 1)) :: (Value.int IntKind.i64 ↑j) :: (Value.pointer (some { block := g2, off := o2 + j * 3 })) :: (Value.pointer (some { block := g2, off := o2 + j * 3 })) :: (Value.int IntKind.i64 1) :: (Value.bool false) :: (Value.bool false) :: (Value.bool false) :: (Value.pointer (some { block := w.heap.size, off := 2 })) :: (Value.slice (some { block := g2, off := o2 }) is.length c3) :: (Value.int IntKind.i64 (↑j + 1)) :: (Value.int IntKind.i64 ↑j) :: (Value.pointer (some { block := g2, off := o2 + j * 3 })) :: (Value.pointer (some { block := g2, off := o2 + j * 3 + 2 })) :: (Value.slice (some { block := gp, off := op }) 2 sc) :: (Value.int IntKind.i64 2) :: (Value.bool false) :: (Value.bool false) :: (u37) :: (u38) :: (u39) :: (u40) :: (u41) :: (u42) :: (u43) :: (u44) :: (u45) :: (u46) :: (u47) :: (u48) :: (u49) :: (u50) :: (x 11) :: (x 0) :: (x 1) :: (x 2) :: (v) :: (x 4) :: (x 5) :: (x 6) :: (x 7) :: (x 8) :: (x 9) :: (x 10) :: (x 12) :: (x 13) :: (undef) :: (undef) :: (undef) :: (undef) :: []), []⟩ W') := fun v W' h1 h2 => hK' _ _ (hK v W' h1 h2)
            clear hK hK' hp hd
            go_simp
            exact HK.out _ _ (Below.refl _ _) rfl
          · refine wpOp_step (o := _) rfl fun K' hK' => ?_
            have HK : Hid (∀ v W', Below W.heap.size W W' → ((Mk.const [3] (.int .i64 (j : Int)) : Mk)).P W.heap.size W'.heap.size W' v (upd x 4 v) → K' ⟨List.toArray ((Value.agg #[dx, dy, Value.slice (some { block := g2, off := o2 }) is.length c3, bv]) :: (Value.int IntKind.i64 (↑j + 1)) :: (Value.pointer (some { block := w.heap.size, off := 0 })) :: (undef) :: (Value.string { data := #[] }) :: (Value.string { data := #[] }) :: (Value.pointer (some { block := bw, off := 0 })) :: (Value.bool F) :: (x 14) :: (undef) :: (Value.int IntKind.i64 (↑j + 1)) :: (Value.pointer (some { block := w.heap.size, off := 2 })) :: (Value.slice (some { block := g2, off := o2 }) is.length c3) :: (Value.int IntKind.i64 ↑is.length) :: (Value.bool true) :: (Value.bool false) :: (Value.bool false) :: (Value.pointer (some { block := w.heap.size, off := 2 })) :: (Value.slice (some { block := g2, off := o2 }) is.length c3) :: (Value.int IntKind.i64 (↑j + 1)) :: (Value.int IntKind.i64 ↑j) :: (Value.pointer (some { block := g2, off := o2 + j * 3 })) :: (Value.pointer (some { block := g2, off := o2 + j * 3 })) :: (Value.int IntKind.i64 1) :: (Value.bool false) :: (Value.bool false) :: (Value.bool false) :: (Value.pointer (some { block := w.heap.size, off := 2 })) :: (Value.slice (some { block := g2, off := o2 }) is.length c3) :: (Value.int IntKind.i64 (↑j + 1)) :: (Value.int IntKind.i64 ↑j) :: (Value.pointer (some { block := g2, off := o2 + j * 3 })) :: (Value.pointer (some { block := g2, off := o2 + j * 3 + 2 })) :: (Value.slice (some { block := gp, off := op }) 2 sc) :: (Value.int IntKind.i64 2) :: (Value.bool false) :: (Value.bool false) :: (u37) :: (u38) :: (u39) :: (u40) :: (u41) :: (u42) :: (u43) :: (u44) :: (u45) :: (u46) :: (u47) :: (u48) :: (u49) :: (u50) :: (x 11) :: (x 0) :: (x 1) :: (x 2) :: (x 3) :: (v) :: (x 5) :: (x 6) :: (x 7) :: (x 8) :: (x 9) :: (x 10) :: (x 12) :: (x 13) :: (undef) :: (undef) :: (undef) :: (undef) :: []), []⟩ W') := fun v W' h1 h2 => hK' _ _ (hK v W' h1 h2)
            have e3 : x 3 = .int .i64 ((j : Int) + 1) := hp.post 3 (hd 3 (show 3 ∈ [3] from by decide))
            clear hK hK' hp hd
            simp only [e3] at HK ⊢
            go_simp
            exact HK.out _ _ (Below.refl _ _) rfl
          · refine wpOp_step (o := _) rfl fun K' hK' => ?_
            have HK : Hid (∀ v W', Below W.heap.size W W' → ((Mk.const [2, 4] (.pointer (some ⟨g2, o2 + j * 3, none⟩)) : Mk)).P W.heap.size W'.heap.size W' v (upd x 5 v) → K' ⟨List.toArray ((Value.agg #[dx, dy, Value.slice (some { block := g2, off := o2 }) is.length c3, bv]) :: (Value.int IntKind.i64 (↑j + 1)) :: (Value.pointer (some { block := w.heap.size, off := 0 })) :: (undef) :: (Value.string { data := #[] }) :: (Value.string { data := #[] }) :: (Value.pointer (some { block := bw, off := 0 })) :: (Value.bool F) :: (x 14) :: (undef) :: (Value.int IntKind.i64 (↑j + 1)) :: (Value.pointer (some { block := w.heap.size, off := 2 })) :: (Value.slice (some { block := g2, off := o2 }) is.length c3) :: (Value.int IntKind.i64 ↑is.length) :: (Value.bool true) :: (Value.bool false) :: (Value.bool false) :: (Value.pointer (some { block := w.heap.size, off := 2 })) :: (Value.slice (some { block := g2, off := o2 }) is.length c3) :: (Value.int IntKind.i64 (↑j + 1)) :: (Value.int IntKind.i64 ↑j) :: (Value.pointer (some { block := g2, off := o2 + j * 3 })) :: (Value.pointer (some { block := g2, off := o2 + j * 3 })) :: (Value.int IntKind.i64 1) :: (Value.bool false) :: (Value.bool false) :: (Value.bool false) :: (Value.pointer (some { block := w.heap.size, off := 2 })) :: (Value.slice (some { block := g2, off := o2 }) is.length c3) :: (Value.int IntKind.i64 (↑j + 1)) :: (Value.int IntKind.i64 ↑j) :: (Value.pointer (some { block := g2, off := o2 + j * 3 })) :: (Value.pointer (some { block := g2, off := o2 + j * 3 + 2 })) :: (Value.slice (some { block := gp, off := op }) 2 sc) :: (Value.int IntKind.i64 2) :: (Value.bool false) :: (Value.bool false) :: (u37) :: (u38) :: (u39) :: (u40) :: (u41) :: (u42) :: (u43) :: (u44) :: (u45) :: (u46) :: (u47) :: (u48) :: (u49) :: (u50) :: (x 11) :: (x 0) :: (x 1) :: (x 2) :: (x 3) :: (x 4) :: (v) :: (x 6) :: (x 7) :: (x 8) :: (x 9) :: (x 10) :: (x 12) :: (x 13) :: (undef) :: (undef) :: (undef) :: (undef) :: []), []⟩ W') := fun v W' h1 h2 => hK' _ _ (hK v W' h1 h2)
            have e2 : x 2 = .slice (some ⟨g2, o2, none⟩) is.length c3 := hp.post 2 (hd 2 (show 2 ∈ [2, 4] from by decide))
            have e4 : x 4 = .int .i64 (j : Int) := hp.post 4 (hd 4 (show 4 ∈ [2, 4] from by decide))
            clear hK hK' hp hd
            simp only [e2, e4] at HK ⊢
            go_simp
            exact HK.out _ _ (Below.refl _ _) rfl
          · refine wpOp_step (o := _) rfl fun K' hK' => ?_
            have HK : Hid (∀ v W', Below W.heap.size W W' → ((Mk.const [5] (.pointer (some ⟨g2, o2 + j * 3 + 2, none⟩)) : Mk)).P W.heap.size W'.heap.size W' v (upd x 6 v) → K' ⟨List.toArray ((Value.agg #[dx, dy, Value.slice (some { block := g2, off := o2 }) is.length c3, bv]) :: (Value.int IntKind.i64 (↑j + 1)) :: (Value.pointer (some { block := w.heap.size, off := 0 })) :: (undef) :: (Value.string { data := #[] }) :: (Value.string { data := #[] }) :: (Value.pointer (some { block := bw, off := 0 })) :: (Value.bool F) :: (x 14) :: (undef) :: (Value.int IntKind.i64 (↑j + 1)) :: (Value.pointer (some { block := w.heap.size, off := 2 })) :: (Value.slice (some { block := g2, off := o2 }) is.length c3) :: (Value.int IntKind.i64 ↑is.length) :: (Value.bool true) :: (Value.bool false) :: (Value.bool false) :: (Value.pointer (some { block := w.heap.size, off := 2 })) :: (Value.slice (some { block := g2, off := o2 }) is.length c3) :: (Value.int IntKind.i64 (↑j + 1)) :: (Value.int IntKind.i64 ↑j) :: (Value.pointer (some { block := g2, off := o2 + j * 3 })) :: (Value.pointer (some { block := g2, off := o2 + j * 3 })) :: (Value.int IntKind.i64 1) :: (Value.bool false) :: (Value.bool false) :: (Value.bool false) :: (Value.pointer (some { block := w.heap.size, off := 2 })) :: (Value.slice (some { block := g2, off := o2 }) is.length c3) :: (Value.int IntKind.i64 (↑j + 1)) :: (Value.int IntKind.i64 ↑j) :: (Value.pointer (some { block := g2, off := o2 + j * 3 })) :: (Value.pointer (some { block := g2, off := o2 + j * 3 + 2 })) :: (Value.slice (some { block := gp, off := op }) 2 sc) :: (Value.int IntKind.i64 2) :: (Value.bool false) :: (Value.bool false) :: (u37) :: (u38) :: (u39) :: (u40) :: (u41) :: (u42) :: (u43) :: (u44) :: (u45) :: (u46) :: (u47) :: (u48) :: (u49) :: (u50) :: (x 11) :: (x 0) :: (x 1) :: (x 2) :: (x 3) :: (x 4) :: (x 5) :: (v) :: (x 7) :: (x 8) :: (x 9) :: (x 10) :: (x 12) :: (x 13) :: (undef) :: (undef) :: (undef) :: (undef) :: []), []⟩ W') := fun v W' h1 h2 => hK' _ _ (hK v W' h1 h2)
            have e5 : x 5 = .pointer (some ⟨g2, o2 + j * 3, none⟩) := hp.post 5 (hd 5 (show 5 ∈ [5] from by decide))
            clear hK hK' hp hd
            simp only [e5] at HK ⊢
            go_simp
            exact HK.out _ _ (Below.refl _ _) rfl
          · refine wpOp_step (o := _) rfl fun K' hK' => ?_
            have HK : Hid (∀ v W', Below W.heap.size W W' → ((Mk.const [6] (.slice (some ⟨gp, op, none⟩) 2 sc) : Mk)).P W.heap.size W'.heap.size W' v (upd x 7 v) → K' ⟨List.toArray ((Value.agg #[dx, dy, Value.slice (some { block := g2, off := o2 }) is.length c3, bv]) :: (Value.int IntKind.i64 (↑j + 1)) :: (Value.pointer (some { block := w.heap.size, off := 0 })) :: (undef) :: (Value.string { data := #[] }) :: (Value.string { data := #[] }) :: (Value.pointer (some { block := bw, off := 0 })) :: (Value.bool F) :: (x 14) :: (undef) :: (Value.int IntKind.i64 (↑j + 1)) :: (Value.pointer (some { block := w.heap.size, off := 2 })) :: (Value.slice (some { block := g2, off := o2 }) is.length c3) :: (Value.int IntKind.i64 ↑is.length) :: (Value.bool true) :: (Value.bool false) :: (Value.bool false) :: (Value.pointer (some { block := w.heap.size, off := 2 })) :: (Value.slice (some { block := g2, off := o2 }) is.length c3) :: (Value.int IntKind.i64 (↑j + 1)) :: (Value.int IntKind.i64 ↑j) :: (Value.pointer (some { block := g2, off := o2 + j * 3 })) :: (Value.pointer (some { block := g2, off := o2 + j * 3 })) :: (Value.int IntKind.i64 1) :: (Value.bool false) :: (Value.bool false) :: (Value.bool false) :: (Value.pointer (some { block := w.heap.size, off := 2 })) :: (Value.slice (some { block := g2, off := o2 }) is.length c3) :: (Value.int IntKind.i64 (↑j + 1)) :: (Value.int IntKind.i64 ↑j) :: (Value.pointer (some { block := g2, off := o2 + j * 3 })) :: (Value.pointer (some { block := g2, off := o2 + j * 3 + 2 })) :: (Value.slice (some { block := gp, off := op }) 2 sc) :: (Value.int IntKind.i64 2) :: (Value.bool false) :: (Value.bool false) :: (u37) :: (u38) :: (u39) :: (u40) :: (u41) :: (u42) :: (u43) :: (u44) :: (u45) :: (u46) :: (u47) :: (u48) :: (u49) :: (u50) :: (x 11) :: (x 0) :: (x 1) :: (x 2) :: (x 3) :: (x 4) :: (x 5) :: (x 6) :: (v) :: (x 8) :: (x 9) :: (x 10) :: (x 12) :: (x 13) :: (undef) :: (undef) :: (undef) :: (undef) :: []), []⟩ W') := fun v W' h1 h2 => hK' _ _ (hK v W' h1 h2)
            have e6 : x 6 = .pointer (some ⟨g2, o2 + j * 3 + 2, none⟩) := hp.post 6 (hd 6 (show 6 ∈ [6] from by decide))
            have bw := of_drew hp.bel
            obtain ⟨qb, qd, q0, q1, q2, q3, q4⟩ := HW1.out W bw
            clear bw qb qd q0 q1 q3 q4
            clear hK hK' hp hd
            simp only [e6] at HK ⊢
            go_simp
            exact HK.out _ _ (Below.refl _ _) rfl
          · refine wpOp_step (o := _) rfl fun K' hK' => ?_
            have HK : Hid (∀ v W', Below W.heap.size W W' → ((Mk.const [7] (.pointer (some ⟨gp, op + 1, none⟩)) : Mk)).P W.heap.size W'.heap.size W' v (upd x 8 v) → K' ⟨List.toArray ((Value.agg #[dx, dy, Value.slice (some { block := g2, off := o2 }) is.length c3, bv]) :: (Value.int IntKind.i64 (↑j + 1)) :: (Value.pointer (some { block := w.heap.size, off := 0 })) :: (undef) :: (Value.string { data := #[] }) :: (Value.string { data := #[] }) :: (Value.pointer (some { block := bw, off := 0 })) :: (Value.bool F) :: (x 14) :: (undef) :: (Value.int IntKind.i64 (↑j + 1)) :: (Value.pointer (some { block := w.heap.size, off := 2 })) :: (Value.slice (some { block := g2, off := o2 }) is.length c3) :: (Value.int IntKind.i64 ↑is.length) :: (Value.bool true) :: (Value.bool false) :: (Value.bool false) :: (Value.pointer (some { block := w.heap.size, off := 2 })) :: (Value.slice (some { block := g2, off := o2 }) is.length c3) :: (Value.int IntKind.i64 (↑j + 1)) :: (Value.int IntKind.i64 ↑j) :: (Value.pointer (some { block := g2, off := o2 + j * 3 })) :: (Value.pointer (some { block := g2, off := o2 + j * 3 })) :: (Value.int IntKind.i64 1) :: (Value.bool false) :: (Value.bool false) :: (Value.bool false) :: (Value.pointer (some { block := w.heap.size, off := 2 })) :: (Value.slice (some { block := g2, off := o2 }) is.length c3) :: (Value.int IntKind.i64 (↑j + 1)) :: (Value.int IntKind.i64 ↑j) :: (Value.pointer (some { block := g2, off := o2 + j * 3 })) :: (Value.pointer (some { block := g2, off := o2 + j * 3 + 2 })) :: (Value.slice (some { block := gp, off := op }) 2 sc) :: (Value.int IntKind.i64 2) :: (Value.bool false) :: (Value.bool false) :: (u37) :: (u38) :: (u39) :: (u40) :: (u41) :: (u42) :: (u43) :: (u44) :: (u45) :: (u46) :: (u47) :: (u48) :: (u49) :: (u50) :: (x 11) :: (x 0) :: (x 1) :: (x 2) :: (x 3) :: (x 4) :: (x 5) :: (x 6) :: (x 7) :: (v) :: (x 9) :: (x 10) :: (x 12) :: (x 13) :: (undef) :: (undef) :: (undef) :: (undef) :: []), []⟩ W') := fun v W' h1 h2 => hK' _ _ (hK v W' h1 h2)
            have e7 : x 7 = .slice (some ⟨gp, op, none⟩) 2 sc := hp.post 7 (hd 7 (show 7 ∈ [7] from by decide))
            clear hK hK' hp hd
            simp only [e7] at HK ⊢
            go_simp
            exact HK.out _ _ (Below.refl _ _) rfl
          · refine wpOp_step (o := _) rfl fun K' hK' => ?_
            have HK : Hid (∀ v W', Below W.heap.size W W' → ((Mk.const [8] (.int .i64 p1) : Mk)).P W.heap.size W'.heap.size W' v (upd x 9 v) → K' ⟨List.toArray ((Value.agg #[dx, dy, Value.slice (some { block := g2, off := o2 }) is.length c3, bv]) :: (Value.int IntKind.i64 (↑j + 1)) :: (Value.pointer (some { block := w.heap.size, off := 0 })) :: (undef) :: (Value.string { data := #[] }) :: (Value.string { data := #[] }) :: (Value.pointer (some { block := bw, off := 0 })) :: (Value.bool F) :: (x 14) :: (undef) :: (Value.int IntKind.i64 (↑j + 1)) :: (Value.pointer (some { block := w.heap.size, off := 2 })) :: (Value.slice (some { block := g2, off := o2 }) is.length c3) :: (Value.int IntKind.i64 ↑is.length) :: (Value.bool true) :: (Value.bool false) :: (Value.bool false) :: (Value.pointer (some { block := w.heap.size, off := 2 })) :: (Value.slice (some { block := g2, off := o2 }) is.length c3) :: (Value.int IntKind.i64 (↑j + 1)) :: (Value.int IntKind.i64 ↑j) :: (Value.pointer (some { block := g2, off := o2 + j * 3 })) :: (Value.pointer (some { block := g2, off := o2 + j * 3 })) :: (Value.int IntKind.i64 1) :: (Value.bool false) :: (Value.bool false) :: (Value.bool false) :: (Value.pointer (some { block := w.heap.size, off := 2 })) :: (Value.slice (some { block := g2, off := o2 }) is.length c3) :: (Value.int IntKind.i64 (↑j + 1)) :: (Value.int IntKind.i64 ↑j) :: (Value.pointer (some { block := g2, off := o2 + j * 3 })) :: (Value.pointer (some { block := g2, off := o2 + j * 3 + 2 })) :: (Value.slice (some { block := gp, off := op }) 2 sc) :: (Value.int IntKind.i64 2) :: (Value.bool false) :: (Value.bool false) :: (u37) :: (u38) :: (u39) :: (u40) :: (u41) :: (u42) :: (u43) :: (u44) :: (u45) :: (u46) :: (u47) :: (u48) :: (u49) :: (u50) :: (x 11) :: (x 0) :: (x 1) :: (x 2) :: (x 3) :: (x 4) :: (x 5) :: (x 6) :: (x 7) :: (x 8) :: (v) :: (x 10) :: (x 12) :: (x 13) :: (undef) :: (undef) :: (undef) :: (undef) :: []), []⟩ W') := fun v W' h1 h2 => hK' _ _ (hK v W' h1 h2)
            have e8 : x 8 = .pointer (some ⟨gp, op + 1, none⟩) := hp.post 8 (hd 8 (show 8 ∈ [8] from by decide))
            have bw := of_drew hp.bel
            obtain ⟨qb, qd, q0, q1, q2, q3, q4⟩ := HW1.out W bw
            clear bw qb qd q0 q1 q2 q3
            clear hK hK' hp hd
            simp only [e8] at HK ⊢
            go_simp
            exact HK.out _ _ (Below.refl _ _) rfl
          · refine wpOp_step (o := _) rfl fun K' hK' => ?_
            have HK : Hid (∀ v W', Below W.heap.size W W' → (MkT2 [0, 9] (BlkR w cd ctx css G) BlkR.below).P W.heap.size W'.heap.size W' v (upd x 10 v) → K' ⟨List.toArray ((Value.agg #[dx, dy, Value.slice (some { block := g2, off := o2 }) is.length c3, bv]) :: (Value.int IntKind.i64 (↑j + 1)) :: (Value.pointer (some { block := w.heap.size, off := 0 })) :: (undef) :: (Value.string { data := #[] }) :: (Value.string { data := #[] }) :: (Value.pointer (some { block := bw, off := 0 })) :: (Value.bool F) :: (x 14) :: (undef) :: (Value.int IntKind.i64 (↑j + 1)) :: (Value.pointer (some { block := w.heap.size, off := 2 })) :: (Value.slice (some { block := g2, off := o2 }) is.length c3) :: (Value.int IntKind.i64 ↑is.length) :: (Value.bool true) :: (Value.bool false) :: (Value.bool false) :: (Value.pointer (some { block := w.heap.size, off := 2 })) :: (Value.slice (some { block := g2, off := o2 }) is.length c3) :: (Value.int IntKind.i64 (↑j + 1)) :: (Value.int IntKind.i64 ↑j) :: (Value.pointer (some { block := g2, off := o2 + j * 3 })) :: (Value.pointer (some { block := g2, off := o2 + j * 3 })) :: (Value.int IntKind.i64 1) :: (Value.bool false) :: (Value.bool false) :: (Value.bool false) :: (Value.pointer (some { block := w.heap.size, off := 2 })) :: (Value.slice (some { block := g2, off := o2 }) is.length c3) :: (Value.int IntKind.i64 (↑j + 1)) :: (Value.int IntKind.i64 ↑j) :: (Value.pointer (some { block := g2, off := o2 + j * 3 })) :: (Value.pointer (some { block := g2, off := o2 + j * 3 + 2 })) :: (Value.slice (some { block := gp, off := op }) 2 sc) :: (Value.int IntKind.i64 2) :: (Value.bool false) :: (Value.bool false) :: (u37) :: (u38) :: (u39) :: (u40) :: (u41) :: (u42) :: (u43) :: (u44) :: (u45) :: (u46) :: (u47) :: (u48) :: (u49) :: (u50) :: (x 11) :: (x 0) :: (x 1) :: (x 2) :: (x 3) :: (x 4) :: (x 5) :: (x 6) :: (x 7) :: (x 8) :: (x 9) :: (v) :: (x 12) :: (x 13) :: (undef) :: (undef) :: (undef) :: (undef) :: []), []⟩ W') := fun v W' h1 h2 => hK' _ _ (hK v W' h1 h2)
            have e0 : x 0 = .agg #[dx, dy, .slice (some ⟨g2, o2, none⟩) is.length c3, bv] := hp.post 0 (hd 0 (show 0 ∈ [0, 9] from by decide))
            have e9 : x 9 = .int .i64 p1 := hp.post 9 (hd 9 (show 9 ∈ [0, 9] from by decide))
            have dr := (HW1.out W (of_drew hp.bel)).1
            clear hK hK' hp hd
            simp only [e0, e9] at HK ⊢
            clear e0 e9
            go_simp
            refine (CB1.out W dr).mono ?_
            rintro e w6 ⟨sv, rfl, R6, B6⟩
            obtain ⟨ba, bc, rfl, hR6⟩ := R6
            go_simp
            exact HK.out _ _ B6 ⟨_, _, rfl, ba, bc, rfl, rfl, ba, bc, rfl, hR6⟩
          · refine wpOp_step (o := _) rfl fun K' hK' => ?_
            have HK : Hid (∀ v W', Below W.heap.size W W' → (MkMv 10).P W.heap.size W'.heap.size W' v (upd x 11 v) → K' ⟨List.toArray ((Value.agg #[dx, dy, Value.slice (some { block := g2, off := o2 }) is.length c3, bv]) :: (Value.int IntKind.i64 (↑j + 1)) :: (Value.pointer (some { block := w.heap.size, off := 0 })) :: (undef) :: (Value.string { data := #[] }) :: (Value.string { data := #[] }) :: (Value.pointer (some { block := bw, off := 0 })) :: (Value.bool F) :: (x 14) :: (undef) :: (Value.int IntKind.i64 (↑j + 1)) :: (Value.pointer (some { block := w.heap.size, off := 2 })) :: (Value.slice (some { block := g2, off := o2 }) is.length c3) :: (Value.int IntKind.i64 ↑is.length) :: (Value.bool true) :: (Value.bool false) :: (Value.bool false) :: (Value.pointer (some { block := w.heap.size, off := 2 })) :: (Value.slice (some { block := g2, off := o2 }) is.length c3) :: (Value.int IntKind.i64 (↑j + 1)) :: (Value.int IntKind.i64 ↑j) :: (Value.pointer (some { block := g2, off := o2 + j * 3 })) :: (Value.pointer (some { block := g2, off := o2 + j * 3 })) :: (Value.int IntKind.i64 1) :: (Value.bool false) :: (Value.bool false) :: (Value.bool false) :: (Value.pointer (some { block := w.heap.size, off := 2 })) :: (Value.slice (some { block := g2, off := o2 }) is.length c3) :: (Value.int IntKind.i64 (↑j + 1)) :: (Value.int IntKind.i64 ↑j) :: (Value.pointer (some { block := g2, off := o2 + j * 3 })) :: (Value.pointer (some { block := g2, off := o2 + j * 3 + 2 })) :: (Value.slice (some { block := gp, off := op }) 2 sc) :: (Value.int IntKind.i64 2) :: (Value.bool false) :: (Value.bool false) :: (u37) :: (u38) :: (u39) :: (u40) :: (u41) :: (u42) :: (u43) :: (u44) :: (u45) :: (u46) :: (u47) :: (u48) :: (u49) :: (u50) :: (v) :: (x 0) :: (x 1) :: (x 2) :: (x 3) :: (x 4) :: (x 5) :: (x 6) :: (x 7) :: (x 8) :: (x 9) :: (x 10) :: (x 12) :: (x 13) :: (undef) :: (undef) :: (undef) :: (undef) :: []), []⟩ W') := fun v W' h1 h2 => hK' _ _ (hK v W' h1 h2)
            have e10 : ∃ a r, x 10 = .tuple #[a, r] ∧ BlkR w cd ctx css G (iw 10).1 (iw 10).2 W a r := hp.post 10 (hd 10 (show 10 ∈ [10] from by decide))
            clear hK hK' hp hd
            obtain ⟨a, r, e10, -⟩ := e10
            have ea := hide e10
            simp only [e10] at HK ⊢
            clear e10
            go_simp
            exact HK.out _ _ (Below.refl _ _) ⟨ea.out, a, r, rfl⟩
          · refine wpOp_step (o := _) rfl fun K' hK' => ?_
            have HK : Hid (∀ v W', Below W.heap.size W W' → (MkFs 11).P W.heap.size W'.heap.size W' v (upd x 12 v) → K' ⟨List.toArray ((Value.agg #[dx, dy, Value.slice (some { block := g2, off := o2 }) is.length c3, bv]) :: (Value.int IntKind.i64 (↑j + 1)) :: (Value.pointer (some { block := w.heap.size, off := 0 })) :: (undef) :: (Value.string { data := #[] }) :: (Value.string { data := #[] }) :: (Value.pointer (some { block := bw, off := 0 })) :: (Value.bool F) :: (x 14) :: (undef) :: (Value.int IntKind.i64 (↑j + 1)) :: (Value.pointer (some { block := w.heap.size, off := 2 })) :: (Value.slice (some { block := g2, off := o2 }) is.length c3) :: (Value.int IntKind.i64 ↑is.length) :: (Value.bool true) :: (Value.bool false) :: (Value.bool false) :: (Value.pointer (some { block := w.heap.size, off := 2 })) :: (Value.slice (some { block := g2, off := o2 }) is.length c3) :: (Value.int IntKind.i64 (↑j + 1)) :: (Value.int IntKind.i64 ↑j) :: (Value.pointer (some { block := g2, off := o2 + j * 3 })) :: (Value.pointer (some { block := g2, off := o2 + j * 3 })) :: (Value.int IntKind.i64 1) :: (Value.bool false) :: (Value.bool false) :: (Value.bool false) :: (Value.pointer (some { block := w.heap.size, off := 2 })) :: (Value.slice (some { block := g2, off := o2 }) is.length c3) :: (Value.int IntKind.i64 (↑j + 1)) :: (Value.int IntKind.i64 ↑j) :: (Value.pointer (some { block := g2, off := o2 + j * 3 })) :: (Value.pointer (some { block := g2, off := o2 + j * 3 + 2 })) :: (Value.slice (some { block := gp, off := op }) 2 sc) :: (Value.int IntKind.i64 2) :: (Value.bool false) :: (Value.bool false) :: (u37) :: (u38) :: (u39) :: (u40) :: (u41) :: (u42) :: (u43) :: (u44) :: (u45) :: (u46) :: (u47) :: (u48) :: (u49) :: (u50) :: (x 11) :: (x 0) :: (x 1) :: (x 2) :: (x 3) :: (x 4) :: (x 5) :: (x 6) :: (x 7) :: (x 8) :: (x 9) :: (x 10) :: (v) :: (x 13) :: (undef) :: (undef) :: (undef) :: (undef) :: []), []⟩ W') := fun v W' h1 h2 => hK' _ _ (hK v W' h1 h2)
            have e11 : x 10 = x 11 ∧ ∃ a r, x 11 = .tuple #[a, r] := hp.post 11 (hd 11 (show 11 ∈ [11] from by decide))
            clear hK hK' hp hd
            obtain ⟨-, a, r, e11⟩ := e11
            have ea : Hid (a = fstOf (x 11)) := by rw [e11]; rfl
            simp only [e11] at HK ⊢
            clear e11
            go_simp
            exact HK.out _ _ (Below.refl _ _) ea.out
          · refine wpOp_step (o := _) rfl fun K' hK' => ?_
            have HK : Hid (∀ v W', Below W.heap.size W W' → (MkSd 11).P W.heap.size W'.heap.size W' v (upd x 13 v) → K' ⟨List.toArray ((Value.agg #[dx, dy, Value.slice (some { block := g2, off := o2 }) is.length c3, bv]) :: (Value.int IntKind.i64 (↑j + 1)) :: (Value.pointer (some { block := w.heap.size, off := 0 })) :: (undef) :: (Value.string { data := #[] }) :: (Value.string { data := #[] }) :: (Value.pointer (some { block := bw, off := 0 })) :: (Value.bool F) :: (x 14) :: (undef) :: (Value.int IntKind.i64 (↑j + 1)) :: (Value.pointer (some { block := w.heap.size, off := 2 })) :: (Value.slice (some { block := g2, off := o2 }) is.length c3) :: (Value.int IntKind.i64 ↑is.length) :: (Value.bool true) :: (Value.bool false) :: (Value.bool false) :: (Value.pointer (some { block := w.heap.size, off := 2 })) :: (Value.slice (some { block := g2, off := o2 }) is.length c3) :: (Value.int IntKind.i64 (↑j + 1)) :: (Value.int IntKind.i64 ↑j) :: (Value.pointer (some { block := g2, off := o2 + j * 3 })) :: (Value.pointer (some { block := g2, off := o2 + j * 3 })) :: (Value.int IntKind.i64 1) :: (Value.bool false) :: (Value.bool false) :: (Value.bool false) :: (Value.pointer (some { block := w.heap.size, off := 2 })) :: (Value.slice (some { block := g2, off := o2 }) is.length c3) :: (Value.int IntKind.i64 (↑j + 1)) :: (Value.int IntKind.i64 ↑j) :: (Value.pointer (some { block := g2, off := o2 + j * 3 })) :: (Value.pointer (some { block := g2, off := o2 + j * 3 + 2 })) :: (Value.slice (some { block := gp, off := op }) 2 sc) :: (Value.int IntKind.i64 2) :: (Value.bool false) :: (Value.bool false) :: (u37) :: (u38) :: (u39) :: (u40) :: (u41) :: (u42) :: (u43) :: (u44) :: (u45) :: (u46) :: (u47) :: (u48) :: (u49) :: (u50) :: (x 11) :: (x 0) :: (x 1) :: (x 2) :: (x 3) :: (x 4) :: (x 5) :: (x 6) :: (x 7) :: (x 8) :: (x 9) :: (x 10) :: (x 12) :: (v) :: (undef) :: (undef) :: (undef) :: (undef) :: []), []⟩ W') := fun v W' h1 h2 => hK' _ _ (hK v W' h1 h2)
            have e11 : x 10 = x 11 ∧ ∃ a r, x 11 = .tuple #[a, r] := hp.post 11 (hd 11 (show 11 ∈ [11] from by decide))
            clear hK hK' hp hd
            obtain ⟨-, a, r, e11⟩ := e11
            have ea : Hid (r = sndOf (x 11)) := by rw [e11]; rfl
            simp only [e11] at HK ⊢
            clear e11
            go_simp
            exact HK.out _ _ (Below.refl _ _) ea.out
          · refine wpOp_step (o := _) rfl fun K' hK' => ?_
            have HK : Hid (∀ v W', Below W.heap.size W W' → (MkW 84 #[.bool false, .slice none 0 0, .string ⟨#[]⟩]).P W.heap.size W'.heap.size W' v (upd x 14 v) → K' ⟨List.toArray ((Value.agg #[dx, dy, Value.slice (some { block := g2, off := o2 }) is.length c3, bv]) :: (Value.int IntKind.i64 (↑j + 1)) :: (Value.pointer (some { block := w.heap.size, off := 0 })) :: (undef) :: (Value.string { data := #[] }) :: (Value.string { data := #[] }) :: (Value.pointer (some { block := bw, off := 0 })) :: (Value.bool F) :: (v) :: (undef) :: (Value.int IntKind.i64 (↑j + 1)) :: (Value.pointer (some { block := w.heap.size, off := 2 })) :: (Value.slice (some { block := g2, off := o2 }) is.length c3) :: (Value.int IntKind.i64 ↑is.length) :: (Value.bool true) :: (Value.bool false) :: (Value.bool false) :: (Value.pointer (some { block := w.heap.size, off := 2 })) :: (Value.slice (some { block := g2, off := o2 }) is.length c3) :: (Value.int IntKind.i64 (↑j + 1)) :: (Value.int IntKind.i64 ↑j) :: (Value.pointer (some { block := g2, off := o2 + j * 3 })) :: (Value.pointer (some { block := g2, off := o2 + j * 3 })) :: (Value.int IntKind.i64 1) :: (Value.bool false) :: (Value.bool false) :: (Value.bool false) :: (Value.pointer (some { block := w.heap.size, off := 2 })) :: (Value.slice (some { block := g2, off := o2 }) is.length c3) :: (Value.int IntKind.i64 (↑j + 1)) :: (Value.int IntKind.i64 ↑j) :: (Value.pointer (some { block := g2, off := o2 + j * 3 })) :: (Value.pointer (some { block := g2, off := o2 + j * 3 + 2 })) :: (Value.slice (some { block := gp, off := op }) 2 sc) :: (Value.int IntKind.i64 2) :: (Value.bool false) :: (Value.bool false) :: (u37) :: (u38) :: (u39) :: (u40) :: (u41) :: (u42) :: (u43) :: (u44) :: (u45) :: (u46) :: (u47) :: (u48) :: (u49) :: (u50) :: (x 11) :: (x 0) :: (x 1) :: (x 2) :: (x 3) :: (x 4) :: (x 5) :: (x 6) :: (x 7) :: (x 8) :: (x 9) :: (x 10) :: (x 12) :: (x 13) :: (undef) :: (undef) :: (undef) :: (undef) :: []), []⟩ W') := fun v W' h1 h2 => hK' _ _ (hK v W' h1 h2)
            clear hK hK' hp hd
            go_simp
            exact HK.out _ _ ((Below.refl _ W).alloc (Nat.le_refl _) _) ⟨rfl, by simp, AtC.new W 84 _⟩
        · intro x iw W hp
          obtain ⟨a, r, e10, R10⟩ := hp.post 10 (by decide)
          obtain ⟨e11, -⟩ := hp.post 11 (by decide)
          have e12 : x 12 = fstOf (x 11) := hp.post 12 (by decide)
          have e13 : x 13 = sndOf (x 11) := hp.post 13 (by decide)
          obtain ⟨e14, z14, A14⟩ := hp.post 14 (by decide)
          have l14 := hp.lo 14 (by decide)
          have lc := hp.lo 10 (by decide)
          have bel := of_drew hp.bel
          have ap := hp.apart 10 (by decide) 14 (by decide) (by decide)
          rw [← e11, e10] at e12
          rw [← e11, e10] at e13
          replace e13 : x 13 = r := e13
          rw [e10] at e11
          replace e11 := e11.symm
          replace e12 : x 12 = a := e12
          have y0 : W.cell? ⟨(iw 14).1, 0, none⟩ = some (.bool false) := A14.cell 0
          have f0 := A14.frozen 0
          have y1 : W.cell? ⟨(iw 14).1, 1, none⟩ = some (.slice none 0 0) := A14.cell 1
          have f1 := A14.frozen 1
          have y2 : W.cell? ⟨(iw 14).1, 2, none⟩ = some (.string ⟨#[]⟩) := A14.cell 2
          have f2 := A14.frozen 2
          obtain ⟨ba, bc, rfl, rfl, hR⟩ := R10
          have hb14 : w1.heap.size ≤ (iw 14).1 := l14.1
          have HFI : Hid (AtC W (iw 14).1 84 #[.bool false, .slice none 0 0, .string ⟨#[]⟩] ∧ Below w1.heap.size w1 W ∧ w1.heap.size ≤ (iw 14).1) := ⟨A14, bel, hb14⟩
          clear hp A14 hR bel ap lc l14 z14 hb14
          simp only [e11, e12, e14, e13] at *
          generalize (iw 14).1 = bw at *
          go_wp2_with fail
          try rw [List.filterMap_nil]
          try go_wp2_with fail
          go_meet
          exact ⟨bw, ba, bc, rfl, rfl, ((HFI.out.1.set 0 _).set 1 _).set 2 _, ((HFI.out.2.1.setCell (p := ⟨bw, 0, none⟩) HFI.out.2.2 _).setCell (p := ⟨bw, 1, none⟩) HFI.out.2.2 _).setCell (p := ⟨bw, 2, none⟩) HFI.out.2.2 _, HFI.out.2.2⟩
        · intro qa hqa l hl x iw W hp
          simp only [List.mem_cons, List.not_mem_nil, or_false] at hqa
          subst hqa
          simp only [List.mem_cons, List.not_mem_nil, or_false] at hl
          obtain ⟨a, r, e10, R10⟩ := hp.post 10 (by decide)
          obtain ⟨e11, -⟩ := hp.post 11 (by decide)
          have e12 : x 12 = fstOf (x 11) := hp.post 12 (by decide)
          obtain ⟨e14, z14, A14⟩ := hp.post 14 (by decide)
          have l14 := hp.lo 14 (by decide)
          have lc := hp.lo 10 (by decide)
          have bel := of_drew hp.bel
          have ap := hp.apart 10 (by decide) 14 (by decide) (by decide)
          rw [← e11, e10] at e12
          rw [e10] at e11
          replace e11 := e11.symm
          replace e12 : x 12 = a := e12
          have y0 : W.cell? ⟨(iw 14).1, 0, none⟩ = some (.bool false) := A14.cell 0
          have f0 := A14.frozen 0
          have y1 : W.cell? ⟨(iw 14).1, 1, none⟩ = some (.slice none 0 0) := A14.cell 1
          have f1 := A14.frozen 1
          have y2 : W.cell? ⟨(iw 14).1, 2, none⟩ = some (.string ⟨#[]⟩) := A14.cell 2
          have f2 := A14.frozen 2
          obtain ⟨ba, bc, rfl, rfl, hR⟩ := R10
          have hb14 : w1.heap.size ≤ (iw 14).1 := l14.1
          have HFI : Hid (AtC W (iw 14).1 84 #[.bool false, .slice none 0 0, .string ⟨#[]⟩] ∧ Below w1.heap.size w1 W ∧ w1.heap.size ≤ (iw 14).1) := ⟨A14, bel, hb14⟩
          clear hp A14 hR bel ap lc l14 z14 hb14
          simp only [e11, e12, e14] at *
          generalize (iw 14).1 = bw at *
          rcases hl with rfl | rfl
          · go_wp2_with fail
            try rw [List.filterMap_nil]
            try go_wp2_with fail
            go_meet
            exact ⟨bw, ba, bc, rfl, rfl, ((HFI.out.1.set 0 _).set 1 _).set 2 _, ((HFI.out.2.1.setCell (p := ⟨bw, 0, none⟩) HFI.out.2.2 _).setCell (p := ⟨bw, 1, none⟩) HFI.out.2.2 _).setCell (p := ⟨bw, 2, none⟩) HFI.out.2.2 _, HFI.out.2.2⟩
          · go_wp2_with fail
            try rw [List.filterMap_nil]
            try go_wp2_with fail
            go_meet
            exact ⟨bw, ba, bc, rfl, rfl, ((HFI.out.1.set 0 _).set 1 _).set 2 _, ((HFI.out.2.1.setCell (p := ⟨bw, 0, none⟩) HFI.out.2.2 _).setCell (p := ⟨bw, 1, none⟩) HFI.out.2.2 _).setCell (p := ⟨bw, 2, none⟩) HFI.out.2.2 _, HFI.out.2.2⟩
      case rest =>
        obtain ⟨bw2, ba2, bc2, rfl, rfl, Aw, Bw, lw⟩ := hcut
        have z2 : wc.cell? ⟨bw2, 2, none⟩ = some (.string ctx) := Aw.cell 2
        have z1 : wc.cell? ⟨bw, 2, none⟩ = some (.string btx) := HA.out _ Bw
        have HF := hide (HW1.out _ Bw).1
        clear Aw Bw HW1 HA CB1 lw
        go_wp2
        go_quiet (fail)
        go_wp2
        go_ret2
        exact ⟨rfl, below_drewN HF.out _⟩
end Go.Proofs.Ytljooldjcefkoaa
