/- Texts of the proof, bundled: Shelf, Bo, Ns4, Ti, Wi. -/
import Derived.Shelf.LaysM
import Derived.Shelf.Strconv.Clone
import Derived.Test.YtljooldjcefkoaaProg
import Derived.Handy
import Derived.Test.YtljooldjcefkoaaU12
/- Library contracts laid at this translation by the shelf (its own tool, plain mode). -/
namespace Go.Proofs.Ytljooldjcefkoaa
open Go.Shelf
def Try.laysM316_ren : Go.Shelf.Ren := ⟨fun | 316 => 83 | n => n, fun | 9 => 9 | 3 => 3 | 4 => 4 | 37 => 107 | 0 => 0 | 127 => 133 | 5 => 5 | n => n, fun | n => n⟩
theorem Try.laysM316 : Go.Proofs.LaysM.n316 Try.prog Try.laysM316_ren := {
  mixed := by kernel_rfl
  f316 := Try.func83.trans (congrArg some (by kernel_rfl))
  t0 := Try.underlying0
  a0 := Try.isAgg0
  z0 := Try.sizeOf0
  v0 := Try.zeroValue0
  t3 := Try.underlying3
  a3 := Try.isAgg3
  z3 := Try.sizeOf3
  v3 := Try.zeroValue3
  t4 := Try.underlying4
  a4 := Try.isAgg4
  z4 := Try.sizeOf4
  v4 := Try.zeroValue4
  t9 := Try.underlying9
  a9 := Try.isAgg9
  z9 := Try.sizeOf9
  v9 := Try.zeroValue9
  t37 := Try.underlying107
  a37 := Try.isAgg107
  z37 := Try.sizeOf107
  v37 := Try.zeroValue107
  t127 := Try.underlying133
  a127 := Try.isAgg133
  z127 := Try.sizeOf133
  v127 := Try.zeroValue133
  t5 := Try.underlying5
  a5 := Try.isAgg5
  z5 := Try.sizeOf5
  v5 := Try.zeroValue5
  i0 := by kernel_rfl
  i3 := by kernel_rfl
  i4 := by kernel_rfl
  i5 := by kernel_rfl
  i9 := by kernel_rfl
  i37 := by kernel_rfl
  i127 := by kernel_rfl }
open Go.RowKit in
theorem Try.stringslite_Clone (s : ByteArray) (w : World) (hlim : s.size ≤ 281474976710656) :
    Calls Try.prog 83 #[.string s] w fun e w' => e = .returned (.string s) ∧ Below w.heap.size w w' := Any.stringslite_Clone Try.laysM316 s w hlim
end Go.Proofs.Ytljooldjcefkoaa
/- impl.blocksOf, namedSlots, TextOf, nodeAt by their contracts, at right disks. -/
namespace Go.Proofs.Ytljooldjcefkoaa
open Go.RowKit Kit
theorem clone_any (s : ByteArray) (w : World) (hs : s.size ≤ 1000) :
    Calls Try.prog 73 #[.string s] w fun e w' => e = .returned (.string s) ∧ Below w.heap.size w w' := by
  have CS := hide (Try.stringslite_Clone s w (by omega))
  go_enter Try.func73, Try.ntmps73
  go_wp2_with fail
  refine CS.out.mono ?_
  rintro e w1 ⟨rfl, B1⟩
  have HB := hide B1
  clear B1
  go_wp2
  go_ret
  exact ⟨rfl, HB.out⟩
/-- What blocksOf answers. -/
def blocksOf (is : List Ino) (bs : List Blk) (i kind : Int) : List Blk := if kindAt is i = kind then (ptrsAt is i).map (blkAt bs) else []
/-- A block's cells and its reading. -/
theorem blk_cells {w : World} {bv : Value} {bs : List Blk} (h : R3 KB w bv bs) (x : Int) : ∃ t : V3, KB.R w t (blkAt bs x) ∧ (inB x 1 bs.length = false → t = (.bool false, .slice none 0 0, .string ⟨#[]⟩)) ∧ (inB x 1 bs.length = true → ∃ (j : Nat) (g off c : Nat), x = (j : Int) + 1 ∧ j < bs.length ∧ bv = .slice (some ⟨g, off, none⟩) bs.length c ∧ g < w.heap.size ∧ w.cell? ⟨g, off + j * 3, none⟩ = some t.1 ∧ w.cell? ⟨g, off + j * 3 + 1, none⟩ = some t.2.1 ∧ w.cell? ⟨g, off + j * 3 + 2, none⟩ = some t.2.2) := by
  cases hb : inB x 1 bs.length with
  | false =>
    rw [blkAt_no hb]
    exact ⟨(.bool false, .slice none 0 0, .string ⟨#[]⟩), ⟨rfl, ⟨none, 0, rfl, Nat.le_refl _, fun j hj => by simp at hj⟩, rfl⟩, (fun _ => rfl), fun e => by cases e⟩
  | true =>
    obtain ⟨j, hj, rfl, e⟩ := blkAt_in hb
    obtain ⟨a, c, rfl, -, hc⟩ := h
    obtain ⟨g, off, t, rfl, hg, k0, k1, k2, hr⟩ := hc j hj
    exact ⟨t, by rw [e]; exact hr, (fun e => by cases e), fun _ => ⟨j, g, off, c, rfl, hj, rfl, hg, k0, k1, k2⟩⟩
/-- The cells of a list of two blocks, the first j of them put. -/
def cellsJ (u v : V3) : Nat → Array Value
  | 0 => #[.bool false, .slice none 0 0, .string ⟨#[]⟩, .bool false, .slice none 0 0, .string ⟨#[]⟩]
  | 1 => #[u.1, u.2.1, u.2.2, .bool false, .slice none 0 0, .string ⟨#[]⟩]
  | _ => #[u.1, u.2.1, u.2.2, v.1, v.2.1, v.2.2]
theorem cellsJ_1 (u v : V3) : (((cellsJ u v 0).setIfInBounds 0 u.1).setIfInBounds 1 u.2.1).setIfInBounds 2 u.2.2 = cellsJ u v 1 := by simp [cellsJ]
theorem cellsJ_2 (u v : V3) : (((cellsJ u v 1).setIfInBounds 3 v.1).setIfInBounds 4 v.2.1).setIfInBounds 5 v.2.2 = cellsJ u v 2 := by simp [cellsJ]
/-- blocksOf under way. -/
structure BoR (w wr : World) (D L : Array Value) : Prop where
  b : Below w.heap.size w wr
  d : AtC wr w.heap.size 36 D
  l : AtC wr (w.heap.size + 1 + 1) 84 L
theorem BoR.below {w wr wr' : World} {D L : Array Value} (h : BoR w wr D L) (hb : Below wr.heap.size wr wr') : BoR w wr' D L := ⟨h.b.trans (hb.mono h.b.size), h.d.over hb, h.l.over hb⟩
theorem BoR.set {w wr : World} {D L : Array Value} (h : BoR w wr D L) (j : Nat) (x : Value) : BoR w (wr.setCell ⟨w.heap.size + 1 + 1, j, none⟩ x) D (L.setIfInBounds j x) :=
  ⟨h.b.setCell (p := ⟨w.heap.size + 1 + 1, j, none⟩) (by show w.heap.size ≤ w.heap.size + 1 + 1; omega) x, h.d.other (by omega) _, h.l.set j x⟩
theorem BoR.set3 {w wr : World} {D L : Array Value} (h : BoR w wr D L) (o : Nat) (x y z : Value) : BoR w (((wr.setCell ⟨w.heap.size + 1 + 1, o, none⟩ x).setCell ⟨w.heap.size + 1 + 1, o + 1, none⟩ y).setCell ⟨w.heap.size + 1 + 1, o + 2, none⟩ z) D (((L.setIfInBounds o x).setIfInBounds (o + 1) y).setIfInBounds (o + 2) z) := ((h.set o x).set (o + 1) y).set (o + 2) z
theorem r3_two {w : World} {g : Nat} {u v : V3} {x y : Blk} (h : AtC w g 84 #[u.1, u.2.1, u.2.2, v.1, v.2.1, v.2.2]) (hu : KB.R w u x) (hv : KB.R w v y) : R3 KB w (.slice (some ⟨g, 0, none⟩) 2 2) [x, y] := by
  refine ⟨some ⟨g, 0, none⟩, 2, rfl, Nat.le_refl _, fun j hj => ?_⟩
  have hj' : j = 0 ∨ j = 1 := by simp at hj; omega
  rcases hj' with rfl | rfl
  · exact ⟨g, 0, u, rfl, h.lt, h.cell 0, h.cell 1, h.cell 2, hu⟩
  · exact ⟨g, 0, v, rfl, h.lt, h.cell 3, h.cell 4, h.cell 5, hv⟩
set_option maxRecDepth 100000 in
set_option maxHeartbeats 3200000 in
theorem blocksOf_any (i kind : Int) (dx dy iv bv : Value) (xs ys : List Bool) (is : List Ino) (bs : List Blk) (w : World) (h : DR w dx dy iv bv xs ys is bs) (hR : RD is bs) (hk0 : ¬ kind = 0) :
    Calls Try.prog 72 #[.agg #[dx, dy, iv, bv], .int .i64 i, .int .i64 kind] w fun e w' => ∃ v, e = .returned v ∧ R3 KB w' v (blocksOf is bs i kind) ∧ Below w.heap.size w w' := by
  have HH := hide h
  have HRD := hide hR
  obtain ⟨a1, c1, a2, c2, a3, c3, a4, c4, rfl, rfl, rfl, rfl⟩ := h.form
  have h8 := hR.hi
  have h16 := hR.hb
  have hc := h.i
  rw [h8, h16]
  have HB0 : Hid (∀ A B, Below w.heap.size w ((w.alloc (.cells A 36)).alloc (.cells B 36))) := fun A B => ((Below.refl _ w).alloc (Nat.le_refl _) _).alloc (by simp) _
  have CH := hide (fun W => hasI_any i (.slice a1 xs.length c1) (.slice a2 ys.length c2) (.slice a4 16 c4) a3 c3 W)
  have hnil : ∀ W, R3 KB W (.slice none 0 0) [] := fun W => ⟨none, 0, rfl, Nat.le_refl _, fun j hj => by simp at hj⟩
  have HNIL := hide hnil
  clear hnil
  cases hb : inB i 1 8 with
  | false =>
    rw [hb] at CH
    have e0 : blocksOf is bs i kind = [] := by unfold blocksOf; rw [kindAt_out (by rw [h8]; exact hb), if_neg (fun e => hk0 e.symm)]
    rw [e0]
    clear hc h hR hb e0 h8 h16
    go_enter Try.func72, Try.ntmps72
    go_wp2_with fail
    refine (CH.out _).mono ?_
    rintro e w1 ⟨rfl, rfl⟩
    go_wp2
    go_ret
    exact ⟨_, rfl, HNIL.out _, HB0.out _ _⟩
  | true =>
    rw [hb] at CH
    obtain ⟨h1, h2⟩ := inB_true hb
    obtain ⟨j, rfl⟩ : ∃ j : Nat, i = (j : Int) + 1 := ⟨(i - 1).toNat, by omega⟩
    have hj : j < is.length := by omega
    obtain ⟨qa, qc, qe, -, qh⟩ := hc
    simp only [Value.slice.injEq, true_and] at qe
    obtain ⟨rfl, rfl⟩ := qe
    obtain ⟨g2, o2, ⟨t0, t1, t2⟩, rfl, hg2, r0, r1, r2, e0, e1, rr⟩ := qh j hj
    have hpl := hR.two _ (List.getElem_mem hj)
    have hB : blocksOf is bs ((j : Int) + 1) kind = if is[j].1 = kind then is[j].2.2.map (blkAt bs) else [] := by unfold blocksOf; rw [(kindAt_in hj).1, (kindAt_in hj).2]
    rw [hB]
    obtain ⟨⟨kd, ln, ps⟩, hX⟩ : ∃ X, is[j] = X := ⟨_, rfl⟩
    rw [hX] at e0 e1 rr hpl ⊢
    simp only at e0 e1 rr r0 r1 r2 hpl ⊢
    subst e0 e1
    obtain ⟨p0, p1, rfl⟩ : ∃ p0 p1, ps = [p0, p1] := by
      match ps, hpl with
      | [p0, p1], _ => exact ⟨p0, p1, rfl⟩
    obtain ⟨sa, sc, e1, hcp⟩ := rr
    have e2 : t2 = .slice sa 2 sc := e1
    subst e2
    obtain ⟨gp, op, rfl, hgp, kp0⟩ := hcp 0 (by simp)
    obtain ⟨gp', op', e3, -, kp1⟩ := hcp 1 (by simp)
    simp only [Option.some.injEq, Addr.mk.injEq, and_true] at e3
    obtain ⟨rfl, rfl⟩ := e3
    simp only [List.getElem_cons_zero, List.getElem_cons_succ, Nat.add_zero] at kp0 kp1
    have HP0 : Hid (∀ W, Below w.heap.size w W → W.cell? ⟨gp, op, none⟩ = some (.int .i64 p0)) := fun W b => (b.cell (p := ⟨gp, op, none⟩) hgp).trans kp0
    have HP1 : Hid (∀ W, Below w.heap.size w W → W.cell? ⟨gp, op + 1, none⟩ = some (.int .i64 p1)) := fun W b => (b.cell (p := ⟨gp, op + 1, none⟩) hgp).trans kp1
    have HI : Hid (∀ W, Below w.heap.size w W → W.cell? ⟨g2, o2 + j * 3, none⟩ = some (.int .i64 kd) ∧ W.cell? ⟨g2, o2 + j * 3 + 1, none⟩ = some (.int .i64 ln) ∧ W.cell? ⟨g2, o2 + j * 3 + 2, none⟩ = some (.slice (some ⟨gp, op, none⟩) 2 sc)) := fun W bb => ⟨(bb.cell (p := ⟨g2, o2 + j * 3, none⟩) hg2).trans r0, (bb.cell (p := ⟨g2, o2 + j * 3 + 1, none⟩) hg2).trans r1, (bb.cell (p := ⟨g2, o2 + j * 3 + 2, none⟩) hg2).trans r2⟩
    have hwj : IntKind.i64.wrap (j : Int) = (j : Int) := wrap_small _ (by omega) (by omega)
    have j0 : (0 : Int) ≤ (j : Int) := by omega
    have j1 : (j : Int) < 8 := by omega
    obtain ⟨y0, y1, y2⟩ := HI.out _ (HB0.out #[.slice a1 xs.length c1, .slice a2 ys.length c2, .slice (some ⟨g2, o2, none⟩) 8 c3, .slice a4 16 c4] #[.slice a1 xs.length c1, .slice a2 ys.length c2, .slice (some ⟨g2, o2, none⟩) 8 c3, .slice a4 16 c4])
    obtain ⟨⟨u0, u1, u2⟩, RU, FU, GU⟩ := blk_cells HH.out.k p0
    obtain ⟨⟨v0, v1, v2⟩, RV, FV, GV⟩ := blk_cells HH.out.k p1
    obtain ⟨ub, ua, un, uc, ut, hu0, hu1, hu2⟩ : ∃ ub ua un uc ut, u0 = .bool ub ∧ u1 = .slice ua un uc ∧ u2 = .string ut := by
      obtain ⟨q0, ⟨sa', sc', q1, -⟩, q2⟩ := RU
      exact ⟨_, _, _, _, _, q0, q1, q2⟩
    obtain ⟨vb, va, vn, vc, vt, hv0, hv1, hv2⟩ : ∃ ub ua un uc ut, v0 = .bool ub ∧ v1 = .slice ua un uc ∧ v2 = .string ut := by
      obtain ⟨q0, ⟨sa', sc', q1, -⟩, q2⟩ := RV
      exact ⟨_, _, _, _, _, q0, q1, q2⟩
    subst hu0 hu1 hu2 hv0 hv1 hv2
    rw [h16] at FU GU FV GV
    have HF0 := hide FU
    have HF1 := hide FV
    have HG0 := hide GU
    have HG1 := hide GV
    have HRU := hide (And.intro RU RV)
    have CB := hide (fun (p : Int) W => hasB_any p (.slice a1 xs.length c1) (.slice a2 ys.length c2) (.slice (some ⟨g2, o2, none⟩) 8 c3) a4 c4 W)
    clear hB hX hb h1 h2 hcp h r0 r1 r2 kp0 kp1 hpl hR qh RU RV FU FV GU GV h8 h16
    by_cases hkd : kd = kind
    rotate_left
    · have hkb : (kd != kind) = true := by simp [hkd]
      rw [if_neg hkd]
      go_enter Try.func72, Try.ntmps72
      go_wp2_with fail
      refine (CH.out _).mono ?_
      rintro e w1 ⟨rfl, rfl⟩
      go_wp2
      go_ret
      exact ⟨_, rfl, HNIL.out _, HB0.out _ _⟩
    subst hkd
    rw [if_pos rfl]
    have mk : ∀ W : World, (Instr.makeSlice 34 (.int .i64 2) (.int .i64 2)).run Try.prog W = .ok (.slice (some ⟨W.heap.size, 0, none⟩) 2 2) (W.alloc (.cells #[.bool false, .slice none 0 0, .string ⟨#[]⟩, .bool false, .slice none 0 0, .string ⟨#[]⟩] 84)) := fun W => by
      have := make_blk 2 (by decide) W
      rw [show madeCells #[.bool false, .slice none 0 0, .string ⟨#[]⟩] (2 * 3) = cellsJ (.bool ub, .slice ua un uc, .string ut) (.bool vb, .slice va vn vc, .string vt) 0 from Array.toList_inj.1 (by rw [made_three]; rfl)] at this
      exact this
    go_enter Try.func72, Try.ntmps72
    go_wp2_with fail
    refine (CH.out _).mono ?_
    rintro e w1 ⟨rfl, rfl⟩
    have HBOX : Hid (BoR w (((w.alloc (.cells #[.slice a1 xs.length c1, .slice a2 ys.length c2, .slice (some ⟨g2, o2, none⟩) 8 c3, .slice a4 16 c4] 36)).alloc (.cells #[.slice a1 xs.length c1, .slice a2 ys.length c2, .slice (some ⟨g2, o2, none⟩) 8 c3, .slice a4 16 c4] 36)).alloc (.cells #[.bool false, .slice none 0 0, .string ⟨#[]⟩, .bool false, .slice none 0 0, .string ⟨#[]⟩] 84)) #[.slice a1 xs.length c1, .slice a2 ys.length c2, .slice (some ⟨g2, o2, none⟩) 8 c3, .slice a4 16 c4] (cellsJ (.bool ub, .slice ua un uc, .string ut) (.bool vb, .slice va vn vc, .string vt) 0)) := by
      refine ⟨(HB0.out _ _).alloc (HB0.out #[.slice a1 xs.length c1, .slice a2 ys.length c2, .slice (some ⟨g2, o2, none⟩) 8 c3, .slice a4 16 c4] #[.slice a1 xs.length c1, .slice a2 ys.length c2, .slice (some ⟨g2, o2, none⟩) 8 c3, .slice a4 16 c4]).size _, ((AtC.new w 36 _).alloc _).alloc _, ?_⟩
      have := AtC.new ((w.alloc (.cells #[.slice a1 xs.length c1, .slice a2 ys.length c2, .slice (some ⟨g2, o2, none⟩) 8 c3, .slice a4 16 c4] 36)).alloc (.cells #[.slice a1 xs.length c1, .slice a2 ys.length c2, .slice (some ⟨g2, o2, none⟩) 8 c3, .slice a4 16 c4] 36)) 84 #[.bool false, .slice none 0 0, .string ⟨#[]⟩, .bool false, .slice none 0 0, .string ⟨#[]⟩]
      rw [World.size_alloc, World.size_alloc] at this
      exact this
    go_wp2_with fail
    clear y0 y1 y2 CH HNIL HB0
    go_loopw [38] (fun iv wr => ∃ q : Nat, q ≤ 2 ∧ iv = .int .i64 q ∧ Hid (BoR w wr #[.slice a1 xs.length c1, .slice a2 ys.length c2, .slice (some ⟨g2, o2, none⟩) 8 c3, .slice a4 16 c4] (cellsJ (.bool ub, .slice ua un uc, .string ut) (.bool vb, .slice va vn vc, .string vt) q))) (fun iv _ => 2 - (intOf iv).toNat)
    case atStart => exact ⟨0, by omega, rfl, HBOX.out⟩
    case round =>
      obtain ⟨q, hq, rfl, HS⟩ := hrel
      clear HBOX mk
      have hq3 : q = 0 ∨ q = 1 ∨ q = 2 := by omega
      rcases hq3 with rfl | rfl | rfl
      · skip
        have y1 : wr.cell? ⟨gp, op, none⟩ = some (.int .i64 p0) := HP0.out _ HS.out.b
        have z0 : wr.cell? ⟨w.heap.size, 0, none⟩ = some (.slice a1 xs.length c1) := HS.out.d.cell 0
        have z1 : wr.cell? ⟨w.heap.size, 1, none⟩ = some (.slice a2 ys.length c2) := HS.out.d.cell 1
        have z2 : wr.cell? ⟨w.heap.size, 2, none⟩ = some (.slice (some ⟨g2, o2, none⟩) 8 c3) := HS.out.d.cell 2
        have z3 : wr.cell? ⟨w.heap.size, 3, none⟩ = some (.slice a4 16 c4) := HS.out.d.cell 3
        cases hb : inB p0 1 16 with
        | false =>
          have HZ := hide (HF0.out hb)
          have CB2 := hide (fun W => CB.out p0 W)
          rw [hb] at CB2
          clear hb
          go_wp2_with fail
          refine (CB2.out _).mono ?_
          rintro e w5 ⟨rfl, rfl⟩
          have HS2 := hide (HS.out.below ((Below.refl _ wr).alloc (Nat.le_refl _) (.cells #[.slice a1 xs.length c1, .slice a2 ys.length c2, .slice (some ⟨g2, o2, none⟩) 8 c3, .slice a4 16 c4] 36)))
          clear z0 z1 z2 z3 y1
          go_wp2
          go_roundw
          case rel =>
            refine ⟨1, by omega, rfl, hide ?_⟩
            have := HS2.out
            rw [show cellsJ (.bool ub, .slice ua un uc, .string ut) (.bool vb, .slice va vn vc, .string vt) 1 = cellsJ (.bool ub, .slice ua un uc, .string ut) (.bool vb, .slice va vn vc, .string vt) 0 from by have := HZ.out; simp only [Prod.mk.injEq] at this; obtain ⟨q0, q1, q2⟩ := this; simp only [cellsJ, q0, q1, q2]]
            exact this
          case measure => simp [intOf]
        | true =>
          obtain ⟨jb, gb, ob, cb, hpj, hjb, eb, hgb, b0, b1, b2⟩ := HG0.out hb
          simp only [Value.slice.injEq, true_and] at eb
          obtain ⟨rfl, -⟩ := eb
          have CB2 := hide (fun W => CB.out p0 W)
          rw [hb] at CB2
          clear hb
          subst hpj
          have jb16 : jb < 16 := by omega
          have hwj2 : IntKind.i64.wrap (jb : Int) = (jb : Int) := wrap_small _ (by omega) (by omega)
          have jb0 : (0 : Int) ≤ (jb : Int) := by omega
          have jb1 : (jb : Int) < 16 := by omega
          go_wp2_with fail
          refine (CB2.out _).mono ?_
          rintro e w5 ⟨rfl, rfl⟩
          obtain ⟨w5, hw5⟩ : ∃ w5, wr.alloc (.cells #[.slice a1 xs.length c1, .slice a2 ys.length c2, .slice (some ⟨g2, o2, none⟩) 8 c3, .slice (some ⟨gb, ob, none⟩) 16 c4] 36) = w5 := ⟨_, rfl⟩
          have HS2 : Hid (BoR w w5 #[.slice a1 xs.length c1, .slice a2 ys.length c2, .slice (some ⟨g2, o2, none⟩) 8 c3, .slice (some ⟨gb, ob, none⟩) 16 c4] (cellsJ (.bool ub, .slice ua un uc, .string ut) (.bool vb, .slice va vn vc, .string vt) 0)) := by rw [← hw5]; exact HS.out.below ((Below.refl _ wr).alloc (Nat.le_refl _) _)
          have d0 := (HS2.out.b.cell (p := ⟨gb, ob + jb * 3, none⟩) hgb).trans b0
          have d1 := (HS2.out.b.cell (p := ⟨gb, ob + jb * 3 + 1, none⟩) hgb).trans b1
          have d2 := (HS2.out.b.cell (p := ⟨gb, ob + jb * 3 + 2, none⟩) hgb).trans b2
          have z3 : w5.cell? ⟨w.heap.size, 3, none⟩ = some (.slice (some ⟨gb, ob, none⟩) 16 c4) := HS2.out.d.cell 3
          rw [hw5]
          clear hw5 b0 b1 b2 y1 z0 z1 z2 HS CB2
          have k0 : w5.cell? ⟨w.heap.size + 1 + 1, 0, none⟩ = some (.bool false) := HS2.out.l.cell 0
          have k1 : w5.cell? ⟨w.heap.size + 1 + 1, 1, none⟩ = some (.slice none 0 0) := HS2.out.l.cell 1
          have k2 : w5.cell? ⟨w.heap.size + 1 + 1, 2, none⟩ = some (.string ⟨#[]⟩) := HS2.out.l.cell 2
          have f0 := HS2.out.l.frozen 0
          have f1 := HS2.out.l.frozen 1
          have f2 := HS2.out.l.frozen 2
          have l5 : w.heap.size + 1 + 1 < w5.heap.size := HS2.out.l.lt
          have hgb2 : ¬ gb = w.heap.size + 1 + 1 := by omega
          have HS3 := hide (HS2.out.set3 0 (.bool ub) (.slice ua un uc) (.string ut))
          rw [cellsJ_1 (.bool ub, .slice ua un uc, .string ut) (.bool vb, .slice va vn vc, .string vt)] at HS3
          clear HS2
          go_wp2
          go_roundw
          case rel => exact ⟨1, by omega, rfl, HS3.out⟩
          case measure => simp [intOf]
      · skip
        have y1 : wr.cell? ⟨gp, op + 1, none⟩ = some (.int .i64 p1) := HP1.out _ HS.out.b
        have z0 : wr.cell? ⟨w.heap.size, 0, none⟩ = some (.slice a1 xs.length c1) := HS.out.d.cell 0
        have z1 : wr.cell? ⟨w.heap.size, 1, none⟩ = some (.slice a2 ys.length c2) := HS.out.d.cell 1
        have z2 : wr.cell? ⟨w.heap.size, 2, none⟩ = some (.slice (some ⟨g2, o2, none⟩) 8 c3) := HS.out.d.cell 2
        have z3 : wr.cell? ⟨w.heap.size, 3, none⟩ = some (.slice a4 16 c4) := HS.out.d.cell 3
        cases hb : inB p1 1 16 with
        | false =>
          have HZ := hide (HF1.out hb)
          have CB2 := hide (fun W => CB.out p1 W)
          rw [hb] at CB2
          clear hb
          go_wp2_with fail
          refine (CB2.out _).mono ?_
          rintro e w5 ⟨rfl, rfl⟩
          have HS2 := hide (HS.out.below ((Below.refl _ wr).alloc (Nat.le_refl _) (.cells #[.slice a1 xs.length c1, .slice a2 ys.length c2, .slice (some ⟨g2, o2, none⟩) 8 c3, .slice a4 16 c4] 36)))
          clear z0 z1 z2 z3 y1
          go_wp2
          go_roundw
          case rel =>
            refine ⟨2, by omega, rfl, hide ?_⟩
            have := HS2.out
            rw [show cellsJ (.bool ub, .slice ua un uc, .string ut) (.bool vb, .slice va vn vc, .string vt) 2 = cellsJ (.bool ub, .slice ua un uc, .string ut) (.bool vb, .slice va vn vc, .string vt) 1 from by have := HZ.out; simp only [Prod.mk.injEq] at this; obtain ⟨q0, q1, q2⟩ := this; simp only [cellsJ, q0, q1, q2]]
            exact this
          case measure => simp [intOf]
        | true =>
          obtain ⟨jb, gb, ob, cb, hpj, hjb, eb, hgb, b0, b1, b2⟩ := HG1.out hb
          simp only [Value.slice.injEq, true_and] at eb
          obtain ⟨rfl, -⟩ := eb
          have CB2 := hide (fun W => CB.out p1 W)
          rw [hb] at CB2
          clear hb
          subst hpj
          have jb16 : jb < 16 := by omega
          have hwj2 : IntKind.i64.wrap (jb : Int) = (jb : Int) := wrap_small _ (by omega) (by omega)
          have jb0 : (0 : Int) ≤ (jb : Int) := by omega
          have jb1 : (jb : Int) < 16 := by omega
          go_wp2_with fail
          refine (CB2.out _).mono ?_
          rintro e w5 ⟨rfl, rfl⟩
          obtain ⟨w5, hw5⟩ : ∃ w5, wr.alloc (.cells #[.slice a1 xs.length c1, .slice a2 ys.length c2, .slice (some ⟨g2, o2, none⟩) 8 c3, .slice (some ⟨gb, ob, none⟩) 16 c4] 36) = w5 := ⟨_, rfl⟩
          have HS2 : Hid (BoR w w5 #[.slice a1 xs.length c1, .slice a2 ys.length c2, .slice (some ⟨g2, o2, none⟩) 8 c3, .slice (some ⟨gb, ob, none⟩) 16 c4] (cellsJ (.bool ub, .slice ua un uc, .string ut) (.bool vb, .slice va vn vc, .string vt) 1)) := by rw [← hw5]; exact HS.out.below ((Below.refl _ wr).alloc (Nat.le_refl _) _)
          have d0 := (HS2.out.b.cell (p := ⟨gb, ob + jb * 3, none⟩) hgb).trans b0
          have d1 := (HS2.out.b.cell (p := ⟨gb, ob + jb * 3 + 1, none⟩) hgb).trans b1
          have d2 := (HS2.out.b.cell (p := ⟨gb, ob + jb * 3 + 2, none⟩) hgb).trans b2
          have z3 : w5.cell? ⟨w.heap.size, 3, none⟩ = some (.slice (some ⟨gb, ob, none⟩) 16 c4) := HS2.out.d.cell 3
          rw [hw5]
          clear hw5 b0 b1 b2 y1 z0 z1 z2 HS CB2
          have k0 : w5.cell? ⟨w.heap.size + 1 + 1, 3, none⟩ = some (.bool false) := HS2.out.l.cell 3
          have k1 : w5.cell? ⟨w.heap.size + 1 + 1, 4, none⟩ = some (.slice none 0 0) := HS2.out.l.cell 4
          have k2 : w5.cell? ⟨w.heap.size + 1 + 1, 5, none⟩ = some (.string ⟨#[]⟩) := HS2.out.l.cell 5
          have f0 := HS2.out.l.frozen 3
          have f1 := HS2.out.l.frozen 4
          have f2 := HS2.out.l.frozen 5
          have l5 : w.heap.size + 1 + 1 < w5.heap.size := HS2.out.l.lt
          have hgb2 : ¬ gb = w.heap.size + 1 + 1 := by omega
          have HS3 := hide (HS2.out.set3 3 (.bool vb) (.slice va vn vc) (.string vt))
          rw [cellsJ_2 (.bool ub, .slice ua un uc, .string ut) (.bool vb, .slice va vn vc, .string vt)] at HS3
          clear HS2
          go_wp2
          go_roundw
          case rel => exact ⟨2, by omega, rfl, HS3.out⟩
          case measure => simp [intOf]
      · go_wp2
        go_ret
        exact ⟨_, rfl, r3_two HS.out.l (KB.bel HRU.out.1 HS.out.b (Nat.le_refl _)) (KB.bel HRU.out.2 HS.out.b (Nat.le_refl _)), HS.out.b⟩
end Go.Proofs.Ytljooldjcefkoaa
/- impl.namedSlots by its contract, at right disks. -/
namespace Go.Proofs.Ytljooldjcefkoaa
open Go.RowKit Kit
theorem step_append_sl (W : World) {ops : Array Oper} {o : Oper} {a : Act} {K : Act → World → Prop} {Q : Exit → Act → World → Prop} {E : Prop} (hgd : o.guard = none) (s x : Operand)
    (ho : o.op = .call { callee := .builtin .append, args := #[s, x], argTypes := #[82, 82] }) (base : Nat) (v : Value) (l : List Sl) (hs : a.eval s = v) (hown : SOwns W base 100 v l) (hbase : base ≤ W.heap.size)
    (g : Nat) (nm : ByteArray) (io : Int) (hx : a.eval x = .slice (some ⟨g, 0, none⟩) 1 1) (hc : AtC W g 100 #[.string nm, .int .i64 io]) (hl : l.length ≤ 100000000000)
    (h : ∀ v' w', SOwns w' base 100 v' (l ++ [(nm, io)]) → W.grownBy w' v.ownBlock → (∀ k, v'.ownBlock = some k → v.ownBlock = some k ∨ W.heap.size ≤ k) → K (a.put o.dst v') w') :
    if Region.wanted o (yielded ops a.tmps) = true then Oper.wp Try.prog o a W K Q else E := by
  obtain ⟨i0, hi, hz0, hz1, hz2⟩ := info_parts Try.i100
  refine step_append_lies _ hgd s x 82 ho base 100 i0 _ 2 24 Try.u82 hi hz0 hz1 hz2 rfl (by decide) v l.length (sc l) hs hown ⟨g, 0, none⟩ 1 1 [.string nm, .int .i64 io] hx rfl ?_ ?_ (by decide) ?_ ?_ hbase W.heap.size rfl ?_
  · intro j u hj
    have := (hc.cell j).trans (show (#[.string nm, .int .i64 io] : Array Value)[j]? = some u by simpa using hj)
    by_cases e : j = 0
    · subst e; simpa [Addr.add] using this
    · simpa [Addr.add, e] using this
  · intro u hu
    simp only [List.mem_cons, List.not_mem_nil, or_false] at hu
    rcases hu with rfl | rfl <;> rfl
  · unfold maxLen; omega
  · omega
  · intro g' cap w' hown' hgrow hat _
    refine h _ w' ?_ hgrow fun k hk => ?_
    · show w'.ownsRow base 100 2 _ (l ++ [(nm, io)]).length (sc (l ++ [(nm, io)]))
      rw [List.length_append, sc_append]
      exact hown'
    · simp only [Value.ownBlock, Option.some.injEq] at hk
      subst hk
      rcases hat with hat | hat
      · exact .inl hat
      · exact .inr (by omega)
theorem nmdS_blk {is : List Ino} {bs : List Blk} (h : RD is bs) (x : Int) : nmdS (blkAt bs x).2.1 = nmd (blkAt bs x) := by
  unfold nmd
  split
  · rfl
  · rename_i e
    have e : (blkAt bs x).1 = false := by simpa using e
    rcases blkAt_cases bs x with q | q
    · rw [q]; rfl
    · rw [h.text _ q e]; rfl
/-- The named slots of blocks. -/
def nmdB (l : List Blk) : List Sl := l.flatMap fun b => nmdS b.2.1
theorem nmdB_named {is : List Ino} {bs : List Blk} (h : RD is bs) (i : Int) : nmdB (blocksOf is bs i 2) = named is bs i := by
  unfold named blocksOf nmdB
  split
  · unfold nmdP
    rw [List.flatMap_map]
    congr 1
    funext x
    exact nmdS_blk h x
  · rfl
theorem blocksOf_len {is : List Ino} {bs : List Blk} (h : RD is bs) (i k : Int) : (blocksOf is bs i k).length ≤ 2 ∧ ∀ b ∈ blocksOf is bs i k, b.2.1.length ≤ 4 ∧ b.2.2.size ≤ 16 := by
  unfold blocksOf
  split
  · refine ⟨?_, fun b hb => ?_⟩
    · rw [List.length_map]
      rcases kindAt_cases (is := is) i with ⟨-, e⟩ | ⟨q, hq, -, e⟩
      · rw [e]; simp
      · rw [e, h.two q hq]; exact Nat.le_refl _
    · obtain ⟨x, -, rfl⟩ := List.mem_map.1 hb
      refine ⟨h.blk4 x, ?_⟩
      rcases blkAt_cases bs x with e | e
      · rw [e]; exact Nat.zero_le _
      · exact h.tx _ e
  · exact ⟨by simp, fun b hb => by cases hb⟩
theorem nmdB_take {l : List Blk} {q : Nat} (h : q < l.length) : nmdB (l.take (q + 1)) = nmdB (l.take q) ++ nmdS l[q].2.1 := by
  rw [List.take_succ_eq_append_getElem h]
  unfold nmdB
  rw [List.flatMap_append, List.flatMap_cons, List.flatMap_nil, List.append_nil]
set_option maxRecDepth 100000 in
set_option maxHeartbeats 3200000 in
theorem namedI_any (i : Int) (dx dy iv bv : Value) (xs ys : List Bool) (is : List Ino) (bs : List Blk) (w : World) (h : DR w dx dy iv bv xs ys is bs) (hR : RD is bs) :
    Calls Try.prog 54 #[.agg #[dx, dy, iv, bv], .int .i64 i] w fun e w' => ∃ v, e = .returned v ∧ SOwns w' w.heap.size 100 v (named is bs i) ∧ Below w.heap.size w w' := by
  have CB := hide (blocksOf_any i 2 dx dy iv bv xs ys is bs (w.alloc (.cells #[dx, dy, iv, bv] 36)) (h.alloc _) hR (by decide))
  obtain ⟨HL1, HL2⟩ := blocksOf_len hR i 2
  have HBL := hide HL2
  rw [← nmdB_named hR i]
  obtain ⟨a1, c1, a2, c2, a3, c3, a4, c4, rfl, rfl, rfl, rfl⟩ := h.form
  obtain ⟨BL, hBL⟩ : ∃ l, blocksOf is bs i 2 = l := ⟨_, rfl⟩
  rw [hBL] at CB HBL HL1 ⊢
  obtain ⟨RES, hRES⟩ : ∃ l, nmdB BL = l := ⟨_, rfl⟩
  rw [hRES]
  have HRES := hide hRES
  clear h hR HL2 hBL hRES
  go_enter Try.func54, Try.ntmps54
  go_wp2_with fail
  refine CB.out.mono ?_
  rintro e w1 ⟨lv, rfl, R1, B1⟩
  have HB1 : Hid (Below w.heap.size w w1) := ((Below.refl _ w).alloc (Nat.le_refl _) _).trans (B1.mono (by simp))
  obtain ⟨la, lc, rfl, -, hcl⟩ := R1
  have HCL := hide hcl
  clear B1 hcl CB
  go_wp2_with fail
  go_loopw [5, 14] (fun sv kv wr => ∃ (s' : Value) (q : Nat), s' = sv ∧ q ≤ BL.length ∧ kv = .int .i64 q ∧ Hid (SOwns wr w1.heap.size 100 s' (nmdB (BL.take q)) ∧ Below w1.heap.size w1 wr ∧ (nmdB (BL.take q)).length ≤ 4 * q)) (fun _ kv _ => BL.length - (intOf kv).toNat)
  case atStart => exact ⟨_, 0, rfl, Nat.zero_le _, rfl, SOwns.nil _ _ _, Below.refl _ _, by simp [nmdB]⟩
  case round =>
    obtain ⟨sv, q, hsv, hq, rfl, HR⟩ := hrel
    subst hsv
    have q0 : (0 : Int) ≤ (q : Int) := by omega
    by_cases hlt : q < BL.length
    rotate_left
    · have q1 : ¬ ((q : Int) < (BL.length : Int)) := by omega
      go_wp2
      go_ret
      refine ⟨_, rfl, ?_, HB1.out.trans (HR.out.2.1.mono HB1.out.size)⟩
      have := HR.out.1
      rw [List.take_of_length_le (by omega), HRES.out] at this
      exact this.base_le HB1.out.size
    have q1 : (q : Int) < (BL.length : Int) := by omega
    have HT := hide (nmdB_take hlt)
    have HB4 := hide (HBL.out _ (List.getElem_mem hlt)).1
    obtain ⟨gb, ob, ⟨t0, t1, t2⟩, rfl, hgb, b0, b1, b2, r0, r1, r2⟩ := HCL.out q hlt
    simp only at b0 b1 b2 r0 r1 r2
    subst r0 r2
    obtain ⟨bd, hbd⟩ : ∃ X, BL[q].1 = X := ⟨_, rfl⟩
    obtain ⟨bss, hbss⟩ : ∃ X, BL[q].2.1 = X := ⟨_, rfl⟩
    obtain ⟨btx, hbtx⟩ : ∃ X, BL[q].2.2 = X := ⟨_, rfl⟩
    rw [hbd] at b0
    rw [hbss] at r1 HT HB4
    rw [hbtx] at b2
    obtain ⟨sa, sc', rfl, -, hcs⟩ := r1
    have HCS := hide hcs
    replace b0 := (HR.out.2.1.cell (p := ⟨gb, ob + q * 3, none⟩) hgb).trans b0
    replace b1 := (HR.out.2.1.cell (p := ⟨gb, ob + q * 3 + 1, none⟩) hgb).trans b1
    replace b2 := (HR.out.2.1.cell (p := ⟨gb, ob + q * 3 + 2, none⟩) hgb).trans b2
    have hgw : ¬ gb = wr.heap.size := by have := HR.out.2.1.size; omega
    have HAL : Hid (Below wr.heap.size wr (wr.alloc (.cells #[.bool bd, .slice sa bss.length sc', .string btx] 84))) := (Below.refl _ wr).alloc (Nat.le_refl _) _
    have HR2 : Hid (SOwns (wr.alloc (.cells #[.bool bd, .slice sa bss.length sc', .string btx] 84)) w1.heap.size 100 sv (nmdB (BL.take q) ++ nmdS (bss.take 0)) ∧ Below w1.heap.size w1 (wr.alloc (.cells #[.bool bd, .slice sa bss.length sc', .string btx] 84)) ∧ (nmdB (BL.take q) ++ nmdS (bss.take 0)).length ≤ 4 * q + 0) := by
      have e : nmdS (bss.take 0) = [] := by simp [nmdS]
      rw [e, List.append_nil]
      exact ⟨HR.out.1.alloc _, HR.out.2.1.alloc HR.out.2.1.size _, HR.out.2.2⟩
    clear hbd hbss hbtx hcs
    obtain ⟨W2, hW2⟩ : ∃ W2, wr.alloc (.cells #[.bool bd, .slice sa bss.length sc', .string btx] 84) = W2 := ⟨_, rfl⟩
    have x1 : W2.cell? ⟨wr.heap.size, 1, none⟩ = some (.slice sa bss.length sc') := by rw [← hW2]; exact (AtC.new wr 84 _).cell 1
    rw [hW2] at HR2
    go_wp2_with fail
    clear b0 b1 b2 HR hW2 x1 HAL
    go_loopw [5, 21] (fun sv kv wr => ∃ (s' : Value) (t : Nat), s' = sv ∧ t ≤ bss.length ∧ kv = .int .i64 t ∧ Hid (SOwns wr w1.heap.size 100 s' (nmdB (BL.take q) ++ nmdS (bss.take t)) ∧ Below w1.heap.size w1 wr ∧ (nmdB (BL.take q) ++ nmdS (bss.take t)).length ≤ 4 * q + t)) (fun _ kv _ => bss.length - (intOf kv).toNat)
    case atStart => exact ⟨_, 0, rfl, Nat.zero_le _, rfl, HR2.out⟩
    case round =>
      obtain ⟨sv', t, hsv, ht, rfl, HS⟩ := hrel
      subst hsv
      clear HR2
      have t0 : (0 : Int) ≤ (t : Int) := by omega
      have hq2 : q < 2 := by omega
      by_cases htl : t < bss.length
      rotate_left
      · have t1 : ¬ ((t : Int) < (bss.length : Int)) := by omega
        go_wp2
        go_roundw
        case rel =>
          refine ⟨_, q + 1, rfl, by omega, by go_num, ?_, HS.out.2.1, ?_⟩
          · have := HS.out.1
            rw [List.take_of_length_le (show bss.length ≤ t by omega), ← HT.out] at this
            exact this
          · have := HS.out.2.2
            rw [List.take_of_length_le (show bss.length ≤ t by omega), ← HT.out] at this
            have := HB4.out
            omega
        case measure => simp [intOf]; omega
      have t1 : (t : Int) < (bss.length : Int) := by omega
      have HTS := hide (nmdS_take htl)
      obtain ⟨gs, os, rfl, hgs, ks0, ks1⟩ := HCS.out t htl
      obtain ⟨⟨sn, si⟩, hsn⟩ : ∃ X, bss[t] = X := ⟨_, rfl⟩
      rw [hsn] at ks0 ks1 HTS
      simp only at ks0 ks1
      replace ks0 := (HS.out.2.1.cell (p := ⟨gs, os + t * 2, none⟩) hgs).trans ks0
      replace ks1 := (HS.out.2.1.cell (p := ⟨gs, os + t * 2 + 1, none⟩) hgs).trans ks1
      have hgsw : ¬ gs = wr.heap.size := by have := HS.out.2.1.size; omega
      clear hsn
      have hb4 := HB4.out
      by_cases hse : sn = ⟨#[]⟩
      · subst hse
        have HS2 : Hid (SOwns (wr.alloc (.cells #[.string ⟨#[]⟩, .int .i64 si] 100)) w1.heap.size 100 sv' (nmdB (BL.take q) ++ nmdS (bss.take (t + 1))) ∧ Below w1.heap.size w1 (wr.alloc (.cells #[.string ⟨#[]⟩, .int .i64 si] 100)) ∧ (nmdB (BL.take q) ++ nmdS (bss.take (t + 1))).length ≤ 4 * q + (t + 1)) := by
          have e := HTS.out
          rw [if_pos rfl, List.append_nil] at e
          rw [e]
          exact ⟨HS.out.1.alloc _, HS.out.2.1.alloc HS.out.2.1.size _, by have := HS.out.2.2; omega⟩
        go_wp2
        go_roundw
        case rel => exact ⟨_, t + 1, rfl, by omega, by go_num, HS2.out⟩
        case measure => simp [intOf]; omega
      have hse2 : (sn.toList == ([] : List UInt8)) = false := beq_empty hse
      have hse3 : (sn.toList != ([] : List UInt8)) = true := by simp [bne, hse2]
      have HAL2 : Hid (Below w1.heap.size w1 ((wr.alloc (.cells #[.string sn, .int .i64 si] 100)).alloc (.cells #[.string sn, .int .i64 si] 100)) ∧ SOwns ((wr.alloc (.cells #[.string sn, .int .i64 si] 100)).alloc (.cells #[.string sn, .int .i64 si] 100)) w1.heap.size 100 sv' (nmdB (BL.take q) ++ nmdS (bss.take t)) ∧ AtC ((wr.alloc (.cells #[.string sn, .int .i64 si] 100)).alloc (.cells #[.string sn, .int .i64 si] 100)) (wr.heap.size + 1) 100 #[.string sn, .int .i64 si]) := by
        have a := AtC.new (wr.alloc (.cells #[.string sn, .int .i64 si] 100)) 100 #[.string sn, .int .i64 si]
        rw [World.size_alloc] at a
        have sz := HS.out.2.1.size
        exact ⟨(HS.out.2.1.alloc sz _).alloc (by simp; omega) _, (HS.out.1.alloc _).alloc _, a⟩
      have HSZ : Hid (w1.heap.size ≤ ((wr.alloc (.cells #[.string sn, .int .i64 si] 100)).alloc (.cells #[.string sn, .int .i64 si] 100)).heap.size) := HAL2.out.1.size
      have HTL : Hid ((nmdB (BL.take q) ++ nmdS (bss.take t)).length ≤ 100000000000) := by have := HS.out.2.2; show _ ≤ _; omega
      go_wp2_with (at_builtin; refine wpList_step fun K' hK' => ?_; refine step_append_sl _ rfl (.tmp 28) (.tmp 30) rfl w1.heap.size sv' _ rfl HAL2.out.2.1 HSZ.out (wr.heap.size + 1) sn si rfl HAL2.out.2.2 HTL.out ?_; intro v12 w12 T12 G12 V12; refine hK' _ _ ?_; have HR12 := hide (And.intro T12 (And.intro G12 V12)); clear T12 G12 V12 hK')
      have HS2 : Hid (SOwns w12 w1.heap.size 100 v12 (nmdB (BL.take q) ++ nmdS (bss.take (t + 1))) ∧ Below w1.heap.size w1 w12 ∧ (nmdB (BL.take q) ++ nmdS (bss.take (t + 1))).length ≤ 4 * q + (t + 1)) := by
        have e := HTS.out
        rw [if_neg hse] at e
        rw [e, ← List.append_assoc]
        refine ⟨HR12.out.1, HAL2.out.1.grown HR12.out.2.1 HSZ.out (fun k hk => (HAL2.out.2.1.lt k hk).1), ?_⟩
        have := HS.out.2.2
        rw [List.length_append]
        simp
        simp at this
        omega
      go_roundw
      case rel => exact ⟨_, t + 1, rfl, by omega, by go_num, HS2.out⟩
      case measure => simp [intOf]; omega
end Go.Proofs.Ytljooldjcefkoaa
/- impl.TextOf and nodeAt by their contracts, at right disks. -/
namespace Go.Proofs.Ytljooldjcefkoaa
open Go.RowKit Kit
/-- The texts of the first q of two blocks. -/
def txJ (x y : ByteArray) : Nat → Array Value
  | 0 => #[.string ⟨#[]⟩, .string ⟨#[]⟩]
  | 1 => #[.string x, .string ⟨#[]⟩]
  | _ => #[.string x, .string y]
/-- TextOf under way: all below W's size but the texts' block stays. -/
structure TxW (w w1 wr : World) (L : Array Value) : Prop where
  b : Below w.heap.size w wr
  k : ∀ g, g < w1.heap.size → g ≠ w.heap.size + 1 → wr.heap[g]? = w1.heap[g]?
  z : w1.heap.size ≤ wr.heap.size
  l : AtC wr (w.heap.size + 1) 115 L
theorem TxW.below {w w1 wr wr' : World} {L : Array Value} (h : TxW w w1 wr L) (hb : Below wr.heap.size wr wr') : TxW w w1 wr' L :=
  ⟨h.b.trans (hb.mono h.b.size), fun g hg hn => (hb.block g (by have := h.z; omega)).trans (h.k g hg hn), Nat.le_trans h.z hb.size, h.l.over hb⟩
theorem TxW.set {w w1 wr : World} {L : Array Value} (h : TxW w w1 wr L) (j : Nat) (x : Value) : TxW w w1 (wr.setCell ⟨w.heap.size + 1, j, none⟩ x) (L.setIfInBounds j x) :=
  ⟨h.b.setCell (p := ⟨w.heap.size + 1, j, none⟩) (by show w.heap.size ≤ w.heap.size + 1; omega) x, fun g hg hn => (heap_setCell_other wr ⟨w.heap.size + 1, j, none⟩ g x hn).trans (h.k g hg hn), by have := h.z; simp; exact this, h.l.set j x⟩
theorem TxW.cell {w w1 wr : World} {L : Array Value} (h : TxW w w1 wr L) {g o : Nat} (hg : g < w1.heap.size) (hn : g ≠ w.heap.size + 1) : wr.cell? ⟨g, o, none⟩ = w1.cell? ⟨g, o, none⟩ := by
  unfold World.cell?
  rw [h.k g hg hn]
theorem txJ_1 (x y : ByteArray) : (txJ x y 0).setIfInBounds 0 (.string x) = txJ x y 1 := by simp [txJ]
theorem txJ_2 (x y : ByteArray) : (txJ x y 1).setIfInBounds 1 (.string y) = txJ x y 2 := by simp [txJ]
theorem textsAt_blocks {is : List Ino} {bs : List Blk} (h : RD is bs) (i : Int) : (blocksOf is bs i 1 = [] ∧ textsAt is bs i = (⟨#[]⟩, ⟨#[]⟩)) ∨ ∃ x y, blocksOf is bs i 1 = [x, y] ∧ textsAt is bs i = (x.2.2, y.2.2) := by
  unfold blocksOf textsAt
  by_cases e : kindAt is i = 1
  · rw [if_pos e, if_pos e]
    refine .inr ?_
    rcases kindAt_cases (is := is) i with ⟨q, -⟩ | ⟨q, hq, -, e2⟩
    · rw [q] at e; cases e
    · have hl := h.two q hq
      rw [e2]
      match q.2.2, hl with
      | [a, b], _ => exact ⟨_, _, rfl, rfl⟩
  · rw [if_neg e, if_neg e]
    exact .inl ⟨rfl, rfl⟩
theorem heap_old {w : World} {g : Nat} {o : Obj} (h : w.heap[g]? = some o) : g < w.heap.size := (Array.getElem?_eq_some_iff.1 h).1
set_option maxRecDepth 100000 in
set_option maxHeartbeats 3200000 in
theorem textI_any (i : Int) (dx dy iv bv : Value) (xs ys : List Bool) (is : List Ino) (bs : List Blk) (w : World) (h : DR w dx dy iv bv xs ys is bs) (hR : RD is bs) :
    Calls Try.prog 52 #[.agg #[dx, dy, iv, bv], .int .i64 i] w fun e w' => e = .returned (.tuple #[.string (textsAt is bs i).1, .string (textsAt is bs i).2]) ∧ Below w.heap.size w w' := by
  have CB := hide (blocksOf_any i 1 dx dy iv bv xs ys is bs ((w.alloc (.cells #[dx, dy, iv, bv] 36)).alloc (.cells #[.string ⟨#[]⟩, .string ⟨#[]⟩] 115)) ((h.alloc _).alloc _) hR (by decide))
  have HL := hide (blocksOf_len hR i 1).2
  obtain ⟨a1, c1, a2, c2, a3, c3, a4, c4, rfl, rfl, rfl, rfl⟩ := h.form
  have HT := textsAt_blocks hR i
  have HA : Hid (∀ w1, Below ((w.alloc (.cells #[.slice a1 xs.length c1, .slice a2 ys.length c2, .slice a3 is.length c3, .slice a4 bs.length c4] 36)).alloc (.cells #[.string ⟨#[]⟩, .string ⟨#[]⟩] 115)).heap.size ((w.alloc (.cells #[.slice a1 xs.length c1, .slice a2 ys.length c2, .slice a3 is.length c3, .slice a4 bs.length c4] 36)).alloc (.cells #[.string ⟨#[]⟩, .string ⟨#[]⟩] 115)) w1 → TxW w w1 w1 #[.string ⟨#[]⟩, .string ⟨#[]⟩]) := fun w1 b => by
    have a := AtC.new (w.alloc (.cells #[.slice a1 xs.length c1, .slice a2 ys.length c2, .slice a3 is.length c3, .slice a4 bs.length c4] 36)) 115 #[.string ⟨#[]⟩, .string ⟨#[]⟩]
    rw [World.size_alloc] at a
    refine ⟨(((Below.refl _ w).alloc (Nat.le_refl _) _).alloc (by simp) _).trans (b.mono (by simp; omega)), fun _ _ _ => rfl, Nat.le_refl _, ?_⟩
    exact a.below b (by simp)
  clear h hR
  rcases HT with ⟨e1, e2⟩ | ⟨x, y, e1, e2⟩
  · rw [e1] at CB
    rw [e2]
    clear e1 e2 HL
    go_enter Try.func52, Try.ntmps52
    go_wp2_with fail
    refine CB.out.mono ?_
    rintro e w1 ⟨lv, rfl, R1, B1⟩
    have HX := hide (HA.out _ B1)
    obtain ⟨la, lc, rfl, -⟩ := R1
    clear B1 HA CB
    have p0 : w1.cell? ⟨w.heap.size + 1, 0, none⟩ = some (.string ⟨#[]⟩) := HX.out.l.cell 0
    have p1 : w1.cell? ⟨w.heap.size + 1, 1, none⟩ = some (.string ⟨#[]⟩) := HX.out.l.cell 1
    go_wp2_with fail
    go_rounds 1
    go_quiet (fail)
    go_wp2
    go_ret2
    exact ⟨rfl, below_drewN HX.out.b _⟩
  · rw [e1] at CB HL
    rw [e2]
    obtain ⟨xd, xss, x0⟩ := x
    obtain ⟨yd, yss, x1⟩ := y
    have HX0 : Hid (x0.size ≤ 16) := hide (HL.out (xd, xss, x0) (by simp)).2
    have HX1 : Hid (x1.size ≤ 16) := hide (HL.out (yd, yss, x1) (by simp)).2
    clear e1 e2 HL
    go_enter Try.func52, Try.ntmps52
    go_wp2_with fail
    refine CB.out.mono ?_
    rintro e w1 ⟨lv, rfl, R1, B1⟩
    have HX := hide (HA.out _ B1)
    obtain ⟨la, lc, rfl, -, hcl⟩ := R1
    obtain ⟨gb, ob, ⟨u0, u1, u2⟩, rfl, hgb, b00, b01, b02, r00, r01, r02⟩ := hcl 0 (by simp)
    obtain ⟨gb', ob', ⟨v0, v1, v2⟩, e3, -, b10, b11, b12, r10, r11, r12⟩ := hcl 1 (by simp)
    simp only [Option.some.injEq, Addr.mk.injEq, and_true] at e3
    obtain ⟨rfl, rfl⟩ := e3
    obtain ⟨s0, k0, q01, -⟩ := r01
    obtain ⟨s1, k1, q11, -⟩ := r11
    simp only [Nat.zero_mul, Nat.add_zero, Nat.one_mul] at b00 b01 b02 b10 b11 b12 r00 r02 r10 r12 q01 q11
    subst r00 r02 r10 r12 q01 q11
    obtain ⟨n0, hn0⟩ : ∃ n, ([(xd, xss, x0), (yd, yss, x1)] : List Blk)[0].2.1.length = n := ⟨_, rfl⟩
    obtain ⟨n1, hn1⟩ : ∃ n, ([(xd, xss, x0), (yd, yss, x1)] : List Blk)[1].2.1.length = n := ⟨_, rfl⟩
    rw [hn0] at b01
    rw [hn1] at b11
    simp only [List.getElem_cons_zero, List.getElem_cons_succ] at b00 b02 b10 b12
    have hne : gb ≠ w.heap.size + 1 := fun e => by
      subst e
      have := HX.out.l.cell ob
      rw [b00] at this
      match ob, this with
      | 0, h => cases h
      | 1, h => cases h
      | (_ + 2), h => simp at h
    clear hn0 hn1 B1 hcl HA CB
    go_wp2_with fail
    go_loopw [13] (fun iv wr => ∃ q : Nat, q ≤ 2 ∧ iv = .int .i64 q ∧ Hid (TxW w w1 wr (txJ x0 x1 q))) (fun iv _ => 2 - (intOf iv).toNat)
    case atStart => exact ⟨0, by omega, rfl, HX.out⟩
    case round =>
      obtain ⟨q, hq, rfl, HS⟩ := hrel
      clear HX
      have hq3 : q = 0 ∨ q = 1 ∨ q = 2 := by omega
      rcases hq3 with rfl | rfl | rfl
      · skip
        have c0 := (HS.out.cell (o := ob) hgb hne).trans b00
        have c1' := (HS.out.cell (o := ob + 1) hgb hne).trans b01
        have c2' := (HS.out.cell (o := ob + 2) hgb hne).trans b02
        have hgw : ¬ gb = wr.heap.size := by have := HS.out.z; omega
        have lw : w.heap.size + 1 < wr.heap.size := HS.out.l.lt
        go_wp2_with fail
        refine (clone_any x0 _ (by have := HX0.out; omega)).mono ?_
        rintro e w5 ⟨rfl, B5⟩
        have B6 := (((Below.refl _ wr).alloc (Nat.le_refl _) (.cells #[.bool xd, .slice s0 n0 k0, .string x0] 84))).trans (B5.mono (by simp))
        have HS6 := HS.out.below B6
        have p0 : w5.cell? ⟨w.heap.size + 1, 0, none⟩ = some (.string ⟨#[]⟩) := HS6.l.cell 0
        have f0 := HS6.l.frozen 0
        have l5 := HS6.l.lt
        have HS7 := hide (HS6.set 0 (.string x0))
        rw [txJ_1] at HS7
        clear c0 c1' c2' B5 B6 HS6 HS
        go_wp2
        go_roundw
        case rel => exact ⟨1, by omega, rfl, HS7.out⟩
        case measure => simp [intOf]
      · skip
        have c0 := (HS.out.cell (o := ob + 3) hgb hne).trans b10
        have c1' := (HS.out.cell (o := ob + 3 + 1) hgb hne).trans b11
        have c2' := (HS.out.cell (o := ob + 3 + 2) hgb hne).trans b12
        have hgw : ¬ gb = wr.heap.size := by have := HS.out.z; omega
        have lw : w.heap.size + 1 < wr.heap.size := HS.out.l.lt
        go_wp2_with fail
        refine (clone_any x1 _ (by have := HX1.out; omega)).mono ?_
        rintro e w5 ⟨rfl, B5⟩
        have B6 := (((Below.refl _ wr).alloc (Nat.le_refl _) (.cells #[.bool yd, .slice s1 n1 k1, .string x1] 84))).trans (B5.mono (by simp))
        have HS6 := HS.out.below B6
        have p0 : w5.cell? ⟨w.heap.size + 1, 1, none⟩ = some (.string ⟨#[]⟩) := HS6.l.cell 1
        have f0 := HS6.l.frozen 1
        have l5 := HS6.l.lt
        have HS7 := hide (HS6.set 1 (.string x1))
        rw [txJ_2] at HS7
        clear c0 c1' c2' B5 B6 HS6 HS
        go_wp2
        go_roundw
        case rel => exact ⟨2, by omega, rfl, HS7.out⟩
        case measure => simp [intOf]
      · have p0 : wr.cell? ⟨w.heap.size + 1, 0, none⟩ = some (.string x0) := HS.out.l.cell 0
        have p1 : wr.cell? ⟨w.heap.size + 1, 1, none⟩ = some (.string x1) := HS.out.l.cell 1
        go_wp2
        go_quiet (fail)
        go_wp2
        go_ret2
        exact ⟨rfl, below_drewN HS.out.b _⟩
set_option maxRecDepth 100000 in
set_option maxHeartbeats 1600000 in
theorem nodeAt_any (j : Nat) (path : ByteArray) (dx dy iv bv : Value) (xs ys : List Bool) (is : List Ino) (bs : List Blk) (w : World) (h : DR w dx dy iv bv xs ys is bs) (hR : RD is bs) (_hj : j < is.length) :
    Calls Try.prog 25 #[.agg #[dx, dy, iv, bv], .int .i64 ((j : Int) + 1), .string path] w fun e w' => e = .returned (.agg #[.string path, .bool (kindAt is ((j : Int) + 1) == 2), .string (textsAt is bs ((j : Int) + 1)).1, .string (textsAt is bs ((j : Int) + 1)).2]) ∧ Below w.heap.size w w' := by
  obtain ⟨a1, c1, a2, c2, a3, c3, a4, c4, rfl, rfl, rfl, rfl⟩ := h.form
  have CT := hide (fun W hd => textI_any ((j : Int) + 1) (.slice a1 xs.length c1) (.slice a2 ys.length c2) (.slice a3 is.length c3) (.slice a4 bs.length c4) xs ys is bs W hd hR)
  have CK := hide (fun W hd => kindI_any ((j : Int) + 1) (.slice a1 xs.length c1) (.slice a2 ys.length c2) (.slice a3 is.length c3) (.slice a4 bs.length c4) xs ys is bs W hd hR)
  obtain ⟨⟨tx1, tx2⟩, hTX⟩ : ∃ X, textsAt is bs ((j : Int) + 1) = X := ⟨_, rfl⟩
  rw [hTX] at CT ⊢
  obtain ⟨kd, hkd⟩ : ∃ k, kindAt is ((j : Int) + 1) = k := ⟨_, rfl⟩
  rw [hkd] at CK ⊢
  have HH := hide h
  clear hTX h hR hkd
  go_enter Try.func25, Try.ntmps25
  go_wp2_with fail
  refine (CT.out _ ((HH.out.alloc _).alloc _)).mono ?_
  rintro e w1 ⟨rfl, B1⟩
  have bb : Below w.heap.size w w1 := ((((Below.refl _ w).alloc (Nat.le_refl _) (.cells #[.slice a1 xs.length c1, .slice a2 ys.length c2, .slice a3 is.length c3, .slice a4 bs.length c4] 36)).alloc (by simp) (.cells #[.string ⟨#[]⟩, .bool false, .string ⟨#[]⟩, .string ⟨#[]⟩] 61))).trans (B1.mono (by simp; omega))
  have A0 := ((AtC.new w 36 #[.slice a1 xs.length c1, .slice a2 ys.length c2, .slice a3 is.length c3, .slice a4 bs.length c4]).alloc (.cells #[.string ⟨#[]⟩, .bool false, .string ⟨#[]⟩, .string ⟨#[]⟩] 61)).over B1
  have A1 := (AtC.new (w.alloc (.cells #[.slice a1 xs.length c1, .slice a2 ys.length c2, .slice a3 is.length c3, .slice a4 bs.length c4] 36)) 61 #[.string ⟨#[]⟩, .bool false, .string ⟨#[]⟩, .string ⟨#[]⟩]).over B1
  rw [World.size_alloc] at A1
  have z0 : w1.cell? ⟨w.heap.size, 0, none⟩ = some (.slice a1 xs.length c1) := A0.cell 0
  have z1 : w1.cell? ⟨w.heap.size, 1, none⟩ = some (.slice a2 ys.length c2) := A0.cell 1
  have z2 : w1.cell? ⟨w.heap.size, 2, none⟩ = some (.slice a3 is.length c3) := A0.cell 2
  have z3 : w1.cell? ⟨w.heap.size, 3, none⟩ = some (.slice a4 bs.length c4) := A0.cell 3
  have HD1 := hide (HH.out.below bb (Nat.le_refl _))
  have HB := hide bb
  have HA1 := hide A1
  clear bb A0 A1 B1 CT
  go_wp2_with fail
  refine (CK.out _ HD1.out).mono ?_
  rintro e w2 ⟨rfl, B2⟩
  have A2 := HA1.out.over B2
  have HB2 := hide (HB.out.trans (B2.mono HB.out.size))
  have k0 : w2.cell? ⟨w.heap.size + 1, 0, none⟩ = some (.string ⟨#[]⟩) := A2.cell 0
  have k1 : w2.cell? ⟨w.heap.size + 1, 1, none⟩ = some (.bool false) := A2.cell 1
  have k2 : w2.cell? ⟨w.heap.size + 1, 2, none⟩ = some (.string ⟨#[]⟩) := A2.cell 2
  have k3 : w2.cell? ⟨w.heap.size + 1, 3, none⟩ = some (.string ⟨#[]⟩) := A2.cell 3
  have f0 := A2.frozen 0
  have f1 := A2.frozen 1
  have f2 := A2.frozen 2
  have f3 := A2.frozen 3
  have l1 := A2.lt
  clear A2 B2 z0 z1 z2 z3 CK
  go_wp2
  refine bodyPost_ret (v := .agg #[.string path, .bool (kd == 2), .string tx1, .string tx2]) (by simp [results, go_sem, k0, k1, k2, k3]) rfl ⟨rfl, ?_⟩
  exact (((HB2.out.setCell (by simp) _).setCell (by simp) _).setCell (by simp) _).setCell (by simp) _
end Go.Proofs.Ytljooldjcefkoaa
/- (*impl.branch).with by its contract: names linked by pointers. -/
namespace Go.Proofs.Ytljooldjcefkoaa
open Go.RowKit Kit
/-- A branch: its block, its slot. -/
abbrev Br := Nat × Sl
/-- The pointer to the first. -/
def ptrB : List Br → Value
  | [] => .pointer none
  | b :: _ => .pointer (some ⟨b.1, 0, none⟩)
theorem ptrB_form (l : List Br) : ∃ a, ptrB l = .pointer a := by cases l <;> exact ⟨_, rfl⟩
/-- Branches lie in the world, each leading to the next, with nothing below them. -/
def Chn (w : World) : List Br → Prop
  | [] => True
  | b :: r => AtC w b.1 58 #[.string b.2.1, .int .i64 b.2.2, ptrB r, .pointer none] ∧ Chn w r
theorem Chn.heap {w w' : World} : ∀ {l : List Br}, Chn w l → (∀ b ∈ l, w'.heap[b.1]? = w.heap[b.1]?) → Chn w' l
  | [], _, _ => trivial
  | b :: r, h, hh => ⟨(hh b (by simp)).trans h.1, Chn.heap h.2 fun x hx => hh x (by simp [hx])⟩
theorem Chn.lt {w : World} : ∀ {l : List Br}, Chn w l → ∀ b ∈ l, b.1 < w.heap.size
  | [], _, b, hb => by cases hb
  | x :: r, h, b, hb => (List.mem_cons.1 hb).elim (fun e => by rw [e]; exact h.1.lt) (Chn.lt h.2 b)
theorem Chn.below {w w' : World} {l : List Br} (h : Chn w l) (hb : Below w.heap.size w w') : Chn w' l := h.heap fun b hm => hb.block _ (h.lt b hm)
/-- One slot more in its place; of one name the first counts. -/
def ins : List Sl → Sl → List Sl
  | [], s => [s]
  | t :: r, s => if bl s.1.toList t.1.toList = true then s :: t :: r else if bl t.1.toList s.1.toList = true then t :: ins r s else t :: r
/-- The blocks of branches. -/
def InB (l : List Br) (k : Nat) : Prop := ∃ b ∈ l, b.1 = k
/-- What 'with' leaves: the branches behind it, in these blocks or new ones. -/
structure Wth (w w' : World) (l l' : List Br) (s : Sl) : Prop where
  c : Chn w' l'
  n : (l'.map (·.1)).Nodup
  v : l'.map (·.2) = ins (l.map (·.2)) s
  i : ∀ b ∈ l', InB l b.1 ∨ w.heap.size ≤ b.1
  g : Chg (InB l) w w'
theorem Wth.drewN {w w' : World} {l l' : List Br} {s : Sl} (h : Wth w w' l l' s) (k : Nat) : Wth w (w'.drewN k) l l' s :=
  ⟨h.c.below (below_drewN (Below.refl _ _) _), h.n, h.v, h.i, h.g.trans (Chg.of_below (below_drewN (Below.refl _ _) _))⟩
set_option maxRecDepth 100000 in
set_option maxHeartbeats 3200000 in
theorem with_any (nm : ByteArray) (io : Int) : ∀ (l : List Br) (w : World), Chn w l → (l.map (·.1)).Nodup →
    Calls Try.prog 55 #[ptrB l, .agg #[.string nm, .int .i64 io]] w fun e w' => ∃ l', e = .returned (ptrB l') ∧ Wth w w' l l' (nm, io) := by
  intro l
  induction l with
  | nil =>
    intro w hc hn
    have HB : Hid (Wth w ((w.alloc (.cells #[.string nm, .int .i64 io] 100)).alloc (.cells #[.string nm, .int .i64 io, .pointer none, .pointer none] 58)) [] [(w.heap.size + 1, (nm, io))] (nm, io)) := by
      have a := AtC.new (w.alloc (.cells #[.string nm, .int .i64 io] 100)) 58 #[.string nm, .int .i64 io, .pointer none, .pointer none]
      rw [World.size_alloc] at a
      refine ⟨⟨a, trivial⟩, by simp, rfl, fun b hb => ?_, Chg.of_below (((Below.refl _ w).alloc (Nat.le_refl _) _).alloc (by simp) _)⟩
      simp at hb
      subst hb
      exact .inr (by simp)
    show Calls Try.prog 55 #[.pointer none, .agg #[.string nm, .int .i64 io]] w _
    go_enter Try.func55, Try.ntmps55
    go_upto_region 1 with fail
    go_quiet (fail)
    go_wp2
    go_ret
    exact ⟨[(w.heap.size + 1, (nm, io))], rfl, HB.out.drewN _⟩
  | cons b r ih =>
    intro w hc hn
    obtain ⟨bk, ⟨tn, ti⟩⟩ := b
    have hA : AtC w bk 58 #[.string tn, .int .i64 ti, ptrB r, .pointer none] := hc.1
    have HC := hide hc
    have HN := hide hn
    have IH := hide ih
    obtain ⟨rp, hrp⟩ := ptrB_form r
    rw [hrp] at hA
    have HA := hide hA
    have HRP := hide hrp
    have hbk := hA.lt
    have hbw : ¬ bk = w.heap.size := by omega
    have p0 : w.cell? ⟨bk, 0, none⟩ = some (.string tn) := hA.cell 0
    have p1 : w.cell? ⟨bk, 1, none⟩ = some (.int .i64 ti) := hA.cell 1
    have p2 : w.cell? ⟨bk, 2, none⟩ = some (.pointer rp) := hA.cell 2
    have p3 : w.cell? ⟨bk, 3, none⟩ = some (.pointer none) := hA.cell 3
    have HINS : Hid (ins (((bk, (tn, ti)) :: r).map (·.2)) (nm, io) = if bl nm.toList tn.toList = true then (nm, io) :: (tn, ti) :: r.map (·.2) else if bl tn.toList nm.toList = true then (tn, ti) :: ins (r.map (·.2)) (nm, io) else (tn, ti) :: r.map (·.2)) := rfl
    clear hA hc hn ih hrp
    show Calls Try.prog 55 #[.pointer (some ⟨bk, 0, none⟩), .agg #[.string nm, .int .i64 io]] w _
    cases hl : Op.bytesLess nm.toList tn.toList with
    | true =>
      have HB : Hid (Wth w ((w.alloc (.cells #[.string nm, .int .i64 io] 100)).alloc (.cells #[.string nm, .int .i64 io, .pointer (some ⟨bk, 0, none⟩), .pointer none] 58)) ((bk, (tn, ti)) :: r) ((w.heap.size + 1, (nm, io)) :: (bk, (tn, ti)) :: r) (nm, io)) := by
        have a := AtC.new (w.alloc (.cells #[.string nm, .int .i64 io] 100)) 58 #[.string nm, .int .i64 io, .pointer (some ⟨bk, 0, none⟩), .pointer none]
        rw [World.size_alloc] at a
        have bb := (((Below.refl _ w).alloc (Nat.le_refl _) (.cells #[.string nm, .int .i64 io] 100)).alloc (by simp) (.cells #[.string nm, .int .i64 io, .pointer (some ⟨bk, 0, none⟩), .pointer none] 58))
        refine ⟨⟨a, HC.out.below bb⟩, ?_, ?_, fun b hb => ?_, Chg.of_below bb⟩
        · rw [List.map_cons, List.nodup_cons]
          refine ⟨fun e => ?_, HN.out⟩
          obtain ⟨x, hx, e⟩ := List.mem_map.1 e
          have := HC.out.lt x hx
          simp at e
          omega
        · rw [HINS.out, if_pos hl]; rfl
        · rcases List.mem_cons.1 hb with rfl | hb
          · exact .inr (by simp)
          · exact .inl ⟨b, hb, rfl⟩
      go_enter Try.func55, Try.ntmps55
      go_upto_region 1 with fail
      go_quiet (fail)
      go_wp2
      go_ret
      exact ⟨(w.heap.size + 1, (nm, io)) :: (bk, (tn, ti)) :: r, rfl, HB.out.drewN _⟩
    | false =>
      have HL := hide hl
      by_cases he : nm = tn
      · subst he
        have heq : (nm.toList == nm.toList) = true := by simp
        have HB : Hid (Wth w (w.alloc (.cells #[.string nm, .int .i64 io] 100)) ((bk, (nm, ti)) :: r) ((bk, (nm, ti)) :: r) (nm, io)) := by
          have bb := (Below.refl _ w).alloc (Nat.le_refl _) (.cells #[.string nm, .int .i64 io] 100)
          refine ⟨HC.out.below bb, HN.out, ?_, fun b hb => .inl ⟨b, hb, rfl⟩, Chg.of_below bb⟩
          rw [HINS.out, if_neg (by rw [show bl nm.toList nm.toList = false from hl]; decide), if_neg (by rw [show bl nm.toList nm.toList = false from hl]; decide)]
          rfl
        go_enter Try.func55, Try.ntmps55
        go_upto_region 1 with fail
        go_quiet (fail)
        go_upto_region 3 with fail
        go_quiet (fail)
        go_wp2
        go_ret
        exact ⟨(bk, (nm, ti)) :: r, rfl, (HB.out.drewN _).drewN _⟩
      · have heq : (nm.toList == tn.toList) = false := beq_false he
        have hgt : bl tn.toList nm.toList = true := by
          cases e : bl tn.toList nm.toList with
          | true => rfl
          | false =>
            have := bl_total (a := nm.toList) (b := tn.toList) hl e
            rw [this] at heq
            simp at heq
        have HGT := hide hgt
        clear hgt
        have IH2 : Hid (∀ W, Below w.heap.size w W → Calls Try.prog 55 #[.pointer rp, .agg #[.string nm, .int .i64 io]] W fun e w' => ∃ l', e = .returned (ptrB l') ∧ Wth W w' r l' (nm, io)) := fun W b => by
          have := IH.out W (HC.out.2.below b) (List.nodup_cons.1 HN.out).2
          rw [HRP.out] at this
          exact this
        go_enter Try.func55, Try.ntmps55
        go_upto_region 1 with fail
        go_quiet (fail)
        go_upto_region 3 with fail
        go_quiet (fail)
        go_upto_region 4 with fail
        have HBW : Hid (∀ k, Below w.heap.size w ((w.alloc (.cells #[.string nm, .int .i64 io] 100)).drewN k)) := fun k => below_drewN ((Below.refl _ w).alloc (Nat.le_refl _) _) _
        have HW5 : Hid (∀ W w5 l5, Below w.heap.size w W → Wth W w5 r l5 (nm, io) → AtC w5 bk 58 #[.string tn, .int .i64 ti, .pointer rp, .pointer none] ∧ Wth w (w5.setCell ⟨bk, 2, none⟩ (ptrB l5)) ((bk, (tn, ti)) :: r) ((bk, (tn, ti)) :: l5) (nm, io)) := fun W w5 l5 bW H5 => by
          have hnot : ¬ InB r bk := fun ⟨x, hx, e⟩ => (List.nodup_cons.1 HN.out).1 (List.mem_map.2 ⟨x, hx, e⟩)
          have A5 : AtC w5 bk 58 #[.string tn, .int .i64 ti, .pointer rp, .pointer none] := (H5.g.block bk (by have := bW.size; omega) hnot).trans (HA.out.over bW)
          have hne : ∀ x ∈ l5, x.1 ≠ bk := fun x hx e => by
            rcases H5.i x hx with q | q
            · rw [e] at q; exact hnot q
            · have := bW.size; omega
          refine ⟨A5, ⟨A5.set 2 (ptrB l5), H5.c.heap fun x hx => heap_setCell_other w5 ⟨bk, 2, none⟩ x.1 _ (hne x hx)⟩, ?_, ?_, fun x hx => ?_, ?_⟩
          · rw [List.map_cons, List.nodup_cons]
            refine ⟨fun e => ?_, H5.n⟩
            obtain ⟨x, hx, e⟩ := List.mem_map.1 e
            exact hne x hx e
          · rw [HINS.out, if_neg (by rw [show bl nm.toList tn.toList = false from HL.out]; decide), if_pos HGT.out, List.map_cons, H5.v]
          · rcases List.mem_cons.1 hx with rfl | hx
            · exact .inl ⟨_, List.mem_cons_self, rfl⟩
            · rcases H5.i x hx with ⟨y, hy, e⟩ | q
              · exact .inl ⟨y, List.mem_cons_of_mem _ hy, e⟩
              · exact .inr (Nat.le_trans bW.size q)
          · have g1 : Chg (InB ((bk, (tn, ti)) :: r)) W w5 := H5.g.mono fun k ⟨x, hx, e⟩ => ⟨x, List.mem_cons_of_mem _ hx, e⟩
            exact ((Chg.of_below bW).trans g1).setCell ⟨_, List.mem_cons_self, rfl⟩ _
        go_region_with (go_at_call 55; refine (IH2.out _ (HBW.out _)).mono ?_; rintro e w5 ⟨l5, rfl, H5⟩; obtain ⟨A5, HF5⟩ := HW5.out _ _ _ (HBW.out _) H5; obtain ⟨q5, hq5⟩ := ptrB_form l5; have k2 : w5.cell? ⟨bk, 2, none⟩ = some (.pointer rp) := A5.cell 2; have f2 := A5.frozen 2; have HQ5 := hide (And.intro hq5 HF5); rw [hq5]; clear A5 HF5 H5 hq5)
        all_goals (go_wp2; go_ret; exact ⟨(bk, (tn, ti)) :: l5, rfl, by have := HQ5.out.2; rw [HQ5.out.1] at this; exact this⟩)
end Go.Proofs.Ytljooldjcefkoaa
