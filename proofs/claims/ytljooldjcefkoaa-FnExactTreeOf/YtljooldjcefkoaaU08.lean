/- Texts of the proof, bundled: Fd, Tp. -/
import Derived.BigQuiet
import Derived.Test.YtljooldjcefkoaaU07
/- Of the specification: l11Find by its contract. -/
namespace Go.Proofs.Ytljooldjcefkoaa.Kit
open Go.RowKit
section
variable {P : Program} {ops : Array Oper} {Q : Exit → Act → World → Prop} {a : Act} {w : World}
theorem line2 {i j : Nat} {o1 o2 : Oper} (h1 : ops[i]? = some o1) (h2 : ops[j]? = some o2) (h : wpList P ops Q [o1, o2] a w) : wpList P ops Q ([i, j].filterMap fun k => ops[k]?) a w := by
  simpa [h1, h2] using h
theorem line3 {i j k : Nat} {o1 o2 o3 : Oper} (h1 : ops[i]? = some o1) (h2 : ops[j]? = some o2) (h3 : ops[k]? = some o3) (h : wpList P ops Q [o1, o2, o3] a w) : wpList P ops Q ([i, j, k].filterMap fun k => ops[k]?) a w := by
  simpa [h1, h2, h3] using h
end
def MkW (T : TypeId) (Z : Array Value) : Mk := .val [] (fun lo hi w v => v = .pointer (some ⟨lo, 0, none⟩) ∧ hi = lo + 1 ∧ AtC w lo T Z) (fun _ _ _ _ _ h hb => ⟨h.1, h.2.1, h.2.2.over hb⟩)
/-- The first of two. -/
def fstOf : Value → Value
  | .tuple xs => xs.getD 0 undef
  | u => u
/-- A block and a flag. -/
def MkBf (k l : Nat) (w0 : World) (d : Bool) (t : ByteArray) (ss : List Sl) (f : Bool) : Mk := .val [k, l] (fun _ _ _ v => ∃ a c, v = .tuple #[.agg #[.bool d, .slice a ss.length c, .string t], .bool f] ∧ RSl w0 (.slice a ss.length c) ss)
  (fun _ _ _ _ _ h _ => h)
def MkBv (k : Nat) (d : Bool) (t : ByteArray) (n : Nat) (f : Bool) : Mk := .val1 [k] k (by simp) (fun _ _ _ u v => u = v ∧ ∃ a c, v = .tuple #[.agg #[.bool d, .slice a n c, .string t], .bool f]) (fun _ _ _ _ _ _ h _ => h)
def MkBx (k : Nat) : Mk := .val1 [k] k (by simp) (fun _ _ _ u v => v = fstOf u) (fun _ _ _ _ _ _ h _ => h)


end Go.Proofs.Ytljooldjcefkoaa.Kit
namespace Go.Proofs.Ytljooldjcefkoaa
open Go.RowKit Kit
theorem blkAt_len {xs ys : List Bool} {is : List Ino} {bs : List Blk} (hB : Big 1048576 xs ys is bs) (x : Int) : (blkAt bs x).2.1.length ≤ 1048576 := by
  unfold blkAt
  split
  · by_cases h : (x - 1).toNat < bs.length
    · rw [List.getD_eq_getElem?_getD, List.getElem?_eq_getElem h]
      exact (hB.s _ h).1
    · rw [List.getD_eq_getElem?_getD, List.getElem?_eq_none (by omega)]
      exact Nat.zero_le _
  · exact Nat.zero_le _
set_option maxRecDepth 100000 in
set_option maxHeartbeats 6400000 in
theorem find_any (x : Int) (nm : ByteArray) (dx dy iv bv : Value) (xs ys : List Bool) (is : List Ino) (bs : List Blk) (w : World) (h : DR w dx dy iv bv xs ys is bs) (hB : Big 1048576 xs ys is bs) (hne : ¬ nm = ⟨#[]⟩) :
    Calls Try.prog 42 #[.agg #[dx, dy, iv, bv], .int .i64 x, .string nm] w fun e w' => ∃ B s : Int, e = .returned (.tuple #[.int .i64 B, .int .i64 s, .int .i64 (findI (named is bs x) nm)]) ∧ Below w.heap.size w w' := by
  have H := hide h
  have HG := hide hB
  obtain ⟨a3, c3, rfl, -, hc⟩ := h.i
  have HC := hide hc
  clear h hc hB
  cases hb : inB x 1 is.length with
  | false =>
    have HX := hide hb
    have e0 : findI (named is bs x) nm = 0 := by unfold named; rw [kindAt_out hb]; rfl
    rw [e0]
    clear hb e0
    have HB : Hid (∀ A, Below w.heap.size w (w.alloc (.cells A 36))) := fun A => (Below.refl _ w).alloc (Nat.le_refl _) _
    go_enter Try.func42, Try.ntmps42
    go_wp2_with fail
    refine (l01In_any x 1 _ _).mono ?_
    rintro e w1 ⟨rfl, rfl⟩
    rw [HX.out]
    go_wp2
    go_ret3
    exact ⟨0, 0, rfl, HB.out _⟩
  | true =>
    have HX := hide hb
    obtain ⟨h1, h2⟩ := inB_true hb
    clear hb
    obtain ⟨j, rfl⟩ : ∃ j : Nat, x = (j : Int) + 1 := ⟨(x - 1).toNat, by omega⟩
    have hj : j < is.length := by omega
    obtain ⟨g, off, t, rfl, hg, k0, k1, k2, r1, r2, r3⟩ := HC.out j hj
    obtain ⟨t0, t1, t2⟩ := t
    simp only at r1 r2 r3 k0 k1 k2
    subst r1 r2
    have hps := HG.out.p j hj
    have hil : is.length ≤ 1048576 := HG.out.i
    have hnm : named is bs ((j : Int) + 1) = if is[j].1 = 2 then nmdP bs is[j].2.2 else [] := by unfold named; rw [(kindAt_in hj).1, (kindAt_in hj).2]
    rw [hnm]
    obtain ⟨RES, hRES⟩ : ∃ r, findI (if is[j].1 = 2 then nmdP bs is[j].2.2 else []) nm = r := ⟨_, rfl⟩
    rw [hRES]
    have HRES0 := hide hRES
    clear hnm hRES
    generalize is[j].1 = kd at *
    generalize is[j].2.1 = ln at *
    generalize is[j].2.2 = ps at *
    have HNE := hide (ne_size hne)
    clear hne
    have HR := hide r3
    obtain ⟨pa, pc, rfl, -⟩ := r3
    have HB : Hid (Below w.heap.size w (w.alloc (.cells #[dx, dy, .slice (some ⟨g, off, none⟩) is.length c3, bv] 36))) := (Below.refl _ w).alloc (Nat.le_refl _) _
    have n0 : (w.alloc (.cells #[dx, dy, .slice (some ⟨g, off, none⟩) is.length c3, bv] 36)).cell? ⟨g, off + j * 3, none⟩ = some (.int .i64 kd) := (HB.out.cell (p := ⟨g, off + j * 3, none⟩) hg).trans k0
    have n1 : (w.alloc (.cells #[dx, dy, .slice (some ⟨g, off, none⟩) is.length c3, bv] 36)).cell? ⟨g, off + j * 3 + 1, none⟩ = some (.int .i64 ln) := (HB.out.cell (p := ⟨g, off + j * 3 + 1, none⟩) hg).trans k1
    have n2 : (w.alloc (.cells #[dx, dy, .slice (some ⟨g, off, none⟩) is.length c3, bv] 36)).cell? ⟨g, off + j * 3 + 2, none⟩ = some (.slice pa ps.length pc) := (HB.out.cell (p := ⟨g, off + j * 3 + 2, none⟩) hg).trans k2
    have j0 : (0 : Int) ≤ (j : Int) := by omega
    have j1 : (j : Int) < (is.length : Int) := by omega
    clear k0 k1 k2
    go_enter Try.func42, Try.ntmps42
    go_wp2_with fail
    refine (l01In_any _ 1 _ _).mono ?_
    rintro e w1 ⟨rfl, rfl⟩
    rw [HX.out]
    by_cases hk : kd = 2
    · subst hk
      have HRES : Hid (findI (nmdP bs ps) nm = RES) := by have := HRES0.out; rw [if_pos rfl] at this; exact this
      clear HRES0
      have HW : Hid (∀ W, Below ((w.alloc (.cells #[dx, dy, .slice (some ⟨g, off, none⟩) is.length c3, bv] 36)).alloc (.cells #[.int .i64 2, .int .i64 ln, .slice pa ps.length pc] 49)).heap.size ((w.alloc (.cells #[dx, dy, .slice (some ⟨g, off, none⟩) is.length c3, bv] 36)).alloc (.cells #[.int .i64 2, .int .i64 ln, .slice pa ps.length pc] 49)) W → AtC W w.heap.size 36 #[dx, dy, .slice (some ⟨g, off, none⟩) is.length c3, bv] ∧ AtC W (w.heap.size + 1) 49 #[.int .i64 2, .int .i64 ln, .slice pa ps.length pc] ∧ Below w.heap.size w W ∧ RInts W (.slice pa ps.length pc) ps ∧ DR W dx dy (.slice (some ⟨g, off, none⟩) is.length c3) bv xs ys is bs) := fun W b => by
        have q2 := (AtC.new (w.alloc (.cells #[dx, dy, .slice (some ⟨g, off, none⟩) is.length c3, bv] 36)) 49 #[.int .i64 2, .int .i64 ln, .slice pa ps.length pc]).over b
        simp at q2
        have bb : Below w.heap.size w W := (((Below.refl _ w).alloc (Nat.le_refl _) _).alloc (by simp) _).trans (b.mono (by simp; omega))
        exact ⟨((AtC.new w 36 _).alloc _).over b, q2, bb, HR.out.below bb (Nat.le_refl _), H.out.below bb (Nat.le_refl _)⟩
      go_wp2
      go_loopw [10] (fun i wr => ∃ q : Nat, q ≤ ps.length ∧ i = .int .i64 q ∧ Hid (∀ s ∈ nmdP bs (ps.take q), ¬ s.1 = nm) ∧ Hid (Below ((w.alloc (.cells #[dx, dy, .slice (some ⟨g, off, none⟩) is.length c3, bv] 36)).alloc (.cells #[.int .i64 2, .int .i64 ln, .slice pa ps.length pc] 49)).heap.size ((w.alloc (.cells #[dx, dy, .slice (some ⟨g, off, none⟩) is.length c3, bv] 36)).alloc (.cells #[.int .i64 2, .int .i64 ln, .slice pa ps.length pc] 49)) wr)) (fun i _ => ps.length - (intOf i).toNat)
      case atStart => exact ⟨0, Nat.zero_le _, rfl, (fun s hs => by simp [nmdP] at hs), Below.refl _ _⟩
      case round =>
        obtain ⟨q, hq, rfl, HNO, HQ⟩ := hrel
        obtain ⟨A0, A1, -, -, -⟩ := HW.out wr HQ.out
        have y2 : wr.cell? ⟨w.heap.size + 1, 2, none⟩ = some (.slice pa ps.length pc) := A1.cell 2
        clear A0 A1
        by_cases hlt : q < ps.length
        · obtain ⟨A0, A1, -, rI, dR⟩ := HW.out wr HQ.out
          obtain ⟨pa', pc', e1, hcp⟩ := rI
          simp only [Value.slice.injEq, true_and] at e1
          obtain ⟨rfl, rfl⟩ := e1
          obtain ⟨gp, op, rfl, hgp, kp⟩ := hcp q hlt
          obtain ⟨Pn, hPn⟩ : ∃ Pn, ps[q] = Pn := ⟨_, rfl⟩
          rw [hPn] at kp
          have HPN := hide hPn
          have HD := hide dR
          have hbl : bs.length ≤ 1048576 := HG.out.b
          have CB := hide (fun (W : World) (hd : Below wr.heap.size wr W) => blk_any Pn dx dy (.slice (some ⟨g, off, none⟩) is.length c3) bv xs ys is bs wr W HD.out hd hbl)
          have hbn := blkAt_len HG.out Pn
          obtain ⟨⟨bd, bss, btx⟩, hBD⟩ : ∃ X, blkAt bs Pn = X := ⟨_, rfl⟩
          obtain ⟨F, hF⟩ : ∃ F, inB Pn 1 bs.length = F := ⟨_, rfl⟩
          rw [hBD, hF] at CB
          rw [hBD] at hbn
          have HBD := hide hBD
          have HFF := hide hF
          have q0 : (0 : Int) ≤ (q : Int) := by omega
          have q1 : (q : Int) < (ps.length : Int) := by omega
          have HC2 : Hid (∀ W, Below wr.drew.heap.size wr.drew W → AtC W w.heap.size 36 #[dx, dy, .slice (some ⟨g, off, none⟩) is.length c3, bv] ∧ AtC W (w.heap.size + 1) 49 #[.int .i64 2, .int .i64 ln, .slice (some ⟨gp, op, none⟩) ps.length pc] ∧ W.cell? ⟨gp, op + q, none⟩ = some (.int .i64 Pn) ∧ DR W dx dy (.slice (some ⟨g, off, none⟩) is.length c3) bv xs ys is bs) := fun W b => by
            have b2 := of_drew b
            exact ⟨A0.over b2, A1.over b2, (b2.cell (p := ⟨gp, op + q, none⟩) hgp).trans kp, HD.out.below b2 (Nat.le_refl _)⟩
          have HKP := hide kp
          clear hPn kp dR hcp hBD hF A0 A1
          go_wp2_with fail
          refine Exists.elim (p := fun QQ : Exit → Act → World → Prop => ∀ ex ac W, QQ ex ac W ↔ (ex = .normal ∧ ∃ (z6 : Value) (bw : Nat) (sa : Option Addr) (sc : Nat), ac = ⟨List.toArray ((Value.agg #[dx, dy, Value.slice (some { block := g, off := off }) is.length c3, bv]) :: (Value.int IntKind.i64 (↑j + 1)) :: (Value.string nm) :: (Value.pointer (some { block := w.heap.size, off := 0 })) :: (undef) :: (undef) :: (u6) :: (u7) :: (u8) :: (Value.pointer (some { block := w.heap.size + 1, off := 0 })) :: (Value.int IntKind.i64 ↑q) :: (.pointer (some ⟨bw, 0, none⟩)) :: (.bool F) :: (u13) :: (Value.int IntKind.i64 (↑j + 1)) :: (Value.pointer (some { block := w.heap.size, off := 2 })) :: (Value.slice (some { block := g, off := off }) is.length c3) :: (Value.int IntKind.i64 ↑is.length) :: (Value.bool true) :: (Value.bool false) :: (Value.bool false) :: (Value.pointer (some { block := w.heap.size, off := 2 })) :: (Value.slice (some { block := g, off := off }) is.length c3) :: (Value.int IntKind.i64 (↑j + 1)) :: (Value.int IntKind.i64 ↑j) :: (Value.pointer (some { block := g, off := off + j * 3 })) :: (Value.pointer (some { block := g, off := off + j * 3 })) :: (Value.int IntKind.i64 2) :: (Value.bool false) :: (Value.bool false) :: (Value.pointer (some { block := w.heap.size, off := 2 })) :: (Value.slice (some { block := g, off := off }) is.length c3) :: (Value.int IntKind.i64 (↑j + 1)) :: (Value.int IntKind.i64 ↑j) :: (Value.pointer (some { block := g, off := off + j * 3 })) :: (Value.agg #[Value.int IntKind.i64 2, Value.int IntKind.i64 ln, Value.slice (some { block := gp, off := op }) ps.length pc]) :: (Value.int IntKind.i64 ↑q) :: (Value.pointer (some { block := w.heap.size + 1, off := 2 })) :: (Value.slice (some { block := gp, off := op }) ps.length pc) :: (Value.int IntKind.i64 ↑ps.length) :: (Value.bool true) :: (u41) :: (u42) :: (z6) :: (.agg #[dx, dy, .slice (some ⟨g, off, none⟩) is.length c3, bv]) :: (.pointer (some ⟨w.heap.size + 1, 2, none⟩)) :: (.slice (some ⟨gp, op, none⟩) ps.length pc) :: (.int .i64 q) :: (.pointer (some ⟨gp, op + q, none⟩)) :: (.int .i64 Pn) :: (z6) :: (.agg #[.bool bd, .slice sa bss.length sc, .string btx]) :: (.bool F) :: (u53) :: (u54) :: (u55) :: (u56) :: (u57) :: (u58) :: (u59) :: (u60) :: (u61) :: (u62) :: (u63) :: (u64) :: (u65) :: (u66) :: (u67) :: (u68) :: (u69) :: (u70) :: (u71) :: (u72) :: (u73) :: (u74) :: (u75) :: (u76) :: []), []⟩ ∧ AtC W bw 84 #[.bool bd, .slice sa bss.length sc, .string btx] ∧ RSl wr (.slice sa bss.length sc) bss ∧ Below wr.heap.size wr W)) ⟨_, fun _ _ _ => Iff.rfl⟩ fun QQ hQQ => ?_
          have HQQ := hide hQQ
          clear hQQ
          refine Code.wp_mono (Q := QQ) ?_ ?_
          rotate_left
          · refine wp_region_alt (by kernel_rfl) [0, 1, 2, 3, 4, 5, 6, 7, 8, 9, 10] [11, 12] [([0, 1, 2, 3, 4, 5, 6, 7, 8, 10], [[9, 11, 12], [11, 9, 12]])] (fun i => match i with | 0 => .const [] (.agg #[dx, dy, .slice (some ⟨g, off, none⟩) is.length c3, bv]) | 1 => .const [] (.pointer (some ⟨w.heap.size + 1, 2, none⟩)) | 2 => .const [1] (.slice (some ⟨gp, op, none⟩) ps.length pc) | 3 => .const [] (.int .i64 q) | 4 => .const [2, 3] (.pointer (some ⟨gp, op + q, none⟩)) | 5 => .const [4] (.int .i64 Pn) | 6 => MkBf 0 5 wr bd btx bss F | 7 => MkBv 6 bd btx bss.length F | 8 => MkBx 7 | 9 => .const [7] (.bool F) | 10 => MkW 84 #[.bool false, .slice none 0 0, .string ⟨#[]⟩] | _ => .triv) (fun x => ⟨List.toArray ((Value.agg #[dx, dy, Value.slice (some { block := g, off := off }) is.length c3, bv]) :: (Value.int IntKind.i64 (↑j + 1)) :: (Value.string nm) :: (Value.pointer (some { block := w.heap.size, off := 0 })) :: (undef) :: (undef) :: (u6) :: (u7) :: (u8) :: (Value.pointer (some { block := w.heap.size + 1, off := 0 })) :: (Value.int IntKind.i64 ↑q) :: (x 10) :: (u12) :: (u13) :: (Value.int IntKind.i64 (↑j + 1)) :: (Value.pointer (some { block := w.heap.size, off := 2 })) :: (Value.slice (some { block := g, off := off }) is.length c3) :: (Value.int IntKind.i64 ↑is.length) :: (Value.bool true) :: (Value.bool false) :: (Value.bool false) :: (Value.pointer (some { block := w.heap.size, off := 2 })) :: (Value.slice (some { block := g, off := off }) is.length c3) :: (Value.int IntKind.i64 (↑j + 1)) :: (Value.int IntKind.i64 ↑j) :: (Value.pointer (some { block := g, off := off + j * 3 })) :: (Value.pointer (some { block := g, off := off + j * 3 })) :: (Value.int IntKind.i64 2) :: (Value.bool false) :: (Value.bool false) :: (Value.pointer (some { block := w.heap.size, off := 2 })) :: (Value.slice (some { block := g, off := off }) is.length c3) :: (Value.int IntKind.i64 (↑j + 1)) :: (Value.int IntKind.i64 ↑j) :: (Value.pointer (some { block := g, off := off + j * 3 })) :: (Value.agg #[Value.int IntKind.i64 2, Value.int IntKind.i64 ln, Value.slice (some { block := gp, off := op }) ps.length pc]) :: (Value.int IntKind.i64 ↑q) :: (Value.pointer (some { block := w.heap.size + 1, off := 2 })) :: (Value.slice (some { block := gp, off := op }) ps.length pc) :: (Value.int IntKind.i64 ↑ps.length) :: (Value.bool true) :: (u41) :: (u42) :: (x 7) :: (x 0) :: (x 1) :: (x 2) :: (x 3) :: (x 4) :: (x 5) :: (x 6) :: (x 8) :: (x 9) :: (u53) :: (u54) :: (u55) :: (u56) :: (u57) :: (u58) :: (u59) :: (u60) :: (u61) :: (u62) :: (u63) :: (u64) :: (u65) :: (u66) :: (u67) :: (u68) :: (u69) :: (u70) :: (u71) :: (u72) :: (u73) :: (u74) :: (u75) :: (u76) :: []), []⟩) (fun i => match i with | 0 => u44 | 1 => u45 | 2 => u46 | 3 => u47 | 4 => u48 | 5 => u49 | 6 => u50 | 7 => u43 | 8 => u51 | 9 => u52 | 10 => u11 | _ => undef) rfl (by kernel_rfl) (by kernel_rfl) (by kernel_rfl) (by kernel_rfl) rfl ?_ ?_ ?_
            · intro jo hj so x iw W hd hp K hK
              simp only [List.mem_cons, List.not_mem_nil, or_false] at hj
              rcases hj with rfl | rfl | rfl | rfl | rfl | rfl | rfl | rfl | rfl | rfl | rfl
              · refine wpOp_step (o := _) rfl fun K' hK' => ?_
                have HK : Hid (∀ v W', Below W.heap.size W W' → ((Mk.const [] (.agg #[dx, dy, .slice (some ⟨g, off, none⟩) is.length c3, bv]) : Mk)).P W.heap.size W'.heap.size W' v (upd x 0 v) → K' ⟨List.toArray ((Value.agg #[dx, dy, Value.slice (some { block := g, off := off }) is.length c3, bv]) :: (Value.int IntKind.i64 (↑j + 1)) :: (Value.string nm) :: (Value.pointer (some { block := w.heap.size, off := 0 })) :: (undef) :: (undef) :: (u6) :: (u7) :: (u8) :: (Value.pointer (some { block := w.heap.size + 1, off := 0 })) :: (Value.int IntKind.i64 ↑q) :: (x 10) :: (u12) :: (u13) :: (Value.int IntKind.i64 (↑j + 1)) :: (Value.pointer (some { block := w.heap.size, off := 2 })) :: (Value.slice (some { block := g, off := off }) is.length c3) :: (Value.int IntKind.i64 ↑is.length) :: (Value.bool true) :: (Value.bool false) :: (Value.bool false) :: (Value.pointer (some { block := w.heap.size, off := 2 })) :: (Value.slice (some { block := g, off := off }) is.length c3) :: (Value.int IntKind.i64 (↑j + 1)) :: (Value.int IntKind.i64 ↑j) :: (Value.pointer (some { block := g, off := off + j * 3 })) :: (Value.pointer (some { block := g, off := off + j * 3 })) :: (Value.int IntKind.i64 2) :: (Value.bool false) :: (Value.bool false) :: (Value.pointer (some { block := w.heap.size, off := 2 })) :: (Value.slice (some { block := g, off := off }) is.length c3) :: (Value.int IntKind.i64 (↑j + 1)) :: (Value.int IntKind.i64 ↑j) :: (Value.pointer (some { block := g, off := off + j * 3 })) :: (Value.agg #[Value.int IntKind.i64 2, Value.int IntKind.i64 ln, Value.slice (some { block := gp, off := op }) ps.length pc]) :: (Value.int IntKind.i64 ↑q) :: (Value.pointer (some { block := w.heap.size + 1, off := 2 })) :: (Value.slice (some { block := gp, off := op }) ps.length pc) :: (Value.int IntKind.i64 ↑ps.length) :: (Value.bool true) :: (u41) :: (u42) :: (x 7) :: (v) :: (x 1) :: (x 2) :: (x 3) :: (x 4) :: (x 5) :: (x 6) :: (x 8) :: (x 9) :: (u53) :: (u54) :: (u55) :: (u56) :: (u57) :: (u58) :: (u59) :: (u60) :: (u61) :: (u62) :: (u63) :: (u64) :: (u65) :: (u66) :: (u67) :: (u68) :: (u69) :: (u70) :: (u71) :: (u72) :: (u73) :: (u74) :: (u75) :: (u76) :: []), []⟩ W') := fun v W' h1 h2 => hK' _ _ (hK v W' h1 h2)
                have k0 := (HC2.out W hp.bel).1
                have y0 : W.cell? ⟨w.heap.size, 0, none⟩ = some (dx) := k0.cell 0
                have y1 : W.cell? ⟨w.heap.size, 1, none⟩ = some (dy) := k0.cell 1
                have y2 : W.cell? ⟨w.heap.size, 2, none⟩ = some (.slice (some ⟨g, off, none⟩) is.length c3) := k0.cell 2
                have y3 : W.cell? ⟨w.heap.size, 3, none⟩ = some (bv) := k0.cell 3
                clear k0
                clear hK hK' hp hd
                go_simp
                exact HK.out _ _ (Below.refl _ _) rfl
              · refine wpOp_step (o := _) rfl fun K' hK' => ?_
                have HK : Hid (∀ v W', Below W.heap.size W W' → ((Mk.const [] (.pointer (some ⟨w.heap.size + 1, 2, none⟩)) : Mk)).P W.heap.size W'.heap.size W' v (upd x 1 v) → K' ⟨List.toArray ((Value.agg #[dx, dy, Value.slice (some { block := g, off := off }) is.length c3, bv]) :: (Value.int IntKind.i64 (↑j + 1)) :: (Value.string nm) :: (Value.pointer (some { block := w.heap.size, off := 0 })) :: (undef) :: (undef) :: (u6) :: (u7) :: (u8) :: (Value.pointer (some { block := w.heap.size + 1, off := 0 })) :: (Value.int IntKind.i64 ↑q) :: (x 10) :: (u12) :: (u13) :: (Value.int IntKind.i64 (↑j + 1)) :: (Value.pointer (some { block := w.heap.size, off := 2 })) :: (Value.slice (some { block := g, off := off }) is.length c3) :: (Value.int IntKind.i64 ↑is.length) :: (Value.bool true) :: (Value.bool false) :: (Value.bool false) :: (Value.pointer (some { block := w.heap.size, off := 2 })) :: (Value.slice (some { block := g, off := off }) is.length c3) :: (Value.int IntKind.i64 (↑j + 1)) :: (Value.int IntKind.i64 ↑j) :: (Value.pointer (some { block := g, off := off + j * 3 })) :: (Value.pointer (some { block := g, off := off + j * 3 })) :: (Value.int IntKind.i64 2) :: (Value.bool false) :: (Value.bool false) :: (Value.pointer (some { block := w.heap.size, off := 2 })) :: (Value.slice (some { block := g, off := off }) is.length c3) :: (Value.int IntKind.i64 (↑j + 1)) :: (Value.int IntKind.i64 ↑j) :: (Value.pointer (some { block := g, off := off + j * 3 })) :: (Value.agg #[Value.int IntKind.i64 2, Value.int IntKind.i64 ln, Value.slice (some { block := gp, off := op }) ps.length pc]) :: (Value.int IntKind.i64 ↑q) :: (Value.pointer (some { block := w.heap.size + 1, off := 2 })) :: (Value.slice (some { block := gp, off := op }) ps.length pc) :: (Value.int IntKind.i64 ↑ps.length) :: (Value.bool true) :: (u41) :: (u42) :: (x 7) :: (x 0) :: (v) :: (x 2) :: (x 3) :: (x 4) :: (x 5) :: (x 6) :: (x 8) :: (x 9) :: (u53) :: (u54) :: (u55) :: (u56) :: (u57) :: (u58) :: (u59) :: (u60) :: (u61) :: (u62) :: (u63) :: (u64) :: (u65) :: (u66) :: (u67) :: (u68) :: (u69) :: (u70) :: (u71) :: (u72) :: (u73) :: (u74) :: (u75) :: (u76) :: []), []⟩ W') := fun v W' h1 h2 => hK' _ _ (hK v W' h1 h2)
                clear hK hK' hp hd
                go_simp
                exact HK.out _ _ (Below.refl _ _) rfl
              · refine wpOp_step (o := _) rfl fun K' hK' => ?_
                have HK : Hid (∀ v W', Below W.heap.size W W' → ((Mk.const [1] (.slice (some ⟨gp, op, none⟩) ps.length pc) : Mk)).P W.heap.size W'.heap.size W' v (upd x 2 v) → K' ⟨List.toArray ((Value.agg #[dx, dy, Value.slice (some { block := g, off := off }) is.length c3, bv]) :: (Value.int IntKind.i64 (↑j + 1)) :: (Value.string nm) :: (Value.pointer (some { block := w.heap.size, off := 0 })) :: (undef) :: (undef) :: (u6) :: (u7) :: (u8) :: (Value.pointer (some { block := w.heap.size + 1, off := 0 })) :: (Value.int IntKind.i64 ↑q) :: (x 10) :: (u12) :: (u13) :: (Value.int IntKind.i64 (↑j + 1)) :: (Value.pointer (some { block := w.heap.size, off := 2 })) :: (Value.slice (some { block := g, off := off }) is.length c3) :: (Value.int IntKind.i64 ↑is.length) :: (Value.bool true) :: (Value.bool false) :: (Value.bool false) :: (Value.pointer (some { block := w.heap.size, off := 2 })) :: (Value.slice (some { block := g, off := off }) is.length c3) :: (Value.int IntKind.i64 (↑j + 1)) :: (Value.int IntKind.i64 ↑j) :: (Value.pointer (some { block := g, off := off + j * 3 })) :: (Value.pointer (some { block := g, off := off + j * 3 })) :: (Value.int IntKind.i64 2) :: (Value.bool false) :: (Value.bool false) :: (Value.pointer (some { block := w.heap.size, off := 2 })) :: (Value.slice (some { block := g, off := off }) is.length c3) :: (Value.int IntKind.i64 (↑j + 1)) :: (Value.int IntKind.i64 ↑j) :: (Value.pointer (some { block := g, off := off + j * 3 })) :: (Value.agg #[Value.int IntKind.i64 2, Value.int IntKind.i64 ln, Value.slice (some { block := gp, off := op }) ps.length pc]) :: (Value.int IntKind.i64 ↑q) :: (Value.pointer (some { block := w.heap.size + 1, off := 2 })) :: (Value.slice (some { block := gp, off := op }) ps.length pc) :: (Value.int IntKind.i64 ↑ps.length) :: (Value.bool true) :: (u41) :: (u42) :: (x 7) :: (x 0) :: (x 1) :: (v) :: (x 3) :: (x 4) :: (x 5) :: (x 6) :: (x 8) :: (x 9) :: (u53) :: (u54) :: (u55) :: (u56) :: (u57) :: (u58) :: (u59) :: (u60) :: (u61) :: (u62) :: (u63) :: (u64) :: (u65) :: (u66) :: (u67) :: (u68) :: (u69) :: (u70) :: (u71) :: (u72) :: (u73) :: (u74) :: (u75) :: (u76) :: []), []⟩ W') := fun v W' h1 h2 => hK' _ _ (hK v W' h1 h2)
                have e1 : x 1 = .pointer (some ⟨w.heap.size + 1, 2, none⟩) := hp.post 1 (hd 1 (show 1 ∈ [1] from by decide))
                have y0 : W.cell? ⟨w.heap.size + 1, 2, none⟩ = some (.slice (some ⟨gp, op, none⟩) ps.length pc) := (HC2.out W hp.bel).2.1.cell 2
                clear hK hK' hp hd
                simp only [e1] at HK ⊢
                go_simp
                exact HK.out _ _ (Below.refl _ _) rfl
              · refine wpOp_step (o := _) rfl fun K' hK' => ?_
                have HK : Hid (∀ v W', Below W.heap.size W W' → ((Mk.const [] (.int .i64 q) : Mk)).P W.heap.size W'.heap.size W' v (upd x 3 v) → K' ⟨List.toArray ((Value.agg #[dx, dy, Value.slice (some { block := g, off := off }) is.length c3, bv]) :: (Value.int IntKind.i64 (↑j + 1)) :: (Value.string nm) :: (Value.pointer (some { block := w.heap.size, off := 0 })) :: (undef) :: (undef) :: (u6) :: (u7) :: (u8) :: (Value.pointer (some { block := w.heap.size + 1, off := 0 })) :: (Value.int IntKind.i64 ↑q) :: (x 10) :: (u12) :: (u13) :: (Value.int IntKind.i64 (↑j + 1)) :: (Value.pointer (some { block := w.heap.size, off := 2 })) :: (Value.slice (some { block := g, off := off }) is.length c3) :: (Value.int IntKind.i64 ↑is.length) :: (Value.bool true) :: (Value.bool false) :: (Value.bool false) :: (Value.pointer (some { block := w.heap.size, off := 2 })) :: (Value.slice (some { block := g, off := off }) is.length c3) :: (Value.int IntKind.i64 (↑j + 1)) :: (Value.int IntKind.i64 ↑j) :: (Value.pointer (some { block := g, off := off + j * 3 })) :: (Value.pointer (some { block := g, off := off + j * 3 })) :: (Value.int IntKind.i64 2) :: (Value.bool false) :: (Value.bool false) :: (Value.pointer (some { block := w.heap.size, off := 2 })) :: (Value.slice (some { block := g, off := off }) is.length c3) :: (Value.int IntKind.i64 (↑j + 1)) :: (Value.int IntKind.i64 ↑j) :: (Value.pointer (some { block := g, off := off + j * 3 })) :: (Value.agg #[Value.int IntKind.i64 2, Value.int IntKind.i64 ln, Value.slice (some { block := gp, off := op }) ps.length pc]) :: (Value.int IntKind.i64 ↑q) :: (Value.pointer (some { block := w.heap.size + 1, off := 2 })) :: (Value.slice (some { block := gp, off := op }) ps.length pc) :: (Value.int IntKind.i64 ↑ps.length) :: (Value.bool true) :: (u41) :: (u42) :: (x 7) :: (x 0) :: (x 1) :: (x 2) :: (v) :: (x 4) :: (x 5) :: (x 6) :: (x 8) :: (x 9) :: (u53) :: (u54) :: (u55) :: (u56) :: (u57) :: (u58) :: (u59) :: (u60) :: (u61) :: (u62) :: (u63) :: (u64) :: (u65) :: (u66) :: (u67) :: (u68) :: (u69) :: (u70) :: (u71) :: (u72) :: (u73) :: (u74) :: (u75) :: (u76) :: []), []⟩ W') := fun v W' h1 h2 => hK' _ _ (hK v W' h1 h2)
                clear hK hK' hp hd
                go_simp
                exact HK.out _ _ (Below.refl _ _) rfl
              · refine wpOp_step (o := _) rfl fun K' hK' => ?_
                have HK : Hid (∀ v W', Below W.heap.size W W' → ((Mk.const [2, 3] (.pointer (some ⟨gp, op + q, none⟩)) : Mk)).P W.heap.size W'.heap.size W' v (upd x 4 v) → K' ⟨List.toArray ((Value.agg #[dx, dy, Value.slice (some { block := g, off := off }) is.length c3, bv]) :: (Value.int IntKind.i64 (↑j + 1)) :: (Value.string nm) :: (Value.pointer (some { block := w.heap.size, off := 0 })) :: (undef) :: (undef) :: (u6) :: (u7) :: (u8) :: (Value.pointer (some { block := w.heap.size + 1, off := 0 })) :: (Value.int IntKind.i64 ↑q) :: (x 10) :: (u12) :: (u13) :: (Value.int IntKind.i64 (↑j + 1)) :: (Value.pointer (some { block := w.heap.size, off := 2 })) :: (Value.slice (some { block := g, off := off }) is.length c3) :: (Value.int IntKind.i64 ↑is.length) :: (Value.bool true) :: (Value.bool false) :: (Value.bool false) :: (Value.pointer (some { block := w.heap.size, off := 2 })) :: (Value.slice (some { block := g, off := off }) is.length c3) :: (Value.int IntKind.i64 (↑j + 1)) :: (Value.int IntKind.i64 ↑j) :: (Value.pointer (some { block := g, off := off + j * 3 })) :: (Value.pointer (some { block := g, off := off + j * 3 })) :: (Value.int IntKind.i64 2) :: (Value.bool false) :: (Value.bool false) :: (Value.pointer (some { block := w.heap.size, off := 2 })) :: (Value.slice (some { block := g, off := off }) is.length c3) :: (Value.int IntKind.i64 (↑j + 1)) :: (Value.int IntKind.i64 ↑j) :: (Value.pointer (some { block := g, off := off + j * 3 })) :: (Value.agg #[Value.int IntKind.i64 2, Value.int IntKind.i64 ln, Value.slice (some { block := gp, off := op }) ps.length pc]) :: (Value.int IntKind.i64 ↑q) :: (Value.pointer (some { block := w.heap.size + 1, off := 2 })) :: (Value.slice (some { block := gp, off := op }) ps.length pc) :: (Value.int IntKind.i64 ↑ps.length) :: (Value.bool true) :: (u41) :: (u42) :: (x 7) :: (x 0) :: (x 1) :: (x 2) :: (x 3) :: (v) :: (x 5) :: (x 6) :: (x 8) :: (x 9) :: (u53) :: (u54) :: (u55) :: (u56) :: (u57) :: (u58) :: (u59) :: (u60) :: (u61) :: (u62) :: (u63) :: (u64) :: (u65) :: (u66) :: (u67) :: (u68) :: (u69) :: (u70) :: (u71) :: (u72) :: (u73) :: (u74) :: (u75) :: (u76) :: []), []⟩ W') := fun v W' h1 h2 => hK' _ _ (hK v W' h1 h2)
                have e2 : x 2 = .slice (some ⟨gp, op, none⟩) ps.length pc := hp.post 2 (hd 2 (show 2 ∈ [2, 3] from by decide))
                have e3 : x 3 = .int .i64 q := hp.post 3 (hd 3 (show 3 ∈ [2, 3] from by decide))
                clear hK hK' hp hd
                simp only [e2, e3] at HK ⊢
                go_simp
                exact HK.out _ _ (Below.refl _ _) rfl
              · refine wpOp_step (o := _) rfl fun K' hK' => ?_
                have HK : Hid (∀ v W', Below W.heap.size W W' → ((Mk.const [4] (.int .i64 Pn) : Mk)).P W.heap.size W'.heap.size W' v (upd x 5 v) → K' ⟨List.toArray ((Value.agg #[dx, dy, Value.slice (some { block := g, off := off }) is.length c3, bv]) :: (Value.int IntKind.i64 (↑j + 1)) :: (Value.string nm) :: (Value.pointer (some { block := w.heap.size, off := 0 })) :: (undef) :: (undef) :: (u6) :: (u7) :: (u8) :: (Value.pointer (some { block := w.heap.size + 1, off := 0 })) :: (Value.int IntKind.i64 ↑q) :: (x 10) :: (u12) :: (u13) :: (Value.int IntKind.i64 (↑j + 1)) :: (Value.pointer (some { block := w.heap.size, off := 2 })) :: (Value.slice (some { block := g, off := off }) is.length c3) :: (Value.int IntKind.i64 ↑is.length) :: (Value.bool true) :: (Value.bool false) :: (Value.bool false) :: (Value.pointer (some { block := w.heap.size, off := 2 })) :: (Value.slice (some { block := g, off := off }) is.length c3) :: (Value.int IntKind.i64 (↑j + 1)) :: (Value.int IntKind.i64 ↑j) :: (Value.pointer (some { block := g, off := off + j * 3 })) :: (Value.pointer (some { block := g, off := off + j * 3 })) :: (Value.int IntKind.i64 2) :: (Value.bool false) :: (Value.bool false) :: (Value.pointer (some { block := w.heap.size, off := 2 })) :: (Value.slice (some { block := g, off := off }) is.length c3) :: (Value.int IntKind.i64 (↑j + 1)) :: (Value.int IntKind.i64 ↑j) :: (Value.pointer (some { block := g, off := off + j * 3 })) :: (Value.agg #[Value.int IntKind.i64 2, Value.int IntKind.i64 ln, Value.slice (some { block := gp, off := op }) ps.length pc]) :: (Value.int IntKind.i64 ↑q) :: (Value.pointer (some { block := w.heap.size + 1, off := 2 })) :: (Value.slice (some { block := gp, off := op }) ps.length pc) :: (Value.int IntKind.i64 ↑ps.length) :: (Value.bool true) :: (u41) :: (u42) :: (x 7) :: (x 0) :: (x 1) :: (x 2) :: (x 3) :: (x 4) :: (v) :: (x 6) :: (x 8) :: (x 9) :: (u53) :: (u54) :: (u55) :: (u56) :: (u57) :: (u58) :: (u59) :: (u60) :: (u61) :: (u62) :: (u63) :: (u64) :: (u65) :: (u66) :: (u67) :: (u68) :: (u69) :: (u70) :: (u71) :: (u72) :: (u73) :: (u74) :: (u75) :: (u76) :: []), []⟩ W') := fun v W' h1 h2 => hK' _ _ (hK v W' h1 h2)
                have e4 : x 4 = .pointer (some ⟨gp, op + q, none⟩) := hp.post 4 (hd 4 (show 4 ∈ [4] from by decide))
                have y0 : W.cell? ⟨gp, op + q, none⟩ = some (.int .i64 Pn) := (HC2.out W hp.bel).2.2.1
                clear hK hK' hp hd
                simp only [e4] at HK ⊢
                go_simp
                exact HK.out _ _ (Below.refl _ _) rfl
              · refine wpOp_step (o := _) rfl fun K' hK' => ?_
                have HK : Hid (∀ v W', Below W.heap.size W W' → (MkBf 0 5 wr bd btx bss F).P W.heap.size W'.heap.size W' v (upd x 6 v) → K' ⟨List.toArray ((Value.agg #[dx, dy, Value.slice (some { block := g, off := off }) is.length c3, bv]) :: (Value.int IntKind.i64 (↑j + 1)) :: (Value.string nm) :: (Value.pointer (some { block := w.heap.size, off := 0 })) :: (undef) :: (undef) :: (u6) :: (u7) :: (u8) :: (Value.pointer (some { block := w.heap.size + 1, off := 0 })) :: (Value.int IntKind.i64 ↑q) :: (x 10) :: (u12) :: (u13) :: (Value.int IntKind.i64 (↑j + 1)) :: (Value.pointer (some { block := w.heap.size, off := 2 })) :: (Value.slice (some { block := g, off := off }) is.length c3) :: (Value.int IntKind.i64 ↑is.length) :: (Value.bool true) :: (Value.bool false) :: (Value.bool false) :: (Value.pointer (some { block := w.heap.size, off := 2 })) :: (Value.slice (some { block := g, off := off }) is.length c3) :: (Value.int IntKind.i64 (↑j + 1)) :: (Value.int IntKind.i64 ↑j) :: (Value.pointer (some { block := g, off := off + j * 3 })) :: (Value.pointer (some { block := g, off := off + j * 3 })) :: (Value.int IntKind.i64 2) :: (Value.bool false) :: (Value.bool false) :: (Value.pointer (some { block := w.heap.size, off := 2 })) :: (Value.slice (some { block := g, off := off }) is.length c3) :: (Value.int IntKind.i64 (↑j + 1)) :: (Value.int IntKind.i64 ↑j) :: (Value.pointer (some { block := g, off := off + j * 3 })) :: (Value.agg #[Value.int IntKind.i64 2, Value.int IntKind.i64 ln, Value.slice (some { block := gp, off := op }) ps.length pc]) :: (Value.int IntKind.i64 ↑q) :: (Value.pointer (some { block := w.heap.size + 1, off := 2 })) :: (Value.slice (some { block := gp, off := op }) ps.length pc) :: (Value.int IntKind.i64 ↑ps.length) :: (Value.bool true) :: (u41) :: (u42) :: (x 7) :: (x 0) :: (x 1) :: (x 2) :: (x 3) :: (x 4) :: (x 5) :: (v) :: (x 8) :: (x 9) :: (u53) :: (u54) :: (u55) :: (u56) :: (u57) :: (u58) :: (u59) :: (u60) :: (u61) :: (u62) :: (u63) :: (u64) :: (u65) :: (u66) :: (u67) :: (u68) :: (u69) :: (u70) :: (u71) :: (u72) :: (u73) :: (u74) :: (u75) :: (u76) :: []), []⟩ W') := fun v W' h1 h2 => hK' _ _ (hK v W' h1 h2)
                have e0 : x 0 = .agg #[dx, dy, .slice (some ⟨g, off, none⟩) is.length c3, bv] := hp.post 0 (hd 0 (show 0 ∈ [0, 5] from by decide))
                have e5 : x 5 = .int .i64 Pn := hp.post 5 (hd 5 (show 5 ∈ [0, 5] from by decide))
                have dr := of_drew hp.bel
                clear hK hK' hp hd
                simp only [e0, e5] at HK ⊢
                clear e0 e5
                go_simp
                refine (CB.out W dr).mono ?_
                rintro e w6 ⟨sv, rfl, R6, B6⟩
                obtain ⟨sa, sc, rfl, hR6⟩ := R6
                go_simp
                exact HK.out _ _ B6 ⟨sa, sc, rfl, sa, sc, rfl, hR6⟩
              · refine wpOp_step (o := _) rfl fun K' hK' => ?_
                have HK : Hid (∀ v W', Below W.heap.size W W' → (MkBv 6 bd btx bss.length F).P W.heap.size W'.heap.size W' v (upd x 7 v) → K' ⟨List.toArray ((Value.agg #[dx, dy, Value.slice (some { block := g, off := off }) is.length c3, bv]) :: (Value.int IntKind.i64 (↑j + 1)) :: (Value.string nm) :: (Value.pointer (some { block := w.heap.size, off := 0 })) :: (undef) :: (undef) :: (u6) :: (u7) :: (u8) :: (Value.pointer (some { block := w.heap.size + 1, off := 0 })) :: (Value.int IntKind.i64 ↑q) :: (x 10) :: (u12) :: (u13) :: (Value.int IntKind.i64 (↑j + 1)) :: (Value.pointer (some { block := w.heap.size, off := 2 })) :: (Value.slice (some { block := g, off := off }) is.length c3) :: (Value.int IntKind.i64 ↑is.length) :: (Value.bool true) :: (Value.bool false) :: (Value.bool false) :: (Value.pointer (some { block := w.heap.size, off := 2 })) :: (Value.slice (some { block := g, off := off }) is.length c3) :: (Value.int IntKind.i64 (↑j + 1)) :: (Value.int IntKind.i64 ↑j) :: (Value.pointer (some { block := g, off := off + j * 3 })) :: (Value.pointer (some { block := g, off := off + j * 3 })) :: (Value.int IntKind.i64 2) :: (Value.bool false) :: (Value.bool false) :: (Value.pointer (some { block := w.heap.size, off := 2 })) :: (Value.slice (some { block := g, off := off }) is.length c3) :: (Value.int IntKind.i64 (↑j + 1)) :: (Value.int IntKind.i64 ↑j) :: (Value.pointer (some { block := g, off := off + j * 3 })) :: (Value.agg #[Value.int IntKind.i64 2, Value.int IntKind.i64 ln, Value.slice (some { block := gp, off := op }) ps.length pc]) :: (Value.int IntKind.i64 ↑q) :: (Value.pointer (some { block := w.heap.size + 1, off := 2 })) :: (Value.slice (some { block := gp, off := op }) ps.length pc) :: (Value.int IntKind.i64 ↑ps.length) :: (Value.bool true) :: (u41) :: (u42) :: (v) :: (x 0) :: (x 1) :: (x 2) :: (x 3) :: (x 4) :: (x 5) :: (x 6) :: (x 8) :: (x 9) :: (u53) :: (u54) :: (u55) :: (u56) :: (u57) :: (u58) :: (u59) :: (u60) :: (u61) :: (u62) :: (u63) :: (u64) :: (u65) :: (u66) :: (u67) :: (u68) :: (u69) :: (u70) :: (u71) :: (u72) :: (u73) :: (u74) :: (u75) :: (u76) :: []), []⟩ W') := fun v W' h1 h2 => hK' _ _ (hK v W' h1 h2)
                have e6 : ∃ a c, x 6 = .tuple #[.agg #[.bool bd, .slice a bss.length c, .string btx], .bool F] ∧ RSl wr (.slice a bss.length c) bss := hp.post 6 (hd 6 (show 6 ∈ [6] from by decide))
                clear hK hK' hp hd
                obtain ⟨sa, sc, e6, -⟩ := e6
                have e6a := hide e6
                simp only [e6] at HK ⊢
                clear e6
                go_simp
                exact HK.out _ _ (Below.refl _ _) ⟨e6a.out, sa, sc, rfl⟩
              · refine wpOp_step (o := _) rfl fun K' hK' => ?_
                have HK : Hid (∀ v W', Below W.heap.size W W' → (MkBx 7).P W.heap.size W'.heap.size W' v (upd x 8 v) → K' ⟨List.toArray ((Value.agg #[dx, dy, Value.slice (some { block := g, off := off }) is.length c3, bv]) :: (Value.int IntKind.i64 (↑j + 1)) :: (Value.string nm) :: (Value.pointer (some { block := w.heap.size, off := 0 })) :: (undef) :: (undef) :: (u6) :: (u7) :: (u8) :: (Value.pointer (some { block := w.heap.size + 1, off := 0 })) :: (Value.int IntKind.i64 ↑q) :: (x 10) :: (u12) :: (u13) :: (Value.int IntKind.i64 (↑j + 1)) :: (Value.pointer (some { block := w.heap.size, off := 2 })) :: (Value.slice (some { block := g, off := off }) is.length c3) :: (Value.int IntKind.i64 ↑is.length) :: (Value.bool true) :: (Value.bool false) :: (Value.bool false) :: (Value.pointer (some { block := w.heap.size, off := 2 })) :: (Value.slice (some { block := g, off := off }) is.length c3) :: (Value.int IntKind.i64 (↑j + 1)) :: (Value.int IntKind.i64 ↑j) :: (Value.pointer (some { block := g, off := off + j * 3 })) :: (Value.pointer (some { block := g, off := off + j * 3 })) :: (Value.int IntKind.i64 2) :: (Value.bool false) :: (Value.bool false) :: (Value.pointer (some { block := w.heap.size, off := 2 })) :: (Value.slice (some { block := g, off := off }) is.length c3) :: (Value.int IntKind.i64 (↑j + 1)) :: (Value.int IntKind.i64 ↑j) :: (Value.pointer (some { block := g, off := off + j * 3 })) :: (Value.agg #[Value.int IntKind.i64 2, Value.int IntKind.i64 ln, Value.slice (some { block := gp, off := op }) ps.length pc]) :: (Value.int IntKind.i64 ↑q) :: (Value.pointer (some { block := w.heap.size + 1, off := 2 })) :: (Value.slice (some { block := gp, off := op }) ps.length pc) :: (Value.int IntKind.i64 ↑ps.length) :: (Value.bool true) :: (u41) :: (u42) :: (x 7) :: (x 0) :: (x 1) :: (x 2) :: (x 3) :: (x 4) :: (x 5) :: (x 6) :: (v) :: (x 9) :: (u53) :: (u54) :: (u55) :: (u56) :: (u57) :: (u58) :: (u59) :: (u60) :: (u61) :: (u62) :: (u63) :: (u64) :: (u65) :: (u66) :: (u67) :: (u68) :: (u69) :: (u70) :: (u71) :: (u72) :: (u73) :: (u74) :: (u75) :: (u76) :: []), []⟩ W') := fun v W' h1 h2 => hK' _ _ (hK v W' h1 h2)
                have e7 : x 6 = x 7 ∧ ∃ a c, x 7 = .tuple #[.agg #[.bool bd, .slice a bss.length c, .string btx], .bool F] := hp.post 7 (hd 7 (show 7 ∈ [7] from by decide))
                clear hK hK' hp hd
                obtain ⟨-, sa, sc, e7⟩ := e7
                have e7a : Hid (.agg #[.bool bd, .slice sa bss.length sc, .string btx] = fstOf (x 7)) := by rw [e7]; rfl
                simp only [e7] at HK ⊢
                clear e7
                go_simp
                exact HK.out _ _ (Below.refl _ _) e7a.out
              · refine wpOp_step (o := _) rfl fun K' hK' => ?_
                have HK : Hid (∀ v W', Below W.heap.size W W' → ((Mk.const [7] (.bool F) : Mk)).P W.heap.size W'.heap.size W' v (upd x 9 v) → K' ⟨List.toArray ((Value.agg #[dx, dy, Value.slice (some { block := g, off := off }) is.length c3, bv]) :: (Value.int IntKind.i64 (↑j + 1)) :: (Value.string nm) :: (Value.pointer (some { block := w.heap.size, off := 0 })) :: (undef) :: (undef) :: (u6) :: (u7) :: (u8) :: (Value.pointer (some { block := w.heap.size + 1, off := 0 })) :: (Value.int IntKind.i64 ↑q) :: (x 10) :: (u12) :: (u13) :: (Value.int IntKind.i64 (↑j + 1)) :: (Value.pointer (some { block := w.heap.size, off := 2 })) :: (Value.slice (some { block := g, off := off }) is.length c3) :: (Value.int IntKind.i64 ↑is.length) :: (Value.bool true) :: (Value.bool false) :: (Value.bool false) :: (Value.pointer (some { block := w.heap.size, off := 2 })) :: (Value.slice (some { block := g, off := off }) is.length c3) :: (Value.int IntKind.i64 (↑j + 1)) :: (Value.int IntKind.i64 ↑j) :: (Value.pointer (some { block := g, off := off + j * 3 })) :: (Value.pointer (some { block := g, off := off + j * 3 })) :: (Value.int IntKind.i64 2) :: (Value.bool false) :: (Value.bool false) :: (Value.pointer (some { block := w.heap.size, off := 2 })) :: (Value.slice (some { block := g, off := off }) is.length c3) :: (Value.int IntKind.i64 (↑j + 1)) :: (Value.int IntKind.i64 ↑j) :: (Value.pointer (some { block := g, off := off + j * 3 })) :: (Value.agg #[Value.int IntKind.i64 2, Value.int IntKind.i64 ln, Value.slice (some { block := gp, off := op }) ps.length pc]) :: (Value.int IntKind.i64 ↑q) :: (Value.pointer (some { block := w.heap.size + 1, off := 2 })) :: (Value.slice (some { block := gp, off := op }) ps.length pc) :: (Value.int IntKind.i64 ↑ps.length) :: (Value.bool true) :: (u41) :: (u42) :: (x 7) :: (x 0) :: (x 1) :: (x 2) :: (x 3) :: (x 4) :: (x 5) :: (x 6) :: (x 8) :: (v) :: (u53) :: (u54) :: (u55) :: (u56) :: (u57) :: (u58) :: (u59) :: (u60) :: (u61) :: (u62) :: (u63) :: (u64) :: (u65) :: (u66) :: (u67) :: (u68) :: (u69) :: (u70) :: (u71) :: (u72) :: (u73) :: (u74) :: (u75) :: (u76) :: []), []⟩ W') := fun v W' h1 h2 => hK' _ _ (hK v W' h1 h2)
                have e7 : x 6 = x 7 ∧ ∃ a c, x 7 = .tuple #[.agg #[.bool bd, .slice a bss.length c, .string btx], .bool F] := hp.post 7 (hd 7 (show 7 ∈ [7] from by decide))
                clear hK hK' hp hd
                obtain ⟨-, sa, sc, e7⟩ := e7
                simp only [e7] at HK ⊢
                clear e7
                go_simp
                exact HK.out _ _ (Below.refl _ _) rfl
              · refine wpOp_step (o := _) rfl fun K' hK' => ?_
                have HK : Hid (∀ v W', Below W.heap.size W W' → (MkW 84 #[.bool false, .slice none 0 0, .string ⟨#[]⟩]).P W.heap.size W'.heap.size W' v (upd x 10 v) → K' ⟨List.toArray ((Value.agg #[dx, dy, Value.slice (some { block := g, off := off }) is.length c3, bv]) :: (Value.int IntKind.i64 (↑j + 1)) :: (Value.string nm) :: (Value.pointer (some { block := w.heap.size, off := 0 })) :: (undef) :: (undef) :: (u6) :: (u7) :: (u8) :: (Value.pointer (some { block := w.heap.size + 1, off := 0 })) :: (Value.int IntKind.i64 ↑q) :: (v) :: (u12) :: (u13) :: (Value.int IntKind.i64 (↑j + 1)) :: (Value.pointer (some { block := w.heap.size, off := 2 })) :: (Value.slice (some { block := g, off := off }) is.length c3) :: (Value.int IntKind.i64 ↑is.length) :: (Value.bool true) :: (Value.bool false) :: (Value.bool false) :: (Value.pointer (some { block := w.heap.size, off := 2 })) :: (Value.slice (some { block := g, off := off }) is.length c3) :: (Value.int IntKind.i64 (↑j + 1)) :: (Value.int IntKind.i64 ↑j) :: (Value.pointer (some { block := g, off := off + j * 3 })) :: (Value.pointer (some { block := g, off := off + j * 3 })) :: (Value.int IntKind.i64 2) :: (Value.bool false) :: (Value.bool false) :: (Value.pointer (some { block := w.heap.size, off := 2 })) :: (Value.slice (some { block := g, off := off }) is.length c3) :: (Value.int IntKind.i64 (↑j + 1)) :: (Value.int IntKind.i64 ↑j) :: (Value.pointer (some { block := g, off := off + j * 3 })) :: (Value.agg #[Value.int IntKind.i64 2, Value.int IntKind.i64 ln, Value.slice (some { block := gp, off := op }) ps.length pc]) :: (Value.int IntKind.i64 ↑q) :: (Value.pointer (some { block := w.heap.size + 1, off := 2 })) :: (Value.slice (some { block := gp, off := op }) ps.length pc) :: (Value.int IntKind.i64 ↑ps.length) :: (Value.bool true) :: (u41) :: (u42) :: (x 7) :: (x 0) :: (x 1) :: (x 2) :: (x 3) :: (x 4) :: (x 5) :: (x 6) :: (x 8) :: (x 9) :: (u53) :: (u54) :: (u55) :: (u56) :: (u57) :: (u58) :: (u59) :: (u60) :: (u61) :: (u62) :: (u63) :: (u64) :: (u65) :: (u66) :: (u67) :: (u68) :: (u69) :: (u70) :: (u71) :: (u72) :: (u73) :: (u74) :: (u75) :: (u76) :: []), []⟩ W') := fun v W' h1 h2 => hK' _ _ (hK v W' h1 h2)
                clear hK hK' hp hd
                go_simp
                exact HK.out _ _ ((Below.refl _ W).alloc (Nat.le_refl _) _) ⟨rfl, by simp, AtC.new W 84 _⟩
            · intro x iw W hp
              obtain ⟨e7, -⟩ := hp.post 7 (by decide)
              obtain ⟨sa, sc, e6, R6⟩ := hp.post 6 (by decide)
              have e8 : x 8 = fstOf (x 7) := hp.post 8 (by decide)
              obtain ⟨e10, z10, A10⟩ := hp.post 10 (by decide)
              have l10 := hp.lo 10 (by decide)
              have bel := of_drew hp.bel
              rw [← e7, e6] at e8
              rw [e6] at e7
              replace e8 : x 8 = .agg #[.bool bd, .slice sa bss.length sc, .string btx] := e8
              have e9 : x 9 = .bool F := hp.post 9 (by decide)
              have e0 : x 0 = .agg #[dx, dy, .slice (some ⟨g, off, none⟩) is.length c3, bv] := hp.post 0 (by decide)
              have e1 : x 1 = .pointer (some ⟨w.heap.size + 1, 2, none⟩) := hp.post 1 (by decide)
              have e2 : x 2 = .slice (some ⟨gp, op, none⟩) ps.length pc := hp.post 2 (by decide)
              have e3 : x 3 = .int .i64 q := hp.post 3 (by decide)
              have e4 : x 4 = .pointer (some ⟨gp, op + q, none⟩) := hp.post 4 (by decide)
              have e5 : x 5 = .int .i64 Pn := hp.post 5 (by decide)
              have y0 : W.cell? ⟨(iw 10).1, 0, none⟩ = some (.bool false) := A10.cell 0
              have f0 := A10.frozen 0
              have y1 : W.cell? ⟨(iw 10).1, 1, none⟩ = some (.slice none 0 0) := A10.cell 1
              have f1 := A10.frozen 1
              have y2 : W.cell? ⟨(iw 10).1, 2, none⟩ = some (.string ⟨#[]⟩) := A10.cell 2
              have f2 := A10.frozen 2
              have hb10 : wr.heap.size ≤ (iw 10).1 := l10.1
              have HM : Hid (AtC (((W.setCell ⟨(iw 10).1, 0, none⟩ (.bool bd)).setCell ⟨(iw 10).1, 1, none⟩ (.slice sa bss.length sc)).setCell ⟨(iw 10).1, 2, none⟩ (.string btx)) (iw 10).1 84 #[.bool bd, .slice sa bss.length sc, .string btx] ∧ RSl wr (.slice sa bss.length sc) bss ∧ Below wr.heap.size wr (((W.setCell ⟨(iw 10).1, 0, none⟩ (.bool bd)).setCell ⟨(iw 10).1, 1, none⟩ (.slice sa bss.length sc)).setCell ⟨(iw 10).1, 2, none⟩ (.string btx))) := by
                have s0 : AtC (W.setCell ⟨(iw 10).1, 0, none⟩ (.bool bd)) (iw 10).1 84 #[.bool bd, .slice none 0 0, .string ⟨#[]⟩] := A10.set 0 _
                have s1 : AtC ((W.setCell ⟨(iw 10).1, 0, none⟩ (.bool bd)).setCell ⟨(iw 10).1, 1, none⟩ (.slice sa bss.length sc)) (iw 10).1 84 #[.bool bd, .slice sa bss.length sc, .string ⟨#[]⟩] := s0.set 1 _
                exact ⟨s1.set 2 _, R6, ((bel.setCell hb10 _).setCell hb10 _).setCell hb10 _⟩
              clear hp l10 A10 bel hb10 z10
              generalize (iw 10).1 = bw at *
              simp only [e0, e1, e2, e3, e4, e5, e6, ← e7, e8, e9, e10]
              clear e0 e1 e2 e3 e4 e5 e6 e7 e8 e9 e10
              refine line2 rfl rfl ?_
              go_wp2
              exact (HQQ.out _ _ _).2 ⟨rfl, _, bw, sa, sc, rfl, HM.out.1, HM.out.2.1, HM.out.2.2⟩
            · intro qa hqa l hl x iw W hp
              simp only [List.mem_cons, List.not_mem_nil, or_false] at hqa
              subst hqa
              simp only [List.mem_cons, List.not_mem_nil, or_false] at hl
              obtain ⟨e7, -⟩ := hp.post 7 (by decide)
              obtain ⟨sa, sc, e6, R6⟩ := hp.post 6 (by decide)
              have e8 : x 8 = fstOf (x 7) := hp.post 8 (by decide)
              obtain ⟨e10, z10, A10⟩ := hp.post 10 (by decide)
              have l10 := hp.lo 10 (by decide)
              have bel := of_drew hp.bel
              rw [← e7, e6] at e8
              rw [e6] at e7
              replace e8 : x 8 = .agg #[.bool bd, .slice sa bss.length sc, .string btx] := e8
              have e0 : x 0 = .agg #[dx, dy, .slice (some ⟨g, off, none⟩) is.length c3, bv] := hp.post 0 (by decide)
              have e1 : x 1 = .pointer (some ⟨w.heap.size + 1, 2, none⟩) := hp.post 1 (by decide)
              have e2 : x 2 = .slice (some ⟨gp, op, none⟩) ps.length pc := hp.post 2 (by decide)
              have e3 : x 3 = .int .i64 q := hp.post 3 (by decide)
              have e4 : x 4 = .pointer (some ⟨gp, op + q, none⟩) := hp.post 4 (by decide)
              have e5 : x 5 = .int .i64 Pn := hp.post 5 (by decide)
              have y0 : W.cell? ⟨(iw 10).1, 0, none⟩ = some (.bool false) := A10.cell 0
              have f0 := A10.frozen 0
              have y1 : W.cell? ⟨(iw 10).1, 1, none⟩ = some (.slice none 0 0) := A10.cell 1
              have f1 := A10.frozen 1
              have y2 : W.cell? ⟨(iw 10).1, 2, none⟩ = some (.string ⟨#[]⟩) := A10.cell 2
              have f2 := A10.frozen 2
              have hb10 : wr.heap.size ≤ (iw 10).1 := l10.1
              have HM : Hid (AtC (((W.setCell ⟨(iw 10).1, 0, none⟩ (.bool bd)).setCell ⟨(iw 10).1, 1, none⟩ (.slice sa bss.length sc)).setCell ⟨(iw 10).1, 2, none⟩ (.string btx)) (iw 10).1 84 #[.bool bd, .slice sa bss.length sc, .string btx] ∧ RSl wr (.slice sa bss.length sc) bss ∧ Below wr.heap.size wr (((W.setCell ⟨(iw 10).1, 0, none⟩ (.bool bd)).setCell ⟨(iw 10).1, 1, none⟩ (.slice sa bss.length sc)).setCell ⟨(iw 10).1, 2, none⟩ (.string btx))) := by
                have s0 : AtC (W.setCell ⟨(iw 10).1, 0, none⟩ (.bool bd)) (iw 10).1 84 #[.bool bd, .slice none 0 0, .string ⟨#[]⟩] := A10.set 0 _
                have s1 : AtC ((W.setCell ⟨(iw 10).1, 0, none⟩ (.bool bd)).setCell ⟨(iw 10).1, 1, none⟩ (.slice sa bss.length sc)) (iw 10).1 84 #[.bool bd, .slice sa bss.length sc, .string ⟨#[]⟩] := s0.set 1 _
                exact ⟨s1.set 2 _, R6, ((bel.setCell hb10 _).setCell hb10 _).setCell hb10 _⟩
              clear hp l10 A10 bel hb10 z10
              generalize (iw 10).1 = bw at *
              simp only [e0, e1, e2, e3, e4, e5, e6, ← e7, e8, e10]
              clear e0 e1 e2 e3 e4 e5 e6 e7 e8 e10
              rcases hl with rfl | rfl
              · refine line3 rfl rfl rfl ?_
                go_wp2
                exact (HQQ.out _ _ _).2 ⟨rfl, _, bw, sa, sc, rfl, HM.out.1, HM.out.2.1, HM.out.2.2⟩
              · refine line3 rfl rfl rfl ?_
                go_wp2
                exact (HQQ.out _ _ _).2 ⟨rfl, _, bw, sa, sc, rfl, HM.out.1, HM.out.2.1, HM.out.2.2⟩
          intro ex ac W3 hq3
          obtain ⟨rfl, z6, bw, sa, sc, rfl, A3, R3, B3⟩ := (HQQ.out _ _ _).1 hq3
          clear hq3 HQQ
          have HN : Hid (∀ W, Below W3.heap.size W3 W → AtC W bw 84 #[.bool bd, .slice sa bss.length sc, .string btx] ∧ RSl W (.slice sa bss.length sc) bss ∧ W.cell? ⟨w.heap.size + 1, 2, none⟩ = some (.slice (some ⟨gp, op, none⟩) ps.length pc) ∧ W.cell? ⟨gp, op + q, none⟩ = some (.int .i64 Pn) ∧ Below w.heap.size w W ∧ Below ((w.alloc (.cells #[dx, dy, .slice (some ⟨g, off, none⟩) is.length c3, bv] 36)).alloc (.cells #[.int .i64 2, .int .i64 ln, .slice (some ⟨gp, op, none⟩) ps.length pc] 49)).heap.size ((w.alloc (.cells #[dx, dy, .slice (some ⟨g, off, none⟩) is.length c3, bv] 36)).alloc (.cells #[.int .i64 2, .int .i64 ln, .slice (some ⟨gp, op, none⟩) ps.length pc] 49)) W) := fun W b => by
            have b2 := B3.trans (b.mono B3.size)
            have b3 := HQ.out.trans (b2.mono HQ.out.size)
            obtain ⟨-, k2, k3, -⟩ := HW.out W b3
            exact ⟨A3.over b, R3.below b2 (Nat.le_refl _), k2.cell 2, (b2.cell (p := ⟨gp, op + q, none⟩) hgp).trans HKP.out, k3, b3⟩
          obtain ⟨d1, d2, -⟩ := HN.out _ (Below.refl _ _)
          have g0 : W3.cell? ⟨bw, 0, none⟩ = some (.bool bd) := d1.cell 0
          have g1 : W3.cell? ⟨bw, 1, none⟩ = some (.slice sa bss.length sc) := d1.cell 1
          have g2 : W3.cell? ⟨bw, 2, none⟩ = some (.string btx) := d1.cell 2
          have HD2 := hide d2
          clear d1 d2 A3 R3 B3 y2 CB HC2
          go_wp2_with fail
          refine (slot_any bd _ bss btx nm W3 HD2.out hbn).mono ?_
          rintro e w4 ⟨k, rfl, SL, B4⟩
          obtain ⟨d1, d2, d3, d4, d5, d6⟩ := HN.out w4 B4
          have g0 : w4.cell? ⟨bw, 0, none⟩ = some (.bool bd) := d1.cell 0
          have g1 : w4.cell? ⟨bw, 1, none⟩ = some (.slice sa bss.length sc) := d1.cell 1
          have HE := hide (And.intro d5 d6)
          clear d1 d5 d6 HN B4 HD2 HQ
          have HTK := hide (nmdP_take (bs := bs) hlt)
          have HSPL := hide (nmdP_split (bs := bs) hlt)
          rw [HPN.out, HBD.out] at HTK HSPL
          cases F with
          | false =>
            have HN2 : Hid (∀ s ∈ nmdP bs (ps.take (q + 1)), ¬ s.1 = nm) := by
              have hb0 := blkAt_no HFF.out
              rw [HBD.out] at hb0
              show ∀ s ∈ nmdP bs (ps.take (q + 1)), ¬ s.1 = nm
              rw [HTK.out, show nmd (bd, bss, btx) = [] from by simp only [Prod.mk.injEq] at hb0; rw [hb0.1]; rfl, List.append_nil]
              exact HNO.out
            go_wp2
            go_roundw
            case rel => exact ⟨q + 1, by omega, by go_num, HN2.out, HE.out.2⟩
            case measure => simp [intOf]; omega
          | true =>
            cases bd with
            | false =>
              have HN2 : Hid (∀ s ∈ nmdP bs (ps.take (q + 1)), ¬ s.1 = nm) := by
                show ∀ s ∈ nmdP bs (ps.take (q + 1)), ¬ s.1 = nm
                rw [HTK.out, show nmd (false, bss, btx) = [] from rfl, List.append_nil]
                exact HNO.out
              go_wp2
              go_roundw
              case rel => exact ⟨q + 1, by omega, by go_num, HN2.out, HE.out.2⟩
              case measure => simp [intOf]; omega
            | true =>
              rcases SL with ⟨rfl, hno⟩ | ⟨jj, hjj, rfl, hnm, hsz, hfirst⟩
              · have HN2 : Hid (∀ s ∈ nmdP bs (ps.take (q + 1)), ¬ s.1 = nm) := by
                  show ∀ s ∈ nmdP bs (ps.take (q + 1)), ¬ s.1 = nm
                  rw [HTK.out, show nmd (true, bss, btx) = nmdS bss from rfl]
                  intro s hs
                  rcases List.mem_append.1 hs with h | h
                  · exact HNO.out s h
                  · exact nmdS_none (hno HNE.out) s h
                clear hno
                go_wp2
                go_roundw
                case rel => exact ⟨q + 1, by omega, by go_num, HN2.out, HE.out.2⟩
                case measure => simp [intOf]; omega
              · obtain ⟨sa', sc', e1, -, hcs⟩ := d2
                simp only [Value.slice.injEq, true_and] at e1
                obtain ⟨rfl, rfl⟩ := e1
                obtain ⟨gs, os, rfl, -, -, ks⟩ := hcs jj hjj
                have HFI : Hid (bss[jj].2 = RES) := by
                  show bss[jj].2 = RES
                  rw [← HRES.out, HSPL.out, findI_append HNO.out, show nmd (true, bss, btx) = nmdS bss from rfl]
                  exact (findI_first hjj hnm hsz hfirst).symm
                clear hfirst
                generalize bss[jj].2 = ino at *
                have t0 : (0 : Int) ≤ (jj : Int) := by omega
                have t1 : (jj : Int) < (bss.length : Int) := by omega
                clear hcs hnm hsz
                go_wp2
                go_quiet (fail)
                go_wp2
                go_ret3
                exact ⟨_, _, by rw [HFI.out]; rfl, below_drewN HE.out.1 _⟩
        · have HF := hide (HW.out wr HQ.out).2.2.1
          have HNF : Hid (findI (nmdP bs ps) nm = 0) := by
            have := HNO.out
            rw [List.take_of_length_le (by omega)] at this
            exact findI_none this
          clear HQ
          go_wp2
          go_ret3
          exact ⟨0, 0, by rw [← HRES.out, HNF.out]; rfl, HF.out⟩
    · have hk2 : decide (kd = 2) = false := decide_eq_false hk
      have HR0 : Hid (RES = 0) := by have := HRES0.out; rw [if_neg hk] at this; exact this.symm
      clear HRES0
      go_wp2
      go_ret3
      exact ⟨0, 0, by rw [HR0.out]; rfl, HB.out⟩
end Go.Proofs.Ytljooldjcefkoaa
/- What is told of the operations of a region that takes the results of a call apart, one of them into a new variable. No Go function is spoken of. -/
namespace Go.Proofs.Ytljooldjcefkoaa.Kit
open Go.RowKit
/-- The second of several. -/
def sndOf : Value → Value
  | .tuple xs => xs.getD 1 undef
  | u => u
/-- The third of several. -/
def thdOf : Value → Value
  | .tuple xs => xs.getD 2 undef
  | u => u
/-- Two results, of which something is told. -/
def MkT2 (ds : List Nat) (R : Nat → Nat → World → Value → Value → Prop) (hst : ∀ lo hi w w' a r, R lo hi w a r → Below w.heap.size w w' → R lo hi w' a r) : Mk := .val ds (fun lo hi w v => ∃ a r, v = .tuple #[a, r] ∧ R lo hi w a r)
  (fun lo hi w w' _ h hb => by obtain ⟨a, r, h1, h2⟩ := h; exact ⟨a, r, h1, hst lo hi w w' a r h2 hb⟩)
/-- Three results. -/
def MkT3 (ds : List Nat) (R : Nat → World → Value → Value → Value → Prop) (hst : ∀ lo w w' a r q, R lo w a r q → Below w.heap.size w w' → R lo w' a r q) : Mk := .val ds (fun lo _ w v => ∃ a r q, v = .tuple #[a, r, q] ∧ R lo w a r q)
  (fun lo _ w w' _ h hb => by obtain ⟨a, r, q, h1, h2⟩ := h; exact ⟨a, r, q, h1, hst lo w w' a r q h2 hb⟩)
/-- The same, in another place. -/
def MkMv (k : Nat) : Mk := .val1 [k] k (by simp) (fun _ _ _ u v => u = v ∧ ∃ a r, v = .tuple #[a, r]) (fun _ _ _ _ _ _ h _ => h)
def MkMv3 (k : Nat) : Mk := .val1 [k] k (by simp) (fun _ _ _ u v => u = v ∧ ∃ a r q, v = .tuple #[a, r, q]) (fun _ _ _ _ _ _ h _ => h)
def MkFs (k : Nat) : Mk := .val1 [k] k (by simp) (fun _ _ _ u v => v = fstOf u) (fun _ _ _ _ _ _ h _ => h)
def MkSd (k : Nat) : Mk := .val1 [k] k (by simp) (fun _ _ _ u v => v = sndOf u) (fun _ _ _ _ _ _ h _ => h)
def MkTd (k : Nat) : Mk := .val1 [k] k (by simp) (fun _ _ _ u v => v = thdOf u) (fun _ _ _ _ _ _ h _ => h)
end Go.Proofs.Ytljooldjcefkoaa.Kit
