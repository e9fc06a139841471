/- Texts of the proof, bundled: Ns4, Ns, Na, Twx, Ti, Wi, Gr0, Gr, Bf, Te, Itr, Ww, Ts5, Mtr, Tn, Wm, LawMt. -/
import Derived.BigQuiet
import Derived.Deep.DeepCutAuto
import Derived.Deep.CutRange
import Derived.Deep.Upon
import Derived.Deep.LoopGhost
import Derived.Laws.EntriesVeiled
import Derived.Deep.RegionHeld3
import Derived.Deep.RegionWith
import Derived.BigRegion
import Derived.RegionTactic
import Derived.Handy
import Derived.Test.YtmjhgfkplolelaaGreatU03
import Derived.Test.YtmjhgfkplolelaaGreatU02
/- impl.namedSlots by its contract, at right disks. -/
namespace Go.Proofs.YtmjhgfkplolelaaGreat
open Go.RowKit Kit
theorem step_append_sl (W : World) {ops : Array Oper} {o : Oper} {a : Act} {K : Act → World → Prop} {Q : Exit → Act → World → Prop} {E : Prop} (hgd : o.guard = none) (s x : Operand)
    (ho : o.op = .call { callee := .builtin .append, args := #[s, x], argTypes := #[99, 99] }) (base : Nat) (v : Value) (l : List Sl) (hs : a.eval s = v) (hown : SOwns W base 137 v l) (hbase : base ≤ W.heap.size)
    (g : Nat) (nm : ByteArray) (io : Int) (hx : a.eval x = .slice (some ⟨g, 0, none⟩) 1 1) (hc : AtC W g 137 #[.string nm, .int .i64 io]) (hl : l.length ≤ 100000000000)
    (h : ∀ v' w', SOwns w' base 137 v' (l ++ [(nm, io)]) → W.grownBy w' v.ownBlock → (∀ k, v'.ownBlock = some k → v.ownBlock = some k ∨ W.heap.size ≤ k) → K (a.put o.dst v') w') :
    if Region.wanted o (yielded ops a.tmps) = true then Oper.wp Tryz.prog o a W K Q else E := by
  obtain ⟨i0, hi, hz0, hz1, hz2⟩ := info_parts Tryz.i137
  refine step_append_lies _ hgd s x 99 ho base 137 i0 _ 2 24 Tryz.u99 hi hz0 hz1 hz2 rfl (by decide) v l.length (sc l) hs hown ⟨g, 0, none⟩ 1 1 [.string nm, .int .i64 io] hx rfl ?_ ?_ (by decide) ?_ ?_ hbase W.heap.size rfl ?_
  · intro j u hj
    have := (hc.cell j).trans (show (#[.string nm, .int .i64 io] : Array Value)[j]? = some u by simpa using hj)
    by_cases e : j = 0
    · subst e; simpa [Addr.add] using this
    · simpa [Addr.add, e] using this
  · intro u hu
    simp only [List.mem_cons, List.not_mem_nil, or_false] at hu
    rcases hu with rfl | rfl <;> rfl
  · unfold maxLen; omega
  · omega
  · intro g' cap w' hown' hgrow hat _
    refine h _ w' ?_ hgrow fun k hk => ?_
    · show w'.ownsRow base 137 2 _ (l ++ [(nm, io)]).length (sc (l ++ [(nm, io)]))
      rw [List.length_append, sc_append]
      exact hown'
    · simp only [Value.ownBlock, Option.some.injEq] at hk
      subst hk
      rcases hat with hat | hat
      · exact .inl hat
      · exact .inr (by omega)
theorem nmdS_blk {is : List Ino} {bs : List Blk} (h : RD is bs) (x : Int) : nmdS (blkAt bs x).2.1 = nmd (blkAt bs x) := by
  unfold nmd
  split
  · rfl
  · rename_i e
    have e : (blkAt bs x).1 = false := by simpa using e
    rcases blkAt_cases bs x with q | q
    · rw [q]; rfl
    · rw [h.text _ q e]; rfl
/-- The named slots of blocks. -/
def nmdB (l : List Blk) : List Sl := l.flatMap fun b => nmdS b.2.1
theorem nmdB_named {is : List Ino} {bs : List Blk} (h : RD is bs) (i : Int) : nmdB (blocksOf is bs i 2) = named is bs i := by
  unfold named blocksOf nmdB
  split
  · unfold nmdP
    rw [List.flatMap_map]
    congr 1
    funext x
    exact nmdS_blk h x
  · rfl
theorem blocksOf_len {is : List Ino} {bs : List Blk} (h : RD is bs) (i k : Int) : (blocksOf is bs i k).length ≤ 2 ∧ ∀ b ∈ blocksOf is bs i k, b.2.1.length ≤ 4 ∧ b.2.2.size ≤ 16 := by
  unfold blocksOf
  split
  · refine ⟨?_, fun b hb => ?_⟩
    · rw [List.length_map]
      rcases kindAt_cases (is := is) i with ⟨-, e⟩ | ⟨q, hq, -, e⟩
      · rw [e]; simp
      · rw [e, h.two q hq]; exact Nat.le_refl _
    · obtain ⟨x, -, rfl⟩ := List.mem_map.1 hb
      refine ⟨h.blk4 x, ?_⟩
      rcases blkAt_cases bs x with e | e
      · rw [e]; exact Nat.zero_le _
      · exact h.tx _ e
  · exact ⟨by simp, fun b hb => by cases hb⟩
theorem nmdB_take {l : List Blk} {q : Nat} (h : q < l.length) : nmdB (l.take (q + 1)) = nmdB (l.take q) ++ nmdS l[q].2.1 := by
  rw [List.take_succ_eq_append_getElem h]
  unfold nmdB
  rw [List.flatMap_append, List.flatMap_cons, List.flatMap_nil, List.append_nil]
set_option maxRecDepth 100000 in
set_option maxHeartbeats 3200000 in
theorem namedI_any (i : Int) (dx dy iv bv : Value) (xs ys : List Bool) (is : List Ino) (bs : List Blk) (w : World) (h : DR w dx dy iv bv xs ys is bs) (hR : RD is bs) :
    Calls Tryz.prog 99 #[.agg #[dx, dy, iv, bv], .int .i64 i] w fun e w' => ∃ v, e = .returned v ∧ SOwns w' w.heap.size 137 v (named is bs i) ∧ Below w.heap.size w w' := by
  have CB := hide (blocksOf_any i 2 dx dy iv bv xs ys is bs (w.alloc (.cells #[dx, dy, iv, bv] 47)) (h.alloc _) hR (by decide))
  obtain ⟨HL1, HL2⟩ := blocksOf_len hR i 2
  have HBL := hide HL2
  rw [← nmdB_named hR i]
  obtain ⟨a1, c1, a2, c2, a3, c3, a4, c4, rfl, rfl, rfl, rfl⟩ := h.form
  obtain ⟨BL, hBL⟩ : ∃ l, blocksOf is bs i 2 = l := ⟨_, rfl⟩
  rw [hBL] at CB HBL HL1 ⊢
  obtain ⟨RES, hRES⟩ : ∃ l, nmdB BL = l := ⟨_, rfl⟩
  rw [hRES]
  have HRES := hide hRES
  clear h hR HL2 hBL hRES
  go_enter Tryz.func99, Tryz.ntmps99
  go_wp2_with fail
  refine CB.out.mono ?_
  rintro e w1 ⟨lv, rfl, R1, B1⟩
  have HB1 : Hid (Below w.heap.size w w1) := ((Below.refl _ w).alloc (Nat.le_refl _) _).trans (B1.mono (by simp))
  obtain ⟨la, lc, rfl, -, hcl⟩ := R1
  have HCL := hide hcl
  clear B1 hcl CB
  go_wp2_with fail
  go_loopw [5, 14] (fun sv kv wr => ∃ (s' : Value) (q : Nat), s' = sv ∧ q ≤ BL.length ∧ kv = .int .i64 q ∧ Hid (SOwns wr w1.heap.size 137 s' (nmdB (BL.take q)) ∧ Below w1.heap.size w1 wr ∧ (nmdB (BL.take q)).length ≤ 4 * q)) (fun _ kv _ => BL.length - (intOf kv).toNat)
  case atStart => exact ⟨_, 0, rfl, Nat.zero_le _, rfl, SOwns.nil _ _ _, Below.refl _ _, by simp [nmdB]⟩
  case round =>
    obtain ⟨sv, q, hsv, hq, rfl, HR⟩ := hrel
    subst hsv
    have q0 : (0 : Int) ≤ (q : Int) := by omega
    by_cases hlt : q < BL.length
    rotate_left
    · have q1 : ¬ ((q : Int) < (BL.length : Int)) := by omega
      go_wp2
      go_ret
      refine ⟨_, rfl, ?_, HB1.out.trans (HR.out.2.1.mono HB1.out.size)⟩
      have := HR.out.1
      rw [List.take_of_length_le (by omega), HRES.out] at this
      exact this.base_le HB1.out.size
    have q1 : (q : Int) < (BL.length : Int) := by omega
    have HT := hide (nmdB_take hlt)
    have HB4 := hide (HBL.out _ (List.getElem_mem hlt)).1
    obtain ⟨gb, ob, ⟨t0, t1, t2⟩, rfl, hgb, b0, b1, b2, r0, r1, r2⟩ := HCL.out q hlt
    simp only at b0 b1 b2 r0 r1 r2
    subst r0 r2
    obtain ⟨bd, hbd⟩ : ∃ X, BL[q].1 = X := ⟨_, rfl⟩
    obtain ⟨bss, hbss⟩ : ∃ X, BL[q].2.1 = X := ⟨_, rfl⟩
    obtain ⟨btx, hbtx⟩ : ∃ X, BL[q].2.2 = X := ⟨_, rfl⟩
    rw [hbd] at b0
    rw [hbss] at r1 HT HB4
    rw [hbtx] at b2
    obtain ⟨sa, sc', rfl, -, hcs⟩ := r1
    have HCS := hide hcs
    replace b0 := (HR.out.2.1.cell (p := ⟨gb, ob + q * 3, none⟩) hgb).trans b0
    replace b1 := (HR.out.2.1.cell (p := ⟨gb, ob + q * 3 + 1, none⟩) hgb).trans b1
    replace b2 := (HR.out.2.1.cell (p := ⟨gb, ob + q * 3 + 2, none⟩) hgb).trans b2
    have hgw : ¬ gb = wr.heap.size := by have := HR.out.2.1.size; omega
    have HAL : Hid (Below wr.heap.size wr (wr.alloc (.cells #[.bool bd, .slice sa bss.length sc', .string btx] 101))) := (Below.refl _ wr).alloc (Nat.le_refl _) _
    have HR2 : Hid (SOwns (wr.alloc (.cells #[.bool bd, .slice sa bss.length sc', .string btx] 101)) w1.heap.size 137 sv (nmdB (BL.take q) ++ nmdS (bss.take 0)) ∧ Below w1.heap.size w1 (wr.alloc (.cells #[.bool bd, .slice sa bss.length sc', .string btx] 101)) ∧ (nmdB (BL.take q) ++ nmdS (bss.take 0)).length ≤ 4 * q + 0) := by
      have e : nmdS (bss.take 0) = [] := by simp [nmdS]
      rw [e, List.append_nil]
      exact ⟨HR.out.1.alloc _, HR.out.2.1.alloc HR.out.2.1.size _, HR.out.2.2⟩
    clear hbd hbss hbtx hcs
    obtain ⟨W2, hW2⟩ : ∃ W2, wr.alloc (.cells #[.bool bd, .slice sa bss.length sc', .string btx] 101) = W2 := ⟨_, rfl⟩
    have x1 : W2.cell? ⟨wr.heap.size, 1, none⟩ = some (.slice sa bss.length sc') := by rw [← hW2]; exact (AtC.new wr 101 _).cell 1
    rw [hW2] at HR2
    go_wp2_with fail
    clear b0 b1 b2 HR hW2 x1 HAL
    go_loopw [5, 21] (fun sv kv wr => ∃ (s' : Value) (t : Nat), s' = sv ∧ t ≤ bss.length ∧ kv = .int .i64 t ∧ Hid (SOwns wr w1.heap.size 137 s' (nmdB (BL.take q) ++ nmdS (bss.take t)) ∧ Below w1.heap.size w1 wr ∧ (nmdB (BL.take q) ++ nmdS (bss.take t)).length ≤ 4 * q + t)) (fun _ kv _ => bss.length - (intOf kv).toNat)
    case atStart => exact ⟨_, 0, rfl, Nat.zero_le _, rfl, HR2.out⟩
    case round =>
      obtain ⟨sv', t, hsv, ht, rfl, HS⟩ := hrel
      subst hsv
      clear HR2
      have t0 : (0 : Int) ≤ (t : Int) := by omega
      have hq2 : q < 2 := by omega
      by_cases htl : t < bss.length
      rotate_left
      · have t1 : ¬ ((t : Int) < (bss.length : Int)) := by omega
        go_wp2
        go_roundw
        case rel =>
          refine ⟨_, q + 1, rfl, by omega, by go_num, ?_, HS.out.2.1, ?_⟩
          · have := HS.out.1
            rw [List.take_of_length_le (show bss.length ≤ t by omega), ← HT.out] at this
            exact this
          · have := HS.out.2.2
            rw [List.take_of_length_le (show bss.length ≤ t by omega), ← HT.out] at this
            have := HB4.out
            omega
        case measure => simp [intOf]; omega
      have t1 : (t : Int) < (bss.length : Int) := by omega
      have HTS := hide (nmdS_take htl)
      obtain ⟨gs, os, rfl, hgs, ks0, ks1⟩ := HCS.out t htl
      obtain ⟨⟨sn, si⟩, hsn⟩ : ∃ X, bss[t] = X := ⟨_, rfl⟩
      rw [hsn] at ks0 ks1 HTS
      simp only at ks0 ks1
      replace ks0 := (HS.out.2.1.cell (p := ⟨gs, os + t * 2, none⟩) hgs).trans ks0
      replace ks1 := (HS.out.2.1.cell (p := ⟨gs, os + t * 2 + 1, none⟩) hgs).trans ks1
      have hgsw : ¬ gs = wr.heap.size := by have := HS.out.2.1.size; omega
      clear hsn
      have hb4 := HB4.out
      by_cases hse : sn = ⟨#[]⟩
      · subst hse
        have HS2 : Hid (SOwns (wr.alloc (.cells #[.string ⟨#[]⟩, .int .i64 si] 137)) w1.heap.size 137 sv' (nmdB (BL.take q) ++ nmdS (bss.take (t + 1))) ∧ Below w1.heap.size w1 (wr.alloc (.cells #[.string ⟨#[]⟩, .int .i64 si] 137)) ∧ (nmdB (BL.take q) ++ nmdS (bss.take (t + 1))).length ≤ 4 * q + (t + 1)) := by
          have e := HTS.out
          rw [if_pos rfl, List.append_nil] at e
          rw [e]
          exact ⟨HS.out.1.alloc _, HS.out.2.1.alloc HS.out.2.1.size _, by have := HS.out.2.2; omega⟩
        go_wp2
        go_roundw
        case rel => exact ⟨_, t + 1, rfl, by omega, by go_num, HS2.out⟩
        case measure => simp [intOf]; omega
      have hse2 : (sn.toList == ([] : List UInt8)) = false := beq_empty hse
      have hse3 : (sn.toList != ([] : List UInt8)) = true := by simp [bne, hse2]
      have HAL2 : Hid (Below w1.heap.size w1 ((wr.alloc (.cells #[.string sn, .int .i64 si] 137)).alloc (.cells #[.string sn, .int .i64 si] 137)) ∧ SOwns ((wr.alloc (.cells #[.string sn, .int .i64 si] 137)).alloc (.cells #[.string sn, .int .i64 si] 137)) w1.heap.size 137 sv' (nmdB (BL.take q) ++ nmdS (bss.take t)) ∧ AtC ((wr.alloc (.cells #[.string sn, .int .i64 si] 137)).alloc (.cells #[.string sn, .int .i64 si] 137)) (wr.heap.size + 1) 137 #[.string sn, .int .i64 si]) := by
        have a := AtC.new (wr.alloc (.cells #[.string sn, .int .i64 si] 137)) 137 #[.string sn, .int .i64 si]
        rw [World.size_alloc] at a
        have sz := HS.out.2.1.size
        exact ⟨(HS.out.2.1.alloc sz _).alloc (by simp; omega) _, (HS.out.1.alloc _).alloc _, a⟩
      have HSZ : Hid (w1.heap.size ≤ ((wr.alloc (.cells #[.string sn, .int .i64 si] 137)).alloc (.cells #[.string sn, .int .i64 si] 137)).heap.size) := HAL2.out.1.size
      have HTL : Hid ((nmdB (BL.take q) ++ nmdS (bss.take t)).length ≤ 100000000000) := by have := HS.out.2.2; show _ ≤ _; omega
      go_wp2_with (at_builtin; refine wpList_step fun K' hK' => ?_; refine step_append_sl _ rfl (.tmp 28) (.tmp 30) rfl w1.heap.size sv' _ rfl HAL2.out.2.1 HSZ.out (wr.heap.size + 1) sn si rfl HAL2.out.2.2 HTL.out ?_; intro v12 w12 T12 G12 V12; refine hK' _ _ ?_; have HR12 := hide (And.intro T12 (And.intro G12 V12)); clear T12 G12 V12 hK')
      have HS2 : Hid (SOwns w12 w1.heap.size 137 v12 (nmdB (BL.take q) ++ nmdS (bss.take (t + 1))) ∧ Below w1.heap.size w1 w12 ∧ (nmdB (BL.take q) ++ nmdS (bss.take (t + 1))).length ≤ 4 * q + (t + 1)) := by
        have e := HTS.out
        rw [if_neg hse] at e
        rw [e, ← List.append_assoc]
        refine ⟨HR12.out.1, HAL2.out.1.grown HR12.out.2.1 HSZ.out (fun k hk => (HAL2.out.2.1.lt k hk).1), ?_⟩
        have := HS.out.2.2
        rw [List.length_append]
        simp
        simp at this
        omega
      go_roundw
      case rel => exact ⟨_, t + 1, rfl, by omega, by go_num, HS2.out⟩
      case measure => simp [intOf]; omega
end Go.Proofs.YtmjhgfkplolelaaGreat
/- Of the specification: l14Sorted by its contract: a list of its own, of the same nodes. -/
namespace Go.Proofs.YtmjhgfkplolelaaGreat
open Go.RowKit Kit
/-- Of all but the one at q, up to n: none is less than one ahead of it. -/
def SrtX (ms : List Nd) (n q : Nat) : Prop := ∀ (a b : Nat) (hb : b < ms.length) (hab : a < b), b < n → b ≠ q → bl ms[b].1.toList (ms[a]'(Nat.lt_trans hab hb)).1.toList = false
/-- Just these nodes, the first ones in order. -/
def Prm (ms ns : List Nd) (n q : Nat) : Prop := ms.Perm ns ∧ SrtX ms n q
theorem Prm.start (ns : List Nd) : Prm ns ns 1 1 := ⟨.refl _, fun a b hb hab h1 _ => by omega⟩
theorem Prm.inner {ms ns : List Nd} {n : Nat} (h : Prm ms ns n n) : Prm ms ns (n + 1) n := ⟨h.1, fun a b hb hab h1 h2 => h.2 a b hb hab (by omega) (by omega)⟩
theorem Prm.zero {ms ns : List Nd} {n : Nat} (h : Prm ms ns n 0) : Prm ms ns n n := ⟨h.1, fun a b hb hab h1 _ => h.2 a b hb hab h1 (by omega)⟩
theorem Prm.stop {ms ns : List Nd} {n q : Nat} (h : Prm ms ns n (q + 1)) (hl : q + 1 < ms.length) (hn : q + 1 < n) (hg : bl (ms[q + 1]).1.toList (ms[q]'(by omega)).1.toList = false) : Prm ms ns n n := by
  refine ⟨h.1, fun a b hb hab h1 _ => ?_⟩
  by_cases e : b = q + 1
  · subst e
    by_cases e2 : a = q
    · subst e2; exact hg
    · exact bl_le_trans (h.2 a q (by omega) (by omega) (by omega) (by omega)) hg
  · exact h.2 a b hb hab h1 e
theorem Prm.swap {ms ns : List Nd} {n q : Nat} (h : Prm ms ns n (q + 1)) (hl : q + 1 < ms.length) (hn : q + 1 < n) (hg : bl (ms[q + 1]).1.toList (ms[q]'(by omega)).1.toList = true) : Prm ((ms.set (q + 1) (ms[q]'(by omega))).set q ms[q + 1]) ns n q := by
  refine ⟨(swap_perm q ms hl).trans h.1, fun a b hb hab h1 h2 => ?_⟩
  have hb' : b < ms.length := by simpa using hb
  have hval : ∀ (i : Nat) (hi : i < ms.length), ((ms.set (q + 1) (ms[q]'(by omega))).set q ms[q + 1])[i]'(by simpa using hi) = if i = q then ms[q + 1] else if i = q + 1 then (ms[q]'(by omega)) else ms[i] := by
    intro i hi
    rw [List.getElem_set]
    by_cases e : i = q
    · subst e; simp
    · rw [if_neg (fun x => e x.symm), List.getElem_set, if_neg e]
      by_cases e2 : i = q + 1
      · subst e2; simp
      · rw [if_neg (fun x => e2 x.symm), if_neg e2]
  rw [hval b hb', hval a (by omega), if_neg h2]
  by_cases e : b = q + 1
  · subst e
    rw [if_pos rfl]
    by_cases e2 : a = q
    · subst e2; rw [if_pos rfl]; exact bl_asymm hg
    · rw [if_neg e2, if_neg (by omega)]
      exact h.2 a q (by omega) (by omega) (by omega) (by omega)
  · rw [if_neg e]
    by_cases e2 : a = q
    · subst e2; rw [if_pos rfl]; exact h.2 (a + 1) b hb' (by omega) h1 e
    · rw [if_neg e2]
      by_cases e3 : a = q + 1
      · subst e3; rw [if_pos rfl]; exact h.2 q b hb' (by omega) h1 e
      · rw [if_neg e3]; exact h.2 a b hb' hab h1 e
theorem Tryz.u54 : Tryz.prog.underlying 54 = some (.slice 78) := by kernel_rfl
theorem Tryz.i78 : (Tryz.prog.info? 78).map (fun i => (i.zero, i.size, i.bytes)) = some (some (.agg #[.string ⟨#[]⟩, .bool false, .string ⟨#[]⟩, .string ⟨#[]⟩]), 4, 56) := by kernel_rfl
theorem ndRows_len (ns : List Nd) : (ns.map ndRow).flatten.length = ns.length * 4 := by
  induction ns with
  | nil => rfl
  | cons x r ih => simp only [List.map_cons, List.flatten_cons, List.length_append, ih, List.length_cons]; show 4 + _ = _; omega
theorem ndRows_one (ns : List Nd) : ∀ u ∈ (ns.map ndRow).flatten, u.oneCell' = true := fun u hu => by
  obtain ⟨r, hr, hu⟩ := List.mem_flatten.mp hu
  obtain ⟨x, -, rfl⟩ := List.mem_map.mp hr
  simp only [ndRow, List.mem_cons, List.not_mem_nil, or_false] at hu
  rcases hu with rfl | rfl | rfl | rfl <;> rfl
theorem NdO.of_owns {w : World} {B : Nat} {v : Value} {ns : List Nd} (h : w.ownsRow B 78 4 v ns.length (ns.map ndRow).flatten) : NdO w B v ns := by
  refine ⟨⟨fun t ht => ?_, ?_⟩, fun k hk => (World.ownsRow.lt h k hk).1⟩
  · obtain ⟨x, -, rfl⟩ := List.mem_map.mp ht
    rfl
  · rw [List.length_map]
    refine ⟨h.1, h.2.imp id ?_⟩
    rintro ⟨g, cap, cur, h1, h2, h3⟩
    exact ⟨g, cap, cur, h1, Nat.zero_le _, h3⟩
set_option maxRecDepth 100000 in
set_option maxHeartbeats 6400000 in
theorem sorted_any (B : Nat) (v : Value) (ns : List Nd) (w : World) (h : NdO w B v ns) (hl : ns.length ≤ 5000) :
    Calls Tryz.prog 25 #[v] w fun e w' => ∃ v' ns', e = .returned v' ∧ NdO w' w.heap.size v' ns' ∧ ns'.Perm ns ∧ ns'.Pairwise (fun x y => bl y.1.toList x.1.toList = false) ∧ Below w.heap.size w w' := by
  obtain ⟨a0, c0, rfl⟩ := h.form
  have HRC : Hid (RC (w.alloc (.cells #[] 78)) (.slice a0 ns.length c0) ns.length (ns.map ndRow).flatten) := (h.below ((Below.refl _ w).alloc (Nat.le_refl _) _)).rc
  have HE : Hid ((w.alloc (.cells #[] 78)).ownsRow w.heap.size 78 4 (.slice (some ⟨w.heap.size, 0, none⟩) 0 0) 0 []) := (AtC.new w 78 #[]).empty _ (Nat.le_refl _) 4
  have HLN : Hid (ns.length ≤ 100000000000) := by show _ ≤ _; omega
  clear h
  go_enter Tryz.func25, Tryz.ntmps25
  go_wp2_with (at_builtin; refine wpList_append_copy _ rfl _ _ 54 rfl w.heap.size 78 Tryz.u54 _ 4 56 Tryz.i78 rfl (by decide) (by decide) (.slice (some ⟨w.heap.size, 0, none⟩) 0 0) rfl HE.out (by simp) _ rfl ns.length (ns.map ndRow).flatten HRC.out (ndRows_len ns) (ndRows_one ns) HLN.out ?_; intro v1 w1 R1 R2 R3)
  have HO1 : Hid (NdO w1 w.heap.size v1 ns ∧ Below w.heap.size w w1) := by
    refine ⟨NdO.of_owns R1, ((Below.refl _ w).alloc (Nat.le_refl _) (.cells #[] 78)).grown R2 (by simp) (fun k hk => ?_)⟩
    simp [Value.ownBlock] at hk
    omega
  obtain ⟨a1, c1, rfl⟩ := HO1.out.1.form
  clear R1 R2 R3 HRC HE
  go_loopw [4] (fun i wr => ∃ n : Nat, 1 ≤ n ∧ n ≤ 5001 ∧ i = .int .i64 n ∧ Hid (∃ ms : List Nd, NdO wr w.heap.size (.slice a1 ns.length c1) ms ∧ ms.length = ns.length ∧ Prm ms ns n n ∧ Below w.heap.size w wr)) (fun i _ => 5001 - (intOf i).toNat)
  case atStart => exact ⟨1, Nat.le_refl _, by omega, rfl, ns, HO1.out.1, rfl, Prm.start ns, HO1.out.2⟩
  case round =>
    obtain ⟨n, hn1, hn2, rfl, HR⟩ := hrel
    by_cases hlt : n < ns.length
    rotate_left
    · have n1 : ¬ ((n : Int) < (ns.length : Int)) := by omega
      obtain ⟨ms, hms⟩ := HR.out
      have HQ := hide hms
      clear hms HR HO1
      go_wp2
      go_ret
      exact ⟨.slice a1 ns.length c1, rfl, ms, HQ.out.1, HQ.out.2.2.1.1, List.pairwise_iff_getElem.2 (fun a b ha hb hab => HQ.out.2.2.1.2 a b hb hab (by have := HQ.out.2.1; omega) (by have := HQ.out.2.1; omega)), HQ.out.2.2.2⟩
    have n1 : (n : Int) < (ns.length : Int) := by omega
    have n2 : n < 5000 := by omega
    clear HO1
    go_wp2_with fail
    go_loopw [5] (fun kk wr => ∃ q : Nat, q ≤ n ∧ kk = .int .i64 q ∧ Hid (∃ ms : List Nd, NdO wr w.heap.size (.slice a1 ns.length c1) ms ∧ ms.length = ns.length ∧ Prm ms ns (n + 1) q ∧ Below w.heap.size w wr)) (fun kk _ => (intOf kk).toNat)
    case atStart =>
      obtain ⟨ms, h1, h2, h3, h4⟩ := HR.out
      exact ⟨n, Nat.le_refl _, rfl, ms, h1, h2, h3.inner, h4⟩
    case round =>
      obtain ⟨q, hq, rfl, HS⟩ := hrel
      have HSD : Hid (∀ k, ∃ ms : List Nd, NdO (wr.drewN k) w.heap.size (.slice a1 ns.length c1) ms ∧ ms.length = ns.length ∧ Prm ms ns (n + 1) q ∧ Below w.heap.size w (wr.drewN k)) := fun k => by
        obtain ⟨ms, h1, h2, h3, h4⟩ := HS.out
        exact ⟨ms, h1.below (below_drewN (Below.refl _ _) _), h2, h3, below_drewN h4 _⟩
      clear HR
      cases q with
      | zero =>
        go_upto_region 6 with fail
        go_quiet (fail)
        go_wp2
        go_roundw
        case rel =>
          obtain ⟨ms, h1, h2, h3, h4⟩ := HSD.out _
          exact ⟨n + 1, by omega, by omega, by go_num, ms, h1, h2, h3.zero, h4⟩
        case measure => simp [intOf]; omega
      | succ q =>
        obtain ⟨ms, hms⟩ := HS.out
        have HQ := hide hms
        clear hms HS
        obtain ⟨g, cap, e1, p0, p1, p2, p3, hfz, hg, hgB⟩ := HQ.out.1.at_ q (by rw [HQ.out.2.1]; omega)
        obtain ⟨g', cap', e2, r0, r1, r2, r3, -, -, -⟩ := HQ.out.1.at_ (q + 1) (by rw [HQ.out.2.1]; omega)
        rw [HQ.out.2.1] at e1 e2
        simp only [Value.slice.injEq, true_and] at e1 e2
        obtain ⟨rfl, rfl⟩ := e1
        simp only [Option.some.injEq, Addr.mk.injEq, and_true] at e2
        obtain ⟨rfl, -⟩ := e2
        obtain ⟨⟨xa, xb, xc, xd⟩, hX⟩ : ∃ X, ms[q]'(by rw [HQ.out.2.1]; omega) = X := ⟨_, rfl⟩
        obtain ⟨⟨ya, yb, yc, yd⟩, hY⟩ : ∃ Y, ms[q + 1]'(by rw [HQ.out.2.1]; omega) = Y := ⟨_, rfl⟩
        rw [hX] at p0 p1 p2 p3
        rw [hY] at r0 r1 r2 r3
        have HXY := hide (And.intro hX hY)
        have HGT := hide (bl_gt xa.toList ya.toList)
        clear hX hY
        simp only at p0 p1 p2 p3 r0 r1 r2 r3
        have hq0 : (0 : Int) < (q : Int) + 1 := by omega
        have hqw : IntKind.i64.wrap (q : Int) = (q : Int) := wrap_small _ (by omega) (by omega)
        have q0 : (0 : Int) ≤ (q : Int) := by omega
        have q1 : (q : Int) < (ns.length : Int) := by omega
        have q2 : (q : Int) + 1 < (ns.length : Int) := by omega
        have q3 : q < 5000 := by omega
        clear HSD
        go_upto_region 6 with fail
        go_cut [32] from 17 to 51 (fun c wx => c = .bool (bl ya.toList xa.toList) ∧ NdO wx w.heap.size (.slice (some ⟨g, 0, none⟩) ns.length c1) ms ∧ Below w.heap.size w wx)
        case first =>
          go_quiet (fail)
          go_wp2_with fail
          go_meet
          exact ⟨by rw [← HGT.out, Bool.not_or], HQ.out.1.below (below_drewN (Below.refl _ _) _), below_drewN HQ.out.2.2.2 _⟩
        case rest =>
          obtain ⟨rfl, hN, hBl⟩ := hcut
          obtain ⟨r, hr⟩ : ∃ r, bl ya.toList xa.toList = r := ⟨_, rfl⟩
          rw [hr]
          have HR2 := hide hr
          clear hr HGT
          have HN := hide (And.intro hN hBl)
          clear p0 p1 p2 p3 r0 r1 r2 r3 hfz hg hN hBl
          cases r with
          | false =>
            go_wp2
            go_roundw
            case rel => exact ⟨n + 1, by omega, by omega, by go_num, ms, HN.out.1, HQ.out.2.1, HQ.out.2.2.1.stop (by rw [HQ.out.2.1]; omega) (by omega) (by rw [HXY.out.1, HXY.out.2]; exact HR2.out), HN.out.2⟩
            case measure => simp [intOf]; omega
          | true =>
            obtain ⟨g2, cap2, e1, p0, p1, p2, p3, hfz, hg, -⟩ := HN.out.1.at_ q (by rw [HQ.out.2.1]; omega)
            obtain ⟨g3, cap3, e2, r0, r1, r2, r3, -, -, -⟩ := HN.out.1.at_ (q + 1) (by rw [HQ.out.2.1]; omega)
            rw [HQ.out.2.1] at e1 e2
            simp only [Value.slice.injEq, Option.some.injEq, Addr.mk.injEq, true_and, and_true] at e1 e2
            obtain ⟨rfl, rfl⟩ := e1
            obtain ⟨rfl, -⟩ := e2
            rw [HXY.out.1] at p0 p1 p2 p3
            rw [HXY.out.2] at r0 r1 r2 r3
            simp only at p0 p1 p2 p3 r0 r1 r2 r3
            have f0 := hfz (q * 4)
            have f1 := hfz (q * 4 + 1)
            have f2 := hfz (q * 4 + 2)
            have f3 := hfz (q * 4 + 3)
            have k0 := hfz ((q + 1) * 4)
            have k1 := hfz ((q + 1) * 4 + 1)
            have k2 := hfz ((q + 1) * 4 + 2)
            have k3 := hfz ((q + 1) * 4 + 3)
            have HREL : Hid (∃ q' : Nat, q' ≤ n ∧ Value.int .i64 (q : Int) = .int .i64 q' ∧ Hid (∃ ms : List Nd, NdO (((((((((wc.setCell ⟨g, (q + 1) * 4, none⟩ (.string xa)).setCell ⟨g, (q + 1) * 4 + 1, none⟩ (.bool xb)).setCell ⟨g, (q + 1) * 4 + 2, none⟩ (.string xc)).setCell ⟨g, (q + 1) * 4 + 3, none⟩ (.string xd)).setCell ⟨g, q * 4, none⟩ (.string ya)).setCell ⟨g, q * 4 + 1, none⟩ (.bool yb)).setCell ⟨g, q * 4 + 2, none⟩ (.string yc)).setCell ⟨g, q * 4 + 3, none⟩ (.string yd)).alloc (.cells #[.string ya, .bool yb, .string yc, .string yd] 78)) w.heap.size (.slice (some ⟨g, 0, none⟩) ns.length c1) ms ∧ ms.length = ns.length ∧ Prm ms ns (n + 1) q' ∧ Below w.heap.size w (((((((((wc.setCell ⟨g, (q + 1) * 4, none⟩ (.string xa)).setCell ⟨g, (q + 1) * 4 + 1, none⟩ (.bool xb)).setCell ⟨g, (q + 1) * 4 + 2, none⟩ (.string xc)).setCell ⟨g, (q + 1) * 4 + 3, none⟩ (.string xd)).setCell ⟨g, q * 4, none⟩ (.string ya)).setCell ⟨g, q * 4 + 1, none⟩ (.bool yb)).setCell ⟨g, q * 4 + 2, none⟩ (.string yc)).setCell ⟨g, q * 4 + 3, none⟩ (.string yd)).alloc (.cells #[.string ya, .bool yb, .string yc, .string yd] 78)))) := by
              have hml := HQ.out.2.1
              have N0 := HN.out.1
              rw [← hml] at N0
              have N1 := N0.put (q + 1) (by omega) (xa, xb, xc, xd)
              have N1' : NdO ((((wc.setCell ⟨g, (q + 1) * 4, none⟩ (.string xa)).setCell ⟨g, (q + 1) * 4 + 1, none⟩ (.bool xb)).setCell ⟨g, (q + 1) * 4 + 2, none⟩ (.string xc)).setCell ⟨g, (q + 1) * 4 + 3, none⟩ (.string xd)) w.heap.size (.slice (some ⟨g, 0, none⟩) (ms.set (q + 1) (xa, xb, xc, xd)).length c1) (ms.set (q + 1) (xa, xb, xc, xd)) := by rw [List.length_set]; exact N1
              have N2 := N1'.put q (by rw [List.length_set]; omega) (ya, yb, yc, yd)
              rw [List.length_set, hml] at N2
              refine ⟨q, by omega, rfl, _, N2.below ((Below.refl _ _).alloc (Nat.le_refl _) _), by rw [List.length_set, List.length_set]; exact hml, ?_, ?_⟩
              · have := HQ.out.2.2.1.swap (by rw [hml]; omega) (by omega) (by rw [HXY.out.1, HXY.out.2]; exact HR2.out)
                rw [HXY.out.1, HXY.out.2] at this
                exact this
              · have b0 := (((((((HN.out.2.setCell (p := ⟨g, (q + 1) * 4, none⟩) hgB (.string xa)).setCell (p := ⟨g, (q + 1) * 4 + 1, none⟩) hgB (.bool xb)).setCell (p := ⟨g, (q + 1) * 4 + 2, none⟩) hgB (.string xc)).setCell (p := ⟨g, (q + 1) * 4 + 3, none⟩) hgB (.string xd)).setCell (p := ⟨g, q * 4, none⟩) hgB (.string ya)).setCell (p := ⟨g, q * 4 + 1, none⟩) hgB (.bool yb)).setCell (p := ⟨g, q * 4 + 2, none⟩) hgB (.string yc)).setCell (p := ⟨g, q * 4 + 3, none⟩) hgB (.string yd)
                exact b0.alloc b0.size _
            have hne : ¬ g = wc.heap.size := by omega
            have hne2 : ¬ wc.heap.size = g := by omega
            have z0 : ((q + 1) * 4 = q * 4) = False := by simp; omega
            clear HQ HN hfz HXY HR2
            go_wp2
            go_roundw
            case rel => first | exact HREL.out | ((repeat apply Exists.intro); exact ⟨HREL.out, rfl⟩)
            case measure => simp [intOf]
end Go.Proofs.YtmjhgfkplolelaaGreat
/- Appends to lists of nodes. No Go function is spoken of. -/
namespace Go.Proofs.YtmjhgfkplolelaaGreat
open Go.RowKit Kit Go.Deep
theorem map_append1 (ns : List Nd) (x : Nd) : ns.map ndRow ++ [ndRow x] = (ns ++ [x]).map ndRow := by simp
/-- One node more. -/
theorem step_append_node (W : World) {ops : Array Oper} {o : Oper} {a : Act} {K : Act → World → Prop} {Q : Exit → Act → World → Prop} {E : Prop} (hgd : o.guard = none) (s x : Operand)
    (ho : o.op = .call { callee := .builtin .append, args := #[s, x], argTypes := #[54, 54] }) (B : Nat) (v : Value) (ns : List Nd) (hs : a.eval s = v) (hown : NdO W B v ns) (hB : B ≤ W.heap.size)
    (g : Nat) (y : Nd) (hx : a.eval x = .slice (some ⟨g, 0, none⟩) 1 1) (hc : AtC W g 78 (ndRow y).toArray) (hl : ns.length ≤ 100000000000)
    (h : ∀ v' w', NdO w' B v' (ns ++ [y]) → W.grownBy w' v.ownBlock → (∀ k, v'.ownBlock = some k → v.ownBlock = some k ∨ W.heap.size ≤ k) → K (a.put o.dst v') w') :
    if Region.wanted o (yielded ops a.tmps) = true then Oper.wp Tryz.prog o a W K Q else E := by
  refine step_append_n W hgd s x 54 ho 78 Tryz.u54 _ 4 56 Tryz.i78 rfl (by decide) (by decide) v (ns.map ndRow) hs hown.1 g (ndRow y) rfl hx ?_ ?_ (by rw [List.length_map]; exact hl) ?_
  · intro j u hj
    rw [hc.cell j]
    simpa using hj
  · intro u hu
    simp only [ndRow, List.mem_cons, List.not_mem_nil, or_false] at hu
    rcases hu with rfl | rfl | rfl | rfl <;> rfl
  · intro v' w' h1 h2 h3
    refine h v' w' ⟨by rw [← map_append1]; exact h1, fun k hk => ?_⟩ h2 h3
    rcases h3 k hk with e | e
    · exact hown.2 k e
    · omega
/-- A whole list more. -/
theorem step_append_nodes (W : World) {ops : Array Oper} {o : Oper} {a : Act} {K : Act → World → Prop} {Q : Exit → Act → World → Prop} {E : Prop} (hgd : o.guard = none) (s x : Operand)
    (ho : o.op = .call { callee := .builtin .append, args := #[s, x], argTypes := #[54, 54] }) (B : Nat) (v : Value) (ns : List Nd) (hs : a.eval s = v) (hown : NdO W B v ns) (hB : B ≤ W.heap.size)
    (B' : Nat) (u : Value) (ms : List Nd) (hx : a.eval x = u) (hu : NdO W B' u ms) (hl : ns.length ≤ 100000000000) (hm : ms.length ≤ 100000000)
    (h : ∀ v' w', NdO w' B v' (ns ++ ms) → W.grownBy w' v.ownBlock → (∀ k, v'.ownBlock = some k → v.ownBlock = some k ∨ W.heap.size ≤ k) → K (a.put o.dst v') w') :
    if Region.wanted o (yielded ops a.tmps) = true then Oper.wp Tryz.prog o a W K Q else E := by
  obtain ⟨i0, hi, hz0, hz1, hz2⟩ := info_parts Tryz.i78
  obtain ⟨a1, c1, hle⟩ : ∃ a1 c1, v = .slice a1 ns.length c1 ∧ ns.length ≤ c1 := by
    obtain ⟨a1, c1, e, h1, -⟩ := hown.1.form
    rw [List.length_map] at e h1
    exact ⟨a1, c1, e, h1⟩
  obtain ⟨rfl, hle⟩ := hle
  cases ms with
  | nil =>
    rw [if_pos (by simp [Region.wanted, hgd])]
    have hsrc : Src Tryz.prog i0.size 54 u 0 [] W := by
      obtain ⟨a2, c2, rfl⟩ := hu.form
      cases a2 with
      | none => exact Src.ofNil W Tryz.u54 c2
      | some a2 => exact Src.ofSlice W Tryz.u54 a2 0 c2 [] (by simp) (fun j u hj => by simp at hj) (fun u h => by cases h)
    have hr := run_append_nothing W 54 54 o.type 78 i0 Tryz.u54 hi a1 ns.length c1 hle u hsrc
    unfold Oper.wp execOp
    simp only [ho, resolve, invoke, builtin, Sem.run_bind, Sem.run_pure, Result.andThen_ok, List.map_toArray, List.map_cons, List.map_nil, hs, hx, hr]
    exact h _ W (by rw [List.append_nil]; exact hown) (grownBy_below (Below.refl _ _) _) (fun k hk => .inl hk)
  | cons y r =>
    obtain ⟨g, cap, e, hcell, -, -, -⟩ := hu.1.at 0 (by simp)
    rw [List.length_map] at e
    have hone := ndRows_one (y :: r)
    have hlen := ndRows_len (y :: r)
    refine step_append_lies _ hgd s x 54 ho B 78 i0 _ 4 56 Tryz.u54 hi hz0 hz1 hz2 rfl (by decide) _ ns.length (ns.map ndRow).flatten hs ?_ ⟨g, 0, none⟩ (y :: r).length cap ((y :: r).map ndRow).flatten (by rw [hx, e]) (by rw [hlen]) ?_ hone (by simp) ?_ ?_ hB W.heap.size rfl ?_
    · have := hown.1.2
      rw [List.length_map] at this
      refine ⟨this.1, this.2.imp id ?_⟩
      rintro ⟨g', cap', cur, q1, q2, q3⟩
      exact ⟨g', cap', cur, q1, hown.2 g' (by rw [q1]; rfl), q3⟩
    · intro j u' hj
      have hrc := hu.rc
      obtain ⟨a2, c2, e2, hc2⟩ := hrc
      obtain ⟨g2, o2, e3, e4⟩ := hc2 j u' hj
      rw [e] at e2
      simp only [Value.slice.injEq] at e2
      rw [← e2.1] at e3
      simp only [Option.some.injEq, Addr.mk.injEq, and_true] at e3
      obtain ⟨rfl, rfl⟩ := e3
      rw [Nat.zero_add] at e4
      by_cases e : j = 0
      · subst e; simpa [Addr.add] using e4
      · simpa [Addr.add, e] using e4
    · unfold maxLen; simp only [List.length_cons] at hm ⊢; omega
    · simp only [List.length_cons] at hm ⊢; omega
    · intro g' cap' w' q1 q2 q3 q4
      refine h _ w' ?_ q2 (fun k hk => ?_)
      · refine NdO.of_owns ?_
        rw [List.length_append, List.map_append, List.flatten_append]
        exact q1
      · simp only [Value.ownBlock, Option.some.injEq] at hk
        subst hk
        rcases q3 with e | e
        · exact .inl e
        · exact .inr (by omega)
end Go.Proofs.YtmjhgfkplolelaaGreat
/- What the specification's walk tells, as a plain function. No Go function is spoken of. -/
namespace Go.Proofs.YtmjhgfkplolelaaGreat
open Go.RowKit Kit
/-- A path and a name below it. -/
def joinP (p nm : ByteArray) : ByteArray := p ++ ⟨#[47]⟩ ++ nm
theorem joinP_size (p nm : ByteArray) : (joinP p nm).size = p.size + 1 + nm.size := by
  simp [joinP, ByteArray.size_append]
  rfl
/-- A name is among those. -/
def hasN (seen : List ByteArray) (nm : ByteArray) : Bool := seen.any fun t => decide (t = nm)
theorem hasN_iff {seen : List ByteArray} {nm : ByteArray} : hasN seen nm = true ↔ nm ∈ seen := by
  simp [hasN]
/-- The first slot of each name (those in seen are there already). -/
def firsts : List Sl → List ByteArray → List Sl
  | [], _ => []
  | s :: r, seen => if hasN seen s.1 = true then firsts r (seen ++ [s.1]) else s :: firsts r (seen ++ [s.1])
theorem firsts_append (a b : List Sl) : ∀ seen, firsts (a ++ b) seen = firsts a seen ++ firsts b (seen ++ a.map (·.1)) := by
  induction a with
  | nil => intro seen; simp [firsts]
  | cons s r ih =>
    intro seen
    rw [List.cons_append, firsts, firsts]
    have e : (seen ++ [s.1]) ++ r.map (·.1) = seen ++ (s :: r).map (·.1) := by simp
    split
    · rw [ih, e]
    · rw [ih, e]; rfl
theorem firsts_take {ns : List Sl} {k : Nat} (h : k < ns.length) : firsts (ns.take (k + 1)) [] = firsts (ns.take k) [] ++ if hasN ((ns.take k).map (·.1)) ns[k].1 = true then [] else [ns[k]] := by
  rw [List.take_succ_eq_append_getElem h, firsts_append, List.nil_append]
  congr 1
theorem firsts_sub : ∀ (l : List Sl) (seen : List ByteArray), List.Sublist (firsts l seen) l
  | [], _ => .slnil
  | s :: r, seen => by
    rw [firsts]
    split
    · exact (firsts_sub r _).cons _
    · exact (firsts_sub r _).cons_cons _
/-- What is told of a slot, and below it. -/
def tellS (is : List Ino) (bs : List Blk) (rec : Int → ByteArray → List Nd) (path : ByteArray) (s : Sl) : List Nd :=
  if kindAt is s.2 = 0 then [] else if kindAt is s.2 = 2 then (joinP path s.1, true, ⟨#[]⟩, ⟨#[]⟩) :: rec s.2 (joinP path s.1) else [(joinP path s.1, false, (textsAt is bs s.2).1, (textsAt is bs s.2).2)]
/-- The specification's walk, n deep. -/
def walkS (is : List Ino) (bs : List Blk) : Nat → Int → ByteArray → List Nd
  | 0, _, _ => []
  | n + 1, i, path => (firsts (named is bs i) []).flatMap (tellS is bs (walkS is bs n) path)
/-- How long a list of nodes is at most, n deep. -/
def deepN : Nat → Nat
  | 0 => 0
  | n + 1 => 8 * (1 + deepN n)
theorem deepN_le {n : Nat} (h : n ≤ 4) : deepN n ≤ 4680 := by
  have : n = 0 ∨ n = 1 ∨ n = 2 ∨ n = 3 ∨ n = 4 := by omega
  rcases this with rfl | rfl | rfl | rfl | rfl <;> decide
theorem tellS_len {is : List Ino} {bs : List Blk} {n : Nat} {rec : Int → ByteArray → List Nd} (h : ∀ i p, (rec i p).length ≤ deepN n) (path : ByteArray) (s : Sl) : (tellS is bs rec path s).length ≤ 1 + deepN n := by
  unfold tellS
  split
  · simp
  · split
    · have := h s.2 (joinP path s.1); simp; omega
    · simp
theorem walkS_len {is : List Ino} {bs : List Blk} (h8 : ∀ i, (named is bs i).length ≤ 8) : ∀ (n : Nat) (i : Int) (p : ByteArray), (walkS is bs n i p).length ≤ deepN n
  | 0, _, _ => by simp [walkS]
  | n + 1, i, p => by
    rw [walkS, deepN]
    have h1 := flatMap_len (m := 1 + deepN n) (firsts (named is bs i) []) (fun s _ => tellS_len (is := is) (bs := bs) (walkS_len h8 n) p s)
    have h2 := (firsts_sub (named is bs i) []).length_le
    have h3 := h8 i
    have : (firsts (named is bs i) []).length * (1 + deepN n) ≤ 8 * (1 + deepN n) := Nat.mul_le_mul_right _ (by omega)
    omega
theorem RD.txt {is : List Ino} {bs : List Blk} (h : RD is bs) (i : Int) : (textsAt is bs i).1.size ≤ 16 ∧ (textsAt is bs i).2.size ≤ 16 := by
  have hx : ∀ p, (blkAt bs p).2.2.size ≤ 16 := fun p => by
    rcases blkAt_cases bs p with e | e
    · rw [e]; exact Nat.zero_le _
    · exact h.tx _ e
  unfold textsAt
  split
  · exact ⟨hx _, hx _⟩
  · exact ⟨Nat.zero_le _, Nat.zero_le _⟩
end Go.Proofs.YtmjhgfkplolelaaGreat
/- impl.TextOf and nodeAt by their contracts, at right disks. -/
namespace Go.Proofs.YtmjhgfkplolelaaGreat
open Go.RowKit Kit
/-- The texts of the first q of two blocks. -/
def txJ (x y : ByteArray) : Nat → Array Value
  | 0 => #[.string ⟨#[]⟩, .string ⟨#[]⟩]
  | 1 => #[.string x, .string ⟨#[]⟩]
  | _ => #[.string x, .string y]
/-- TextOf under way: all below W's size but the texts' block stays. -/
structure TxW (w w1 wr : World) (L : Array Value) : Prop where
  b : Below w.heap.size w wr
  k : ∀ g, g < w1.heap.size → g ≠ w.heap.size + 1 → wr.heap[g]? = w1.heap[g]?
  z : w1.heap.size ≤ wr.heap.size
  l : AtC wr (w.heap.size + 1) 203 L
theorem TxW.below {w w1 wr wr' : World} {L : Array Value} (h : TxW w w1 wr L) (hb : Below wr.heap.size wr wr') : TxW w w1 wr' L :=
  ⟨h.b.trans (hb.mono h.b.size), fun g hg hn => (hb.block g (by have := h.z; omega)).trans (h.k g hg hn), Nat.le_trans h.z hb.size, h.l.over hb⟩
theorem TxW.set {w w1 wr : World} {L : Array Value} (h : TxW w w1 wr L) (j : Nat) (x : Value) : TxW w w1 (wr.setCell ⟨w.heap.size + 1, j, none⟩ x) (L.setIfInBounds j x) :=
  ⟨h.b.setCell (p := ⟨w.heap.size + 1, j, none⟩) (by show w.heap.size ≤ w.heap.size + 1; omega) x, fun g hg hn => (heap_setCell_other wr ⟨w.heap.size + 1, j, none⟩ g x hn).trans (h.k g hg hn), by have := h.z; simp; exact this, h.l.set j x⟩
theorem TxW.cell {w w1 wr : World} {L : Array Value} (h : TxW w w1 wr L) {g o : Nat} (hg : g < w1.heap.size) (hn : g ≠ w.heap.size + 1) : wr.cell? ⟨g, o, none⟩ = w1.cell? ⟨g, o, none⟩ := by
  unfold World.cell?
  rw [h.k g hg hn]
theorem txJ_1 (x y : ByteArray) : (txJ x y 0).setIfInBounds 0 (.string x) = txJ x y 1 := by simp [txJ]
theorem txJ_2 (x y : ByteArray) : (txJ x y 1).setIfInBounds 1 (.string y) = txJ x y 2 := by simp [txJ]
theorem textsAt_blocks {is : List Ino} {bs : List Blk} (h : RD is bs) (i : Int) : (blocksOf is bs i 1 = [] ∧ textsAt is bs i = (⟨#[]⟩, ⟨#[]⟩)) ∨ ∃ x y, blocksOf is bs i 1 = [x, y] ∧ textsAt is bs i = (x.2.2, y.2.2) := by
  unfold blocksOf textsAt
  by_cases e : kindAt is i = 1
  · rw [if_pos e, if_pos e]
    refine .inr ?_
    rcases kindAt_cases (is := is) i with ⟨q, -⟩ | ⟨q, hq, -, e2⟩
    · rw [q] at e; cases e
    · have hl := h.two q hq
      rw [e2]
      match q.2.2, hl with
      | [a, b], _ => exact ⟨_, _, rfl, rfl⟩
  · rw [if_neg e, if_neg e]
    exact .inl ⟨rfl, rfl⟩
theorem heap_old {w : World} {g : Nat} {o : Obj} (h : w.heap[g]? = some o) : g < w.heap.size := (Array.getElem?_eq_some_iff.1 h).1
set_option maxRecDepth 100000 in
set_option maxHeartbeats 3200000 in
theorem textI_any (i : Int) (dx dy iv bv : Value) (xs ys : List Bool) (is : List Ino) (bs : List Blk) (w : World) (h : DR w dx dy iv bv xs ys is bs) (hR : RD is bs) :
    Calls Tryz.prog 97 #[.agg #[dx, dy, iv, bv], .int .i64 i] w fun e w' => e = .returned (.tuple #[.string (textsAt is bs i).1, .string (textsAt is bs i).2]) ∧ Below w.heap.size w w' := by
  have CB := hide (blocksOf_any i 1 dx dy iv bv xs ys is bs ((w.alloc (.cells #[dx, dy, iv, bv] 47)).alloc (.cells #[.string ⟨#[]⟩, .string ⟨#[]⟩] 203)) ((h.alloc _).alloc _) hR (by decide))
  have HL := hide (blocksOf_len hR i 1).2
  obtain ⟨a1, c1, a2, c2, a3, c3, a4, c4, rfl, rfl, rfl, rfl⟩ := h.form
  have HT := textsAt_blocks hR i
  have HA : Hid (∀ w1, Below ((w.alloc (.cells #[.slice a1 xs.length c1, .slice a2 ys.length c2, .slice a3 is.length c3, .slice a4 bs.length c4] 47)).alloc (.cells #[.string ⟨#[]⟩, .string ⟨#[]⟩] 203)).heap.size ((w.alloc (.cells #[.slice a1 xs.length c1, .slice a2 ys.length c2, .slice a3 is.length c3, .slice a4 bs.length c4] 47)).alloc (.cells #[.string ⟨#[]⟩, .string ⟨#[]⟩] 203)) w1 → TxW w w1 w1 #[.string ⟨#[]⟩, .string ⟨#[]⟩]) := fun w1 b => by
    have a := AtC.new (w.alloc (.cells #[.slice a1 xs.length c1, .slice a2 ys.length c2, .slice a3 is.length c3, .slice a4 bs.length c4] 47)) 203 #[.string ⟨#[]⟩, .string ⟨#[]⟩]
    rw [World.size_alloc] at a
    refine ⟨(((Below.refl _ w).alloc (Nat.le_refl _) _).alloc (by simp) _).trans (b.mono (by simp; omega)), fun _ _ _ => rfl, Nat.le_refl _, ?_⟩
    exact a.below b (by simp)
  clear h hR
  rcases HT with ⟨e1, e2⟩ | ⟨x, y, e1, e2⟩
  · rw [e1] at CB
    rw [e2]
    clear e1 e2 HL
    go_enter Tryz.func97, Tryz.ntmps97
    go_wp2_with fail
    refine CB.out.mono ?_
    rintro e w1 ⟨lv, rfl, R1, B1⟩
    have HX := hide (HA.out _ B1)
    obtain ⟨la, lc, rfl, -⟩ := R1
    clear B1 HA CB
    have p0 : w1.cell? ⟨w.heap.size + 1, 0, none⟩ = some (.string ⟨#[]⟩) := HX.out.l.cell 0
    have p1 : w1.cell? ⟨w.heap.size + 1, 1, none⟩ = some (.string ⟨#[]⟩) := HX.out.l.cell 1
    go_wp2_with fail
    go_rounds 1
    go_quiet (fail)
    go_wp2
    go_ret2
    exact ⟨rfl, below_drewN HX.out.b _⟩
  · rw [e1] at CB HL
    rw [e2]
    obtain ⟨xd, xss, x0⟩ := x
    obtain ⟨yd, yss, x1⟩ := y
    have HX0 : Hid (x0.size ≤ 16) := hide (HL.out (xd, xss, x0) (by simp)).2
    have HX1 : Hid (x1.size ≤ 16) := hide (HL.out (yd, yss, x1) (by simp)).2
    clear e1 e2 HL
    go_enter Tryz.func97, Tryz.ntmps97
    go_wp2_with fail
    refine CB.out.mono ?_
    rintro e w1 ⟨lv, rfl, R1, B1⟩
    have HX := hide (HA.out _ B1)
    obtain ⟨la, lc, rfl, -, hcl⟩ := R1
    obtain ⟨gb, ob, ⟨u0, u1, u2⟩, rfl, hgb, b00, b01, b02, r00, r01, r02⟩ := hcl 0 (by simp)
    obtain ⟨gb', ob', ⟨v0, v1, v2⟩, e3, -, b10, b11, b12, r10, r11, r12⟩ := hcl 1 (by simp)
    simp only [Option.some.injEq, Addr.mk.injEq, and_true] at e3
    obtain ⟨rfl, rfl⟩ := e3
    obtain ⟨s0, k0, q01, -⟩ := r01
    obtain ⟨s1, k1, q11, -⟩ := r11
    simp only [Nat.zero_mul, Nat.add_zero, Nat.one_mul] at b00 b01 b02 b10 b11 b12 r00 r02 r10 r12 q01 q11
    subst r00 r02 r10 r12 q01 q11
    obtain ⟨n0, hn0⟩ : ∃ n, ([(xd, xss, x0), (yd, yss, x1)] : List Blk)[0].2.1.length = n := ⟨_, rfl⟩
    obtain ⟨n1, hn1⟩ : ∃ n, ([(xd, xss, x0), (yd, yss, x1)] : List Blk)[1].2.1.length = n := ⟨_, rfl⟩
    rw [hn0] at b01
    rw [hn1] at b11
    simp only [List.getElem_cons_zero, List.getElem_cons_succ] at b00 b02 b10 b12
    have hne : gb ≠ w.heap.size + 1 := fun e => by
      subst e
      have := HX.out.l.cell ob
      rw [b00] at this
      match ob, this with
      | 0, h => cases h
      | 1, h => cases h
      | (_ + 2), h => simp at h
    clear hn0 hn1 B1 hcl HA CB
    go_wp2_with fail
    go_loopw [13] (fun iv wr => ∃ q : Nat, q ≤ 2 ∧ iv = .int .i64 q ∧ Hid (TxW w w1 wr (txJ x0 x1 q))) (fun iv _ => 2 - (intOf iv).toNat)
    case atStart => exact ⟨0, by omega, rfl, HX.out⟩
    case round =>
      obtain ⟨q, hq, rfl, HS⟩ := hrel
      clear HX
      have hq3 : q = 0 ∨ q = 1 ∨ q = 2 := by omega
      rcases hq3 with rfl | rfl | rfl
      · skip
        have c0 := (HS.out.cell (o := ob) hgb hne).trans b00
        have c1' := (HS.out.cell (o := ob + 1) hgb hne).trans b01
        have c2' := (HS.out.cell (o := ob + 2) hgb hne).trans b02
        have hgw : ¬ gb = wr.heap.size := by have := HS.out.z; omega
        have lw : w.heap.size + 1 < wr.heap.size := HS.out.l.lt
        go_wp2_with fail
        refine (clone1_any x0 _ (by have := HX0.out; omega)).mono ?_
        rintro e w5 ⟨rfl, B5⟩
        have B6 := (((Below.refl _ wr).alloc (Nat.le_refl _) (.cells #[.bool xd, .slice s0 n0 k0, .string x0] 101))).trans (B5.mono (by simp))
        have HS6 := HS.out.below B6
        have p0 : w5.cell? ⟨w.heap.size + 1, 0, none⟩ = some (.string ⟨#[]⟩) := HS6.l.cell 0
        have f0 := HS6.l.frozen 0
        have l5 := HS6.l.lt
        have HS7 := hide (HS6.set 0 (.string x0))
        rw [txJ_1] at HS7
        clear c0 c1' c2' B5 B6 HS6 HS
        go_wp2
        go_roundw
        case rel => exact ⟨1, by omega, rfl, HS7.out⟩
        case measure => simp [intOf]
      · skip
        have c0 := (HS.out.cell (o := ob + 3) hgb hne).trans b10
        have c1' := (HS.out.cell (o := ob + 3 + 1) hgb hne).trans b11
        have c2' := (HS.out.cell (o := ob + 3 + 2) hgb hne).trans b12
        have hgw : ¬ gb = wr.heap.size := by have := HS.out.z; omega
        have lw : w.heap.size + 1 < wr.heap.size := HS.out.l.lt
        go_wp2_with fail
        refine (clone1_any x1 _ (by have := HX1.out; omega)).mono ?_
        rintro e w5 ⟨rfl, B5⟩
        have B6 := (((Below.refl _ wr).alloc (Nat.le_refl _) (.cells #[.bool yd, .slice s1 n1 k1, .string x1] 101))).trans (B5.mono (by simp))
        have HS6 := HS.out.below B6
        have p0 : w5.cell? ⟨w.heap.size + 1, 1, none⟩ = some (.string ⟨#[]⟩) := HS6.l.cell 1
        have f0 := HS6.l.frozen 1
        have l5 := HS6.l.lt
        have HS7 := hide (HS6.set 1 (.string x1))
        rw [txJ_2] at HS7
        clear c0 c1' c2' B5 B6 HS6 HS
        go_wp2
        go_roundw
        case rel => exact ⟨2, by omega, rfl, HS7.out⟩
        case measure => simp [intOf]
      · have p0 : wr.cell? ⟨w.heap.size + 1, 0, none⟩ = some (.string x0) := HS.out.l.cell 0
        have p1 : wr.cell? ⟨w.heap.size + 1, 1, none⟩ = some (.string x1) := HS.out.l.cell 1
        go_wp2
        go_quiet (fail)
        go_wp2
        go_ret2
        exact ⟨rfl, below_drewN HS.out.b _⟩
set_option maxRecDepth 100000 in
set_option maxHeartbeats 1600000 in
theorem nodeAt_any (j : Nat) (path : ByteArray) (dx dy iv bv : Value) (xs ys : List Bool) (is : List Ino) (bs : List Blk) (w : World) (h : DR w dx dy iv bv xs ys is bs) (hR : RD is bs) (_hj : j < is.length) :
    Calls Tryz.prog 64 #[.agg #[dx, dy, iv, bv], .int .i64 ((j : Int) + 1), .string path] w fun e w' => e = .returned (.agg #[.string path, .bool (kindAt is ((j : Int) + 1) == 2), .string (textsAt is bs ((j : Int) + 1)).1, .string (textsAt is bs ((j : Int) + 1)).2]) ∧ Below w.heap.size w w' := by
  obtain ⟨a1, c1, a2, c2, a3, c3, a4, c4, rfl, rfl, rfl, rfl⟩ := h.form
  have CT := hide (fun W hd => textI_any ((j : Int) + 1) (.slice a1 xs.length c1) (.slice a2 ys.length c2) (.slice a3 is.length c3) (.slice a4 bs.length c4) xs ys is bs W hd hR)
  have CK := hide (fun W hd => kindI_any ((j : Int) + 1) (.slice a1 xs.length c1) (.slice a2 ys.length c2) (.slice a3 is.length c3) (.slice a4 bs.length c4) xs ys is bs W hd hR)
  obtain ⟨⟨tx1, tx2⟩, hTX⟩ : ∃ X, textsAt is bs ((j : Int) + 1) = X := ⟨_, rfl⟩
  rw [hTX] at CT ⊢
  obtain ⟨kd, hkd⟩ : ∃ k, kindAt is ((j : Int) + 1) = k := ⟨_, rfl⟩
  rw [hkd] at CK ⊢
  have HH := hide h
  clear hTX h hR hkd
  go_enter Tryz.func64, Tryz.ntmps64
  go_wp2_with fail
  refine (CT.out _ ((HH.out.alloc _).alloc _)).mono ?_
  rintro e w1 ⟨rfl, B1⟩
  have bb : Below w.heap.size w w1 := ((((Below.refl _ w).alloc (Nat.le_refl _) (.cells #[.slice a1 xs.length c1, .slice a2 ys.length c2, .slice a3 is.length c3, .slice a4 bs.length c4] 47)).alloc (by simp) (.cells #[.string ⟨#[]⟩, .bool false, .string ⟨#[]⟩, .string ⟨#[]⟩] 78))).trans (B1.mono (by simp; omega))
  have A0 := ((AtC.new w 47 #[.slice a1 xs.length c1, .slice a2 ys.length c2, .slice a3 is.length c3, .slice a4 bs.length c4]).alloc (.cells #[.string ⟨#[]⟩, .bool false, .string ⟨#[]⟩, .string ⟨#[]⟩] 78)).over B1
  have A1 := (AtC.new (w.alloc (.cells #[.slice a1 xs.length c1, .slice a2 ys.length c2, .slice a3 is.length c3, .slice a4 bs.length c4] 47)) 78 #[.string ⟨#[]⟩, .bool false, .string ⟨#[]⟩, .string ⟨#[]⟩]).over B1
  rw [World.size_alloc] at A1
  have z0 : w1.cell? ⟨w.heap.size, 0, none⟩ = some (.slice a1 xs.length c1) := A0.cell 0
  have z1 : w1.cell? ⟨w.heap.size, 1, none⟩ = some (.slice a2 ys.length c2) := A0.cell 1
  have z2 : w1.cell? ⟨w.heap.size, 2, none⟩ = some (.slice a3 is.length c3) := A0.cell 2
  have z3 : w1.cell? ⟨w.heap.size, 3, none⟩ = some (.slice a4 bs.length c4) := A0.cell 3
  have HD1 := hide (HH.out.below bb (Nat.le_refl _))
  have HB := hide bb
  have HA1 := hide A1
  clear bb A0 A1 B1 CT
  go_wp2_with fail
  refine (CK.out _ HD1.out).mono ?_
  rintro e w2 ⟨rfl, B2⟩
  have A2 := HA1.out.over B2
  have HB2 := hide (HB.out.trans (B2.mono HB.out.size))
  have k0 : w2.cell? ⟨w.heap.size + 1, 0, none⟩ = some (.string ⟨#[]⟩) := A2.cell 0
  have k1 : w2.cell? ⟨w.heap.size + 1, 1, none⟩ = some (.bool false) := A2.cell 1
  have k2 : w2.cell? ⟨w.heap.size + 1, 2, none⟩ = some (.string ⟨#[]⟩) := A2.cell 2
  have k3 : w2.cell? ⟨w.heap.size + 1, 3, none⟩ = some (.string ⟨#[]⟩) := A2.cell 3
  have f0 := A2.frozen 0
  have f1 := A2.frozen 1
  have f2 := A2.frozen 2
  have f3 := A2.frozen 3
  have l1 := A2.lt
  clear A2 B2 z0 z1 z2 z3 CK
  go_wp2
  refine bodyPost_ret (v := .agg #[.string path, .bool (kd == 2), .string tx1, .string tx2]) (by simp [results, go_sem, k0, k1, k2, k3]) rfl ⟨rfl, ?_⟩
  exact (((HB2.out.setCell (by simp) _).setCell (by simp) _).setCell (by simp) _).setCell (by simp) _
end Go.Proofs.YtmjhgfkplolelaaGreat
/- (*impl.branch).with by its contract: names linked by pointers. -/
namespace Go.Proofs.YtmjhgfkplolelaaGreat
open Go.RowKit Kit
/-- A branch: its block, its slot. -/
abbrev Br := Nat × Sl
/-- The pointer to the first. -/
def ptrB : List Br → Value
  | [] => .pointer none
  | b :: _ => .pointer (some ⟨b.1, 0, none⟩)
theorem ptrB_form (l : List Br) : ∃ a, ptrB l = .pointer a := by cases l <;> exact ⟨_, rfl⟩
/-- Branches lie in the world, each leading to the next, with nothing below them. -/
def Chn (w : World) : List Br → Prop
  | [] => True
  | b :: r => AtC w b.1 117 #[.string b.2.1, .int .i64 b.2.2, ptrB r, .pointer none] ∧ Chn w r
theorem Chn.heap {w w' : World} : ∀ {l : List Br}, Chn w l → (∀ b ∈ l, w'.heap[b.1]? = w.heap[b.1]?) → Chn w' l
  | [], _, _ => trivial
  | b :: r, h, hh => ⟨(hh b (by simp)).trans h.1, Chn.heap h.2 fun x hx => hh x (by simp [hx])⟩
theorem Chn.lt {w : World} : ∀ {l : List Br}, Chn w l → ∀ b ∈ l, b.1 < w.heap.size
  | [], _, b, hb => by cases hb
  | x :: r, h, b, hb => (List.mem_cons.1 hb).elim (fun e => by rw [e]; exact h.1.lt) (Chn.lt h.2 b)
theorem Chn.below {w w' : World} {l : List Br} (h : Chn w l) (hb : Below w.heap.size w w') : Chn w' l := h.heap fun b hm => hb.block _ (h.lt b hm)
/-- One slot more in its place; of one name the first counts. -/
def ins : List Sl → Sl → List Sl
  | [], s => [s]
  | t :: r, s => if bl s.1.toList t.1.toList = true then s :: t :: r else if bl t.1.toList s.1.toList = true then t :: ins r s else t :: r
/-- The blocks of branches. -/
def InB (l : List Br) (k : Nat) : Prop := ∃ b ∈ l, b.1 = k
/-- What 'with' leaves: the branches behind it, in these blocks or new ones. -/
structure Wth (w w' : World) (l l' : List Br) (s : Sl) : Prop where
  c : Chn w' l'
  n : (l'.map (·.1)).Nodup
  v : l'.map (·.2) = ins (l.map (·.2)) s
  i : ∀ b ∈ l', InB l b.1 ∨ w.heap.size ≤ b.1
  g : Chg (InB l) w w'
theorem Wth.drewN {w w' : World} {l l' : List Br} {s : Sl} (h : Wth w w' l l' s) (k : Nat) : Wth w (w'.drewN k) l l' s :=
  ⟨h.c.below (below_drewN (Below.refl _ _) _), h.n, h.v, h.i, h.g.trans (Chg.of_below (below_drewN (Below.refl _ _) _))⟩
set_option maxRecDepth 100000 in
set_option maxHeartbeats 3200000 in
theorem with_any (nm : ByteArray) (io : Int) : ∀ (l : List Br) (w : World), Chn w l → (l.map (·.1)).Nodup →
    Calls Tryz.prog 100 #[ptrB l, .agg #[.string nm, .int .i64 io]] w fun e w' => ∃ l', e = .returned (ptrB l') ∧ Wth w w' l l' (nm, io) := by
  intro l
  induction l with
  | nil =>
    intro w hc hn
    have HB : Hid (Wth w ((w.alloc (.cells #[.string nm, .int .i64 io] 137)).alloc (.cells #[.string nm, .int .i64 io, .pointer none, .pointer none] 117)) [] [(w.heap.size + 1, (nm, io))] (nm, io)) := by
      have a := AtC.new (w.alloc (.cells #[.string nm, .int .i64 io] 137)) 117 #[.string nm, .int .i64 io, .pointer none, .pointer none]
      rw [World.size_alloc] at a
      refine ⟨⟨a, trivial⟩, by simp, rfl, fun b hb => ?_, Chg.of_below (((Below.refl _ w).alloc (Nat.le_refl _) _).alloc (by simp) _)⟩
      simp at hb
      subst hb
      exact .inr (by simp)
    show Calls Tryz.prog 100 #[.pointer none, .agg #[.string nm, .int .i64 io]] w _
    go_enter Tryz.func100, Tryz.ntmps100
    go_upto_region 1 with fail
    go_quiet (fail)
    go_wp2
    go_ret
    exact ⟨[(w.heap.size + 1, (nm, io))], rfl, HB.out.drewN _⟩
  | cons b r ih =>
    intro w hc hn
    obtain ⟨bk, ⟨tn, ti⟩⟩ := b
    have hA : AtC w bk 117 #[.string tn, .int .i64 ti, ptrB r, .pointer none] := hc.1
    have HC := hide hc
    have HN := hide hn
    have IH := hide ih
    obtain ⟨rp, hrp⟩ := ptrB_form r
    rw [hrp] at hA
    have HA := hide hA
    have HRP := hide hrp
    have hbk := hA.lt
    have hbw : ¬ bk = w.heap.size := by omega
    have p0 : w.cell? ⟨bk, 0, none⟩ = some (.string tn) := hA.cell 0
    have p1 : w.cell? ⟨bk, 1, none⟩ = some (.int .i64 ti) := hA.cell 1
    have p2 : w.cell? ⟨bk, 2, none⟩ = some (.pointer rp) := hA.cell 2
    have p3 : w.cell? ⟨bk, 3, none⟩ = some (.pointer none) := hA.cell 3
    have HINS : Hid (ins (((bk, (tn, ti)) :: r).map (·.2)) (nm, io) = if bl nm.toList tn.toList = true then (nm, io) :: (tn, ti) :: r.map (·.2) else if bl tn.toList nm.toList = true then (tn, ti) :: ins (r.map (·.2)) (nm, io) else (tn, ti) :: r.map (·.2)) := rfl
    clear hA hc hn ih hrp
    show Calls Tryz.prog 100 #[.pointer (some ⟨bk, 0, none⟩), .agg #[.string nm, .int .i64 io]] w _
    cases hl : Op.bytesLess nm.toList tn.toList with
    | true =>
      have HB : Hid (Wth w ((w.alloc (.cells #[.string nm, .int .i64 io] 137)).alloc (.cells #[.string nm, .int .i64 io, .pointer (some ⟨bk, 0, none⟩), .pointer none] 117)) ((bk, (tn, ti)) :: r) ((w.heap.size + 1, (nm, io)) :: (bk, (tn, ti)) :: r) (nm, io)) := by
        have a := AtC.new (w.alloc (.cells #[.string nm, .int .i64 io] 137)) 117 #[.string nm, .int .i64 io, .pointer (some ⟨bk, 0, none⟩), .pointer none]
        rw [World.size_alloc] at a
        have bb := (((Below.refl _ w).alloc (Nat.le_refl _) (.cells #[.string nm, .int .i64 io] 137)).alloc (by simp) (.cells #[.string nm, .int .i64 io, .pointer (some ⟨bk, 0, none⟩), .pointer none] 117))
        refine ⟨⟨a, HC.out.below bb⟩, ?_, ?_, fun b hb => ?_, Chg.of_below bb⟩
        · rw [List.map_cons, List.nodup_cons]
          refine ⟨fun e => ?_, HN.out⟩
          obtain ⟨x, hx, e⟩ := List.mem_map.1 e
          have := HC.out.lt x hx
          simp at e
          omega
        · rw [HINS.out, if_pos hl]; rfl
        · rcases List.mem_cons.1 hb with rfl | hb
          · exact .inr (by simp)
          · exact .inl ⟨b, hb, rfl⟩
      go_enter Tryz.func100, Tryz.ntmps100
      go_upto_region 1 with fail
      go_quiet (fail)
      go_wp2
      go_ret
      exact ⟨(w.heap.size + 1, (nm, io)) :: (bk, (tn, ti)) :: r, rfl, HB.out.drewN _⟩
    | false =>
      have HL := hide hl
      by_cases he : nm = tn
      · subst he
        have heq : (nm.toList == nm.toList) = true := by simp
        have HB : Hid (Wth w (w.alloc (.cells #[.string nm, .int .i64 io] 137)) ((bk, (nm, ti)) :: r) ((bk, (nm, ti)) :: r) (nm, io)) := by
          have bb := (Below.refl _ w).alloc (Nat.le_refl _) (.cells #[.string nm, .int .i64 io] 137)
          refine ⟨HC.out.below bb, HN.out, ?_, fun b hb => .inl ⟨b, hb, rfl⟩, Chg.of_below bb⟩
          rw [HINS.out, if_neg (by rw [show bl nm.toList nm.toList = false from hl]; decide), if_neg (by rw [show bl nm.toList nm.toList = false from hl]; decide)]
          rfl
        go_enter Tryz.func100, Tryz.ntmps100
        go_upto_region 1 with fail
        go_quiet (fail)
        go_upto_region 3 with fail
        go_quiet (fail)
        go_wp2
        go_ret
        exact ⟨(bk, (nm, ti)) :: r, rfl, (HB.out.drewN _).drewN _⟩
      · have heq : (nm.toList == tn.toList) = false := beq_false he
        have hgt : bl tn.toList nm.toList = true := by
          cases e : bl tn.toList nm.toList with
          | true => rfl
          | false =>
            have := bl_total (a := nm.toList) (b := tn.toList) hl e
            rw [this] at heq
            simp at heq
        have HGT := hide hgt
        clear hgt
        have IH2 : Hid (∀ W, Below w.heap.size w W → Calls Tryz.prog 100 #[.pointer rp, .agg #[.string nm, .int .i64 io]] W fun e w' => ∃ l', e = .returned (ptrB l') ∧ Wth W w' r l' (nm, io)) := fun W b => by
          have := IH.out W (HC.out.2.below b) (List.nodup_cons.1 HN.out).2
          rw [HRP.out] at this
          exact this
        go_enter Tryz.func100, Tryz.ntmps100
        go_upto_region 1 with fail
        go_quiet (fail)
        go_upto_region 3 with fail
        go_quiet (fail)
        go_upto_region 4 with fail
        have HBW : Hid (∀ k, Below w.heap.size w ((w.alloc (.cells #[.string nm, .int .i64 io] 137)).drewN k)) := fun k => below_drewN ((Below.refl _ w).alloc (Nat.le_refl _) _) _
        have HW5 : Hid (∀ W w5 l5, Below w.heap.size w W → Wth W w5 r l5 (nm, io) → AtC w5 bk 117 #[.string tn, .int .i64 ti, .pointer rp, .pointer none] ∧ Wth w (w5.setCell ⟨bk, 2, none⟩ (ptrB l5)) ((bk, (tn, ti)) :: r) ((bk, (tn, ti)) :: l5) (nm, io)) := fun W w5 l5 bW H5 => by
          have hnot : ¬ InB r bk := fun ⟨x, hx, e⟩ => (List.nodup_cons.1 HN.out).1 (List.mem_map.2 ⟨x, hx, e⟩)
          have A5 : AtC w5 bk 117 #[.string tn, .int .i64 ti, .pointer rp, .pointer none] := (H5.g.block bk (by have := bW.size; omega) hnot).trans (HA.out.over bW)
          have hne : ∀ x ∈ l5, x.1 ≠ bk := fun x hx e => by
            rcases H5.i x hx with q | q
            · rw [e] at q; exact hnot q
            · have := bW.size; omega
          refine ⟨A5, ⟨A5.set 2 (ptrB l5), H5.c.heap fun x hx => heap_setCell_other w5 ⟨bk, 2, none⟩ x.1 _ (hne x hx)⟩, ?_, ?_, fun x hx => ?_, ?_⟩
          · rw [List.map_cons, List.nodup_cons]
            refine ⟨fun e => ?_, H5.n⟩
            obtain ⟨x, hx, e⟩ := List.mem_map.1 e
            exact hne x hx e
          · rw [HINS.out, if_neg (by rw [show bl nm.toList tn.toList = false from HL.out]; decide), if_pos HGT.out, List.map_cons, H5.v]
          · rcases List.mem_cons.1 hx with rfl | hx
            · exact .inl ⟨_, List.mem_cons_self, rfl⟩
            · rcases H5.i x hx with ⟨y, hy, e⟩ | q
              · exact .inl ⟨y, List.mem_cons_of_mem _ hy, e⟩
              · exact .inr (Nat.le_trans bW.size q)
          · have g1 : Chg (InB ((bk, (tn, ti)) :: r)) W w5 := H5.g.mono fun k ⟨x, hx, e⟩ => ⟨x, List.mem_cons_of_mem _ hx, e⟩
            exact ((Chg.of_below bW).trans g1).setCell ⟨_, List.mem_cons_self, rfl⟩ _
        go_region_with (go_at_call 100; refine (IH2.out _ (HBW.out _)).mono ?_; rintro e w5 ⟨l5, rfl, H5⟩; obtain ⟨A5, HF5⟩ := HW5.out _ _ _ (HBW.out _) H5; obtain ⟨q5, hq5⟩ := ptrB_form l5; have k2 : w5.cell? ⟨bk, 2, none⟩ = some (.pointer rp) := A5.cell 2; have f2 := A5.frozen 2; have HQ5 := hide (And.intro hq5 HF5); rw [hq5]; clear A5 HF5 H5 hq5)
        all_goals (go_wp2; go_ret; exact ⟨(bk, (tn, ti)) :: l5, rfl, by have := HQ5.out.2; rw [HQ5.out.1] at this; exact this⟩)
end Go.Proofs.YtmjhgfkplolelaaGreat
/- The closure of impl.branchesFrom by its contract: what is below a branch, so deep. -/
namespace Go.Proofs.YtmjhgfkplolelaaGreat
open Go.RowKit Kit
/-- The names of a directory in order, the first of each. -/
def kids (is : List Ino) (bs : List Blk) (i : Int) : List Sl := (named is bs i).foldl ins []
/-- Branches lie in the world, with these pointers below them. -/
def Row4 (w : World) (l : List Br) (f : Nat → Value) : Prop := ∀ (j : Nat) (hj : j < l.length), AtC w l[j].1 117 #[.string l[j].2.1, .int .i64 l[j].2.2, ptrB (l.drop (j + 1)), f j]
theorem Row4.of_chn {w : World} : ∀ {l : List Br}, Chn w l → Row4 w l (fun _ => .pointer none)
  | [], _, j, hj => by simp at hj
  | b :: r, h, 0, _ => h.1
  | b :: r, h, j + 1, hj => Row4.of_chn h.2 j (by simpa using hj)
theorem Row4.heap {w w' : World} {l : List Br} {f : Nat → Value} (h : Row4 w l f) (hh : ∀ b ∈ l, w'.heap[b.1]? = w.heap[b.1]?) : Row4 w' l f := fun j hj => (hh _ (List.getElem_mem hj)).trans (h j hj)
/-- What is below a branch that leads to an inode, n deep, in blocks from L on. -/
def Grn (is : List Ino) (bs : List Blk) : Nat → World → Nat → Int → Value → Prop
  | 0, _, _, _, p => p = .pointer none
  | n + 1, w, L, io, p => ∃ (l : List Br) (f : Nat → Value), p = ptrB l ∧ l.map (·.2) = kids is bs io ∧ (∀ b ∈ l, L ≤ b.1) ∧ Row4 w l f ∧ ∀ (j : Nat) (hj : j < l.length), Grn is bs n w L l[j].2.2 (f j)
theorem Grn.heap {is : List Ino} {bs : List Blk} {w w' : World} {L : Nat} : ∀ {n : Nat} {io : Int} {p : Value}, Grn is bs n w L io p → (∀ k, L ≤ k → k < w.heap.size → w'.heap[k]? = w.heap[k]?) → Grn is bs n w' L io p
  | 0, _, _, h, _ => h
  | _ + 1, _, _, ⟨l, f, h1, h2, h3, h4, h5⟩, hh => ⟨l, f, h1, h2, h3, h4.heap (fun b hb => by
      obtain ⟨j, hj, rfl⟩ := List.getElem_of_mem hb
      exact hh _ (h3 _ hb) (h4 j hj).lt), fun j hj => (h5 j hj).heap hh⟩
theorem Grn.mono {is : List Ino} {bs : List Blk} {w : World} {L L' : Nat} (hL : L' ≤ L) : ∀ {n : Nat} {io : Int} {p : Value}, Grn is bs n w L io p → Grn is bs n w L' io p
  | 0, _, _, h => h
  | _ + 1, _, _, ⟨l, f, h1, h2, h3, h4, h5⟩ => ⟨l, f, h1, h2, fun b hb => Nat.le_trans hL (h3 b hb), h4, fun j hj => (h5 j hj).mono hL⟩
theorem Grn.ptr {is : List Ino} {bs : List Blk} {w : World} {L : Nat} : ∀ {n : Nat} {io : Int} {p : Value}, Grn is bs n w L io p → ∃ a, p = .pointer a
  | 0, _, _, h => ⟨_, h⟩
  | _ + 1, _, _, ⟨l, _, h1, _⟩ => by obtain ⟨a, e⟩ := ptrB_form l; exact ⟨a, h1.trans e⟩
/-- What the closures have in sight: the disk and themselves. -/
structure Ctx (w0 w : World) (dk gk : Nat) (D : Array Value) (T : TypeId) (F : Array Value) : Prop where
  b : Below w0.heap.size w0 w
  d : AtC w dk 47 D
  g : AtC w gk T F
  ld : w0.heap.size ≤ dk
  lg : w0.heap.size ≤ gk
theorem Ctx.chg {w0 w w' : World} {dk gk : Nat} {D : Array Value} {T : TypeId} {F : Array Value} {S : Nat → Prop} (h : Ctx w0 w dk gk D T F) (hc : Chg S w w') (hs : ∀ k, S k → w0.heap.size ≤ k) (hd : ¬ S dk) (hg : ¬ S gk) : Ctx w0 w' dk gk D T F :=
  ⟨h.b.trans (hc.below h.b.size hs), (hc.block dk h.d.lt hd).trans h.d, (hc.block gk h.g.lt hg).trans h.g, h.ld, h.lg⟩
theorem foldl_take {ns : List Sl} {q : Nat} (h : q < ns.length) : (ns.take (q + 1)).foldl ins [] = ins ((ns.take q).foldl ins []) ns[q] := by
  rw [List.take_succ_eq_append_getElem h, List.foldl_append]
  rfl
/-- Building the names: the chain so far, in blocks from B on; all else of old stays but the branch's own block. -/
structure Bld (w wr : World) (bk B : Nat) (nm : ByteArray) (io : Int) (nx : Value) (l : List Br) (v : List Sl) : Prop where
  c : Chn wr l
  n : (l.map (·.1)).Nodup
  v : l.map (·.2) = v
  i : ∀ b ∈ l, B ≤ b.1
  a : AtC wr bk 117 #[.string nm, .int .i64 io, nx, ptrB l]
  g : Chg (fun k => k = bk) w wr
theorem Bld.below {w wr wr' : World} {bk B : Nat} {nm : ByteArray} {io : Int} {nx : Value} {l : List Br} {v : List Sl} (h : Bld w wr bk B nm io nx l v) (hb : Below wr.heap.size wr wr') : Bld w wr' bk B nm io nx l v :=
  ⟨h.c.below hb, h.n, h.v, h.i, h.a.over hb, h.g.trans (Chg.of_below hb)⟩
theorem Bld.step {w wr w5 : World} {bk B : Nat} {nm : ByteArray} {io : Int} {nx : Value} {l l' : List Br} {v : List Sl} {s : Sl} (h : Bld w wr bk B nm io nx l v) (hB : w.heap.size ≤ B) (hbk : bk < w.heap.size) (hBs : B ≤ wr.heap.size) (h5 : Wth wr w5 l l' s) : AtC w5 bk 117 #[.string nm, .int .i64 io, nx, ptrB l] ∧ Bld w (w5.setCell ⟨bk, 3, none⟩ (ptrB l')) bk B nm io nx l' (ins v s) := by
  have hnot : ¬ InB l bk := fun ⟨x, hx, e⟩ => by have := h.i x hx; omega
  have A5 : AtC w5 bk 117 #[.string nm, .int .i64 io, nx, ptrB l] := (h5.g.block bk h.a.lt hnot).trans h.a
  have hi : ∀ b ∈ l', B ≤ b.1 := fun b hb => (h5.i b hb).elim (fun ⟨x, hx, e⟩ => by rw [← e]; exact h.i x hx) (fun e => by omega)
  refine ⟨A5, h5.c.heap fun x hx => heap_setCell_other w5 ⟨bk, 3, none⟩ x.1 _ (by have := hi x hx; show x.1 ≠ bk; omega), h5.n, by rw [h5.v, h.v], hi, A5.set 3 (ptrB l'), ?_⟩
  have g1 : Chg (fun k => k = bk) w w5 := ⟨h5.g.os.trans h.g.os, h5.g.tape.trans h.g.tape, h5.g.output.trans h.g.output, Nat.le_trans h.g.size h5.g.size, fun k hk hn => (h5.g.block k (by have := h.g.size; omega) (fun ⟨x, hx, e⟩ => by have := h.i x hx; omega)).trans (h.g.block k hk hn)⟩
  exact g1.setCell rfl _
end Go.Proofs.YtmjhgfkplolelaaGreat
/- The closure of impl.branchesFrom by its contract. -/
namespace Go.Proofs.YtmjhgfkplolelaaGreat
open Go.RowKit Kit
/-- Growing branches one by one: the first q of them have what is below them. -/
structure Lp (is : List Ino) (bs : List Blk) (n : Nat) (w W2 wr : World) (bk q : Nat) (nm : ByteArray) (io : Int) (na : Option Addr) (l : List Br) (f : Nat → Value) : Prop where
  r : Row4 wr l f
  a : AtC wr bk 117 #[.string nm, .int .i64 io, .pointer na, ptrB l]
  g : Chg (fun k => k = bk) w wr
  z : W2.heap.size ≤ wr.heap.size
  d : ∀ (j : Nat) (hj : j < l.length), j < q → Grn is bs n wr W2.heap.size l[j].2.2 (f j)
  u : ∀ j, q ≤ j → f j = .pointer none
theorem Lp.step {is : List Ino} {bs : List Blk} {n : Nat} {w W2 wr w' : World} {bk q : Nat} {nm : ByteArray} {io : Int} {na : Option Addr} {l : List Br} {f : Nat → Value} {v : Value} (h : Lp is bs n w W2 wr bk q nm io na l f) (hq : q < l.length) (hn : (l.map (·.1)).Nodup) (hw : ∀ b ∈ l, w.heap.size ≤ b.1 ∧ b.1 < W2.heap.size) (hbk : bk < w.heap.size)
    (hA : AtC w' l[q].1 117 #[.string l[q].2.1, .int .i64 l[q].2.2, ptrB (l.drop (q + 1)), v]) (hG : Grn is bs n w' wr.heap.size l[q].2.2 v) (hC : Chg (fun k => k = l[q].1) wr w') : Lp is bs n w W2 w' bk (q + 1) nm io na l (fun j => if j = q then v else f j) := by
  have hwq := hw _ (List.getElem_mem hq)
  refine ⟨fun j hj => ?_, (hC.block bk h.a.lt (by show ¬ bk = l[q].1; omega)).trans h.a, ?_, Nat.le_trans h.z hC.size, fun j hj hjq => ?_, fun j hj => ?_⟩
  · by_cases e : j = q
    · subst e
      rw [if_pos rfl]
      exact hA
    · rw [if_neg e]
      refine (hC.block _ (h.r j hj).lt (fun e2 => e ?_)).trans (h.r j hj)
      have h1 : (l.map (·.1))[j]'(by simpa using hj) = (l.map (·.1))[q]'(by simpa using hq) := by simpa using e2
      exact (List.getElem_inj hn).1 h1
  · exact ⟨hC.os.trans h.g.os, hC.tape.trans h.g.tape, hC.output.trans h.g.output, Nat.le_trans h.g.size hC.size, fun k hk hne => (hC.block k (by have := h.g.size; omega) (by show ¬ k = l[q].1; omega)).trans (h.g.block k hk hne)⟩
  · by_cases e : j = q
    · subst e
      rw [if_pos rfl]
      exact hG.mono h.z
    · rw [if_neg e]
      exact (h.d j hj (by omega)).heap fun k hk hk2 => hC.block k hk2 (by show ¬ k = l[q].1; omega)
  · rw [if_neg (by omega)]
    exact h.u j (by omega)
theorem ptrB_drop {l : List Br} {q : Nat} (h : q < l.length) : ptrB (l.drop q) = .pointer (some ⟨l[q].1, 0, none⟩) := by
  rw [List.drop_eq_getElem_cons h]
  rfl
theorem ptrB_end {l : List Br} {q : Nat} (h : l.length ≤ q) : ptrB (l.drop q) = .pointer none := by
  rw [List.drop_eq_nil_of_le h]
  rfl
set_option maxRecDepth 100000 in
set_option maxHeartbeats 6400000 in
theorem grow_any (dx dy iv bv : Value) (xs ys : List Bool) (is : List Ino) (bs : List Blk) (hR : RD is bs) (w0 : World) (h0 : DR w0 dx dy iv bv xs ys is bs) (dk gq : Nat) : ∀ (n D : Nat), D + n = 4 → ∀ (bk : Nat) (nm : ByteArray) (io : Int) (na : Option Addr) (w : World), Ctx w0 w dk gq #[dx, dy, iv, bv] 153 #[.func (.func 98) #[] #[.pointer (some ⟨dk, 0, none⟩), .pointer (some ⟨gq, 0, none⟩)]] → AtC w bk 117 #[.string nm, .int .i64 io, .pointer na, .pointer none] → w0.heap.size ≤ bk → bk ≠ dk → bk ≠ gq →
    Calls Tryz.prog 98 #[.pointer (some ⟨bk, 0, none⟩), .int .i64 (D : Int), .pointer (some ⟨dk, 0, none⟩), .pointer (some ⟨gq, 0, none⟩)] w fun e w' => e = .returned (.tuple #[]) ∧ ∃ v, AtC w' bk 117 #[.string nm, .int .i64 io, .pointer na, v] ∧ Grn is bs n w' w.heap.size io v ∧ Chg (fun k => k = bk) w w' := by
  intro n
  induction n with
  | zero =>
    intro D hn bk nm io na w hC hA hb0 hbd hbg
    have hD : D = 4 := by omega
    subst hD
    have HA := hide hA
    clear hA hC
    go_enter Tryz.func98, Tryz.ntmps98
    go_wp2
    refine bodyPost_ret (v := .tuple #[]) (by simp [results, go_sem]) rfl ⟨rfl, _, HA.out, rfl, Chg.refl _ _⟩
  | succ n ih =>
    intro D hn bk nm io na w hC hA hb0 hbd hbg
    have IH := hide ih
    have HC := hide hC
    have HA := hide hA
    have HR := hide hR
    have hD4 : ((D : Int) == 4) = false := by simp; omega
    have hbk := hA.lt
    have p1 : w.cell? ⟨bk, 1, none⟩ = some (.int .i64 io) := hA.cell 1
    have z0 : w.cell? ⟨dk, 0, none⟩ = some dx := hC.d.cell 0
    have z1 : w.cell? ⟨dk, 1, none⟩ = some dy := hC.d.cell 1
    have z2 : w.cell? ⟨dk, 2, none⟩ = some iv := hC.d.cell 2
    have z3 : w.cell? ⟨dk, 3, none⟩ = some bv := hC.d.cell 3
    have CN := hide (fun W hd => namedI_any io dx dy iv bv xs ys is bs W hd hR)
    have HN8 := hide (hR.named8 io)
    have HKD : Hid (kids is bs io = (named is bs io).foldl ins []) := rfl
    obtain ⟨ns, hns⟩ : ∃ l, named is bs io = l := ⟨_, rfl⟩
    rw [hns] at CN HN8 HKD
    obtain ⟨a1, c1, a2, c2, a3, c3, a4, c4, rfl, rfl, rfl, rfl⟩ := h0.form
    have H0 := hide h0
    clear ih hC hA hR hns h0
    go_enter Tryz.func98, Tryz.ntmps98
    go_upto_region 1 with fail
    go_cut [16, 17, 18] from 11 to 18 (fun sv lv kv wx => ∃ (sa : Option Addr) (sc : Nat), sv = .slice sa ns.length sc ∧ lv = .int .i64 (ns.length : Int) ∧ kv = .int .i64 0 ∧ SOwns wx w.heap.size 137 (.slice sa ns.length sc) ns ∧ Below w.heap.size w wx)
    case first =>
      have HDR := hide (H0.out.below HC.out.b (Nat.le_refl _))
      go_region_with (go_at_call 99; refine (CN.out _ HDR.out.drew).mono ?_; rintro e w5 ⟨v5, rfl, S5, B5⟩; obtain ⟨sa, sc, rfl, -⟩ := S5.form)
      all_goals (try go_wp2_with fail)
      all_goals (go_meet; exact ⟨sa, sc, rfl, rfl, rfl, S5, of_drew B5⟩)
    case rest =>
      obtain ⟨sa, sc, rfl, rfl, rfl, S1, B1⟩ := hcut
      obtain ⟨w1, hw1⟩ : ∃ w1, w1 = wc := ⟨_, rfl⟩
      subst hw1
      have HS1 := hide S1
      have HB1 := hide B1
      have HBL0 : Hid (Bld w w1 bk w1.heap.size nm io (.pointer na) [] []) := ⟨trivial, by simp, rfl, (fun b hb => by cases hb), HA.out.over B1, Chg.of_below B1⟩
      clear S1 B1 z0 z1 z2 z3 p1 CN
      go_wp2_with fail
      go_loopw [18] (fun kv wr => ∃ q : Nat, q ≤ ns.length ∧ kv = .int .i64 q ∧ Hid (SOwns wr w.heap.size 137 (.slice sa ns.length sc) ns ∧ w1.heap.size ≤ wr.heap.size ∧ ∃ l : List Br, Bld w wr bk w1.heap.size nm io (.pointer na) l ((ns.take q).foldl ins []))) (fun kv _ => ns.length - (intOf kv).toNat)
      case atStart => exact ⟨0, Nat.zero_le _, rfl, HS1.out, Nat.le_refl _, [], HBL0.out⟩
      case round =>
        obtain ⟨q, hq, rfl, HQ⟩ := hrel
        clear HBL0
        have q0 : (0 : Int) ≤ (q : Int) := by omega
        have q8 : q ≤ 8 := Nat.le_trans hq HN8.out
        by_cases hlt : q < ns.length
        · have q1 : (q : Int) < (ns.length : Int) := by omega
          obtain ⟨hS, hz, l, hl⟩ := HQ.out
          obtain ⟨gs, cs, e1, e2, e3, -, hgs1, hgs2, -⟩ := hS.at q hlt
          simp only [Value.slice.injEq, true_and] at e1
          obtain ⟨rfl, rfl⟩ := e1
          have HFT := hide (foldl_take hlt)
          obtain ⟨⟨sn, si⟩, hsn⟩ : ∃ X, ns[q] = X := ⟨_, rfl⟩
          rw [hsn] at e2 e3 HFT
          simp only at e2 e3
          have HL := hide hl
          have HSO := hide hS
          have hgsw : ¬ gs = wr.heap.size := by omega
          have hbw : bk < wr.heap.size := hl.a.lt
          have hbw2 : ¬ bk = wr.heap.size := by omega
          obtain ⟨lp, hlp⟩ := ptrB_form l
          have p3 : wr.cell? ⟨bk, 3, none⟩ = some (.pointer lp) := (hl.a.cell 3).trans (by rw [hlp]; rfl)
          have HLP := hide hlp
          clear hsn hl hS HQ hlp
          obtain ⟨V, hV⟩ : ∃ V, wr.alloc (.cells #[.string sn, .int .i64 si] 137) = V := ⟨_, rfl⟩
          have HBV : Hid (Below wr.heap.size wr V ∧ AtC V wr.heap.size 137 #[.string sn, .int .i64 si]) := by rw [← hV]; exact ⟨(Below.refl _ wr).alloc (Nat.le_refl _) _, AtC.new wr 137 _⟩
          go_upto_region 4 with fail
          clear hV p3 e2 e3
          have HB2 := hide (HL.out.below HBV.out.1)
          have p3 : V.cell? ⟨bk, 3, none⟩ = some (.pointer lp) := (HB2.out.a.cell 3).trans (by rw [HLP.out]; rfl)
          have s0 : V.cell? ⟨wr.heap.size, 0, none⟩ = some (.string sn) := HBV.out.2.cell 0
          have s1 : V.cell? ⟨wr.heap.size, 1, none⟩ = some (.int .i64 si) := HBV.out.2.cell 1
          have CW := hide (fun W (hb : Below V.heap.size V W) => with_any sn si l W (HB2.out.c.below hb) HB2.out.n)
          rw [HLP.out] at CW
          have HST : Hid (∀ W w5 l5, Below V.heap.size V W → Wth W w5 l l5 (sn, si) → AtC w5 bk 117 #[.string nm, .int .i64 io, .pointer na, .pointer lp] ∧ (SOwns (w5.setCell ⟨bk, 3, none⟩ (ptrB l5)) w.heap.size 137 (.slice (some ⟨gs, 0, none⟩) ns.length sc) ns ∧ w1.heap.size ≤ (w5.setCell ⟨bk, 3, none⟩ (ptrB l5)).heap.size ∧ ∃ l : List Br, Bld w (w5.setCell ⟨bk, 3, none⟩ (ptrB l5)) bk w1.heap.size nm io (.pointer na) l ((ns.take (q + 1)).foldl ins []))) := fun W w5 l5 hb h5 => by
            have sV := HBV.out.1.size
            have sW := hb.size
            have hBW := HB2.out.below hb
            obtain ⟨A5, B5⟩ := hBW.step HB1.out.size hbk (by omega) h5
            rw [HLP.out] at A5
            have SV : SOwns W w.heap.size 137 (.slice (some ⟨gs, 0, none⟩) ns.length sc) ns := (HSO.out.below HBV.out.1 (Nat.le_refl _)).below hb (Nat.le_refl _)
            refine ⟨A5, ?_, ?_, l5, ?_⟩
            · refine SV.of_heap fun k hk => ?_
              simp [Value.ownBlock] at hk
              subst hk
              refine (heap_setCell_other w5 ⟨bk, 3, none⟩ gs _ (by show gs ≠ bk; omega)).trans (h5.g.block gs (by omega) (fun ⟨x, hx, e⟩ => ?_))
              have := HB2.out.i x hx
              have := HS1.out.lt gs rfl
              omega
            · have := h5.g.size
              simp
              omega
            · rw [HFT.out]
              exact B5
          go_region_with (go_at_call 100; refine (CW.out _ (Below.refl _ _).drew).mono ?_; rintro e w5 ⟨l5, rfl, H5⟩; obtain ⟨A5, HF5⟩ := HST.out _ _ _ (Below.refl _ _).drew H5; obtain ⟨q5, hq5⟩ := ptrB_form l5; have k2 : w5.cell? ⟨bk, 3, none⟩ = some (.pointer lp) := A5.cell 3; have f2 := A5.frozen 3; have HQ5 := hide HF5; rw [hq5] at HQ5; rw [hq5]; clear A5 HF5 H5 hq5)
          all_goals
            go_wp2
            go_roundw
            case rel => exact ⟨q + 1, by omega, by go_num, HQ5.out⟩
            case measure => simp [intOf]; omega
        · have q1 : ¬ ((q : Int) < (ns.length : Int)) := by omega
          obtain ⟨-, hz, l, hl⟩ := HQ.out
          rw [List.take_of_length_le (by omega), ← HKD.out] at hl
          have HL := hide hl
          have hbw : bk < wr.heap.size := hl.a.lt
          obtain ⟨lp, hlp⟩ := ptrB_form l
          have p3 : wr.cell? ⟨bk, 3, none⟩ = some (.pointer lp) := (hl.a.cell 3).trans (by rw [hlp]; rfl)
          have HLP := hide hlp
          obtain ⟨W2, hW2⟩ : ∃ W2, W2 = wr := ⟨_, rfl⟩
          subst hW2
          have HLW : Hid (∀ b ∈ l, w.heap.size ≤ b.1 ∧ b.1 < W2.heap.size) := fun b hb => ⟨Nat.le_trans HB1.out.size (HL.out.i b hb), HL.out.c.lt b hb⟩
          have HP0 : Hid (∃ f, Lp is bs n w W2 W2 bk 0 nm io na l f) := ⟨_, Row4.of_chn HL.out.c, HL.out.a, HL.out.g, Nat.le_refl _, fun j hj h => absurd h (Nat.not_lt_zero _), fun j _ => rfl⟩
          have HLZ : Hid (ptrB (l.drop 0) = .pointer lp) := hlp
          clear hl hlp HQ HS1
          go_wp2_with fail
          go_loopg [8] l.length (fun kk pv wr => ∃ q : Nat, q + kk = l.length ∧ pv = ptrB (l.drop q) ∧ Hid (∃ f, Lp is bs n w W2 wr bk q nm io na l f))
          case atStart => exact ⟨0, by omega, HLZ.out.symm, HP0.out⟩
          case round =>
            obtain ⟨q', hqk, hpv, HLPW⟩ := hrel
            clear HP0 p3 HLZ
            by_cases hlt : q' < l.length
            · rw [ptrB_drop hlt] at hpv
              subst hpv
              obtain ⟨f, hf⟩ := HLPW.out
              have HF := hide hf
              have hrow := hf.r q' hlt
              rw [hf.u q' (Nat.le_refl _)] at hrow
              have hctx := HC.out.chg hf.g (fun k hk => by rw [hk]; exact hb0) (fun e => hbd e.symm) (fun e => hbg e.symm)
              have hwq := HLW.out _ (List.getElem_mem hlt)
              have hdk := HC.out.d.lt
              have hgq := HC.out.g.lt
              have hws := HC.out.b.size
              have HST := hide (fun w' v h1 h2 h3 => hf.step (w' := w') (v := v) hlt HL.out.n HLW.out hbk h1 h2 h3)
              obtain ⟨np, hnp⟩ := ptrB_form (l.drop (q' + 1))
              rw [hnp] at hrow HST
              have IH2 := hide (IH.out (D + 1) (by omega) l[q'].1 l[q'].2.1 l[q'].2.2 np wr hctx hrow (by omega) (by omega) (by omega))
              rw [Int.natCast_add, Int.natCast_one] at IH2
              have HNP := hide hnp
              obtain ⟨cb, hcb⟩ : ∃ c, l[q'].1 = c := ⟨_, rfl⟩
              rw [hcb] at IH2 HST
              rw [hcb]
              have g0 : wr.cell? ⟨gq, 0, none⟩ = some (.func (.func 98) #[] #[.pointer (some ⟨dk, 0, none⟩), .pointer (some ⟨gq, 0, none⟩)]) := hctx.g.cell 0
              clear hf hrow hctx hnp hwq hdk hgq hws hcb
              go_wp2_with fail
              refine IH2.out.mono ?_
              rintro e w5 ⟨rfl, v5, A5, G5, C5⟩
              have k2 : w5.cell? ⟨cb, 2, none⟩ = some (.pointer np) := A5.cell 2
              have HN := hide (HST.out _ _ A5 G5 C5)
              clear A5 G5 C5 HST IH2 g0
              go_wp2
              go_roundg (l.length - (q' + 1))
              case measure => omega
              case rel => exact ⟨q' + 1, by omega, HNP.out.symm, _, HN.out⟩
            · rw [ptrB_end (by omega)] at hpv
              subst hpv
              obtain ⟨f, hf⟩ := HLPW.out
              have HF := hide hf
              clear hf
              go_wp2
              go_end0
              refine ⟨rfl, ptrB l, HF.out.a, ⟨l, f, rfl, HL.out.v, fun b hb => (HLW.out b hb).1, HF.out.r, fun j hj => (HF.out.d j hj (by omega)).mono ?_⟩, HF.out.g⟩
              exact HL.out.g.size
end Go.Proofs.YtmjhgfkplolelaaGreat
/- impl.branchesFrom by its contract, at right disks. -/
namespace Go.Proofs.YtmjhgfkplolelaaGreat
open Go.RowKit Kit
set_option maxRecDepth 100000 in
set_option maxHeartbeats 1600000 in
theorem branches_any (dx dy iv bv : Value) (xs ys : List Bool) (is : List Ino) (bs : List Blk) (w : World) (h : DR w dx dy iv bv xs ys is bs) (hR : RD is bs) :
    Calls Tryz.prog 65 #[.agg #[dx, dy, iv, bv]] w fun e w' => ∃ bk v, e = .returned (.pointer (some ⟨bk, 0, none⟩)) ∧ AtC w' bk 117 #[.string ⟨#[]⟩, .int .i64 1, .pointer none, v] ∧ Grn is bs 4 w' w.heap.size 1 v ∧ Below w.heap.size w w' := by
  have HH := hide h
  have HR := hide hR
  obtain ⟨a1, c1, a2, c2, a3, c3, a4, c4, rfl, rfl, rfl, rfl⟩ := h.form
  have hmf : ∀ (fn : Fn) (first cap : Array Value) (w : World), (Instr.makeFunc fn first cap).run Tryz.prog w = .ok (.func fn first cap) w := fun _ _ _ _ => rfl
  clear h hR
  obtain ⟨W, hW⟩ : ∃ W, (((w.alloc (.cells #[.slice a1 xs.length c1, .slice a2 ys.length c2, .slice a3 is.length c3, .slice a4 bs.length c4] 47)).alloc (.cells #[.func (.func 98) #[] #[.pointer (some ⟨w.heap.size, 0, none⟩), .pointer (some ⟨w.heap.size + 1, 0, none⟩)]] 153)).alloc (.cells #[.string ⟨#[]⟩, .int .i64 1, .pointer none, .pointer none] 117)) = W := ⟨_, rfl⟩
  have HC : Hid (Ctx w W w.heap.size (w.heap.size + 1) #[.slice a1 xs.length c1, .slice a2 ys.length c2, .slice a3 is.length c3, .slice a4 bs.length c4] 153 #[.func (.func 98) #[] #[.pointer (some ⟨w.heap.size, 0, none⟩), .pointer (some ⟨w.heap.size + 1, 0, none⟩)]] ∧ AtC W (w.heap.size + 1 + 1) 117 #[.string ⟨#[]⟩, .int .i64 1, .pointer none, .pointer none]) := by
    rw [← hW]
    have a := AtC.new (w.alloc (.cells #[.slice a1 xs.length c1, .slice a2 ys.length c2, .slice a3 is.length c3, .slice a4 bs.length c4] 47)) 153 #[.func (.func 98) #[] #[.pointer (some ⟨w.heap.size, 0, none⟩), .pointer (some ⟨w.heap.size + 1, 0, none⟩)]]
    rw [World.size_alloc] at a
    have b := AtC.new ((w.alloc (.cells #[.slice a1 xs.length c1, .slice a2 ys.length c2, .slice a3 is.length c3, .slice a4 bs.length c4] 47)).alloc (.cells #[.func (.func 98) #[] #[.pointer (some ⟨w.heap.size, 0, none⟩), .pointer (some ⟨w.heap.size + 1, 0, none⟩)]] 153)) 117 #[.string ⟨#[]⟩, .int .i64 1, .pointer none, .pointer none]
    rw [World.size_alloc, World.size_alloc] at b
    exact ⟨⟨(((Below.refl _ w).alloc (Nat.le_refl _) _).alloc (by simp) _).alloc (by simp; omega) _, ((AtC.new w 47 _).alloc _).alloc _, a.alloc _, Nat.le_refl _, by omega⟩, b⟩
  have HW := hide hW
  clear hW
  have CG := hide (grow_any (.slice a1 xs.length c1) (.slice a2 ys.length c2) (.slice a3 is.length c3) (.slice a4 bs.length c4) xs ys is bs HR.out w HH.out w.heap.size (w.heap.size + 1) 4 0 rfl (w.heap.size + 1 + 1) ⟨#[]⟩ 1 none W HC.out.1 HC.out.2 (by omega) (by omega) (by omega))
  go_enter Tryz.func65, Tryz.ntmps65
  go_wp2_with fail
  rw [HW.out]
  refine CG.out.mono ?_
  rintro e w5 ⟨rfl, v5, A5, G5, C5⟩
  have HF := hide (And.intro A5 (And.intro (G5.mono HC.out.1.b.size) (HC.out.1.b.trans (C5.below HC.out.1.b.size (fun k hk => by rw [hk]; omega)))))
  clear A5 G5 C5 CG
  go_wp2
  go_ret
  exact ⟨_, v5, rfl, HF.out.1, HF.out.2.1, HF.out.2.2⟩
end Go.Proofs.YtmjhgfkplolelaaGreat
/- The closure of impl.TreeOf by its contract: what it tells. -/
namespace Go.Proofs.YtmjhgfkplolelaaGreat
open Go.RowKit Kit
/-- What is told of a branch and below it. -/
def nodeI (is : List Ino) (bs : List Blk) (rec : Int → ByteArray → List Nd) (path : ByteArray) (s : Sl) : List Nd :=
  if kindAt is s.2 = 0 then [] else (joinP path s.1, kindAt is s.2 == 2, (textsAt is bs s.2).1, (textsAt is bs s.2).2) :: rec s.2 (joinP path s.1)
/-- What is told below a directory, n deep. -/
def tellI (is : List Ino) (bs : List Blk) : Nat → Int → ByteArray → List Nd
  | 0, _, _ => []
  | n + 1, i, path => (kids is bs i).flatMap (nodeI is bs (tellI is bs n) path)
theorem ins_mem {s x : Sl} : ∀ {l : List Sl}, x ∈ ins l s → x = s ∨ x ∈ l
  | [], h => by simp [ins] at h; exact .inl h
  | t :: r, h => by
    rw [ins] at h
    split at h
    · simp at h
      rcases h with h | h | h
      · exact .inl h
      · exact .inr (by simp [h])
      · exact .inr (by simp [h])
    · split at h
      · rcases List.mem_cons.1 h with h | h
        · exact .inr (by simp [h])
        · exact (ins_mem h).imp id (fun e => by simp [e])
      · exact .inr h
theorem ins_len (s : Sl) : ∀ l : List Sl, (ins l s).length ≤ l.length + 1
  | [] => by simp [ins]
  | t :: r => by
    have := ins_len s r
    rw [ins]
    split
    · simp
    · split
      · simp; exact this
      · simp
theorem foldl_mem {x : Sl} : ∀ {ns l : List Sl}, x ∈ ns.foldl ins l → x ∈ ns ∨ x ∈ l
  | [], l, h => .inr h
  | s :: r, l, h => by
    rcases foldl_mem (ns := r) h with h | h
    · exact .inl (by simp [h])
    · rcases ins_mem h with h | h
      · exact .inl (by simp [h])
      · exact .inr h
theorem foldl_len : ∀ (ns l : List Sl), (ns.foldl ins l).length ≤ l.length + ns.length
  | [], l => by simp
  | s :: r, l => by
    have h1 := foldl_len r (ins l s)
    have h2 := ins_len s l
    simp only [List.foldl_cons, List.length_cons]
    omega
theorem kids_mem {is : List Ino} {bs : List Blk} {i : Int} {x : Sl} (h : x ∈ kids is bs i) : x ∈ named is bs i := (foldl_mem h).resolve_right (by simp)
theorem kids_len {is : List Ino} {bs : List Blk} (h : RD is bs) (i : Int) : (kids is bs i).length ≤ 8 := by
  have h1 := foldl_len (named is bs i) []
  have h2 := h.named8 i
  unfold kids
  simp at h1
  omega
theorem nodeI_len {is : List Ino} {bs : List Blk} {n : Nat} {rec : Int → ByteArray → List Nd} (h : ∀ i p, (rec i p).length ≤ deepN n) (path : ByteArray) (s : Sl) : (nodeI is bs rec path s).length ≤ 1 + deepN n := by
  unfold nodeI
  split
  · simp
  · have := h s.2 (joinP path s.1); simp; omega
theorem tellI_len {is : List Ino} {bs : List Blk} (hR : RD is bs) : ∀ (n : Nat) (i : Int) (p : ByteArray), (tellI is bs n i p).length ≤ deepN n
  | 0, _, _ => by simp [tellI]
  | n + 1, i, p => by
    rw [tellI, deepN]
    have h1 := flatMap_len (m := 1 + deepN n) (kids is bs i) (fun s _ => nodeI_len (is := is) (bs := bs) (tellI_len hR n) p s)
    have h3 := kids_len hR i
    have : (kids is bs i).length * (1 + deepN n) ≤ 8 * (1 + deepN n) := Nat.mul_le_mul_right _ h3
    omega
/-- Telling under way: of old only the list's own variable changes; the list lies in new memory. -/
structure Tl (w1 wr : World) (lk : Nat) (ol : List Nd) : Prop where
  g : Chg (fun k => k = lk) w1 wr
  l : ∃ lv, AtC wr lk 54 #[lv] ∧ NdO wr w1.heap.size lv ol
theorem Tl.below {w1 wr wr' : World} {lk : Nat} {ol : List Nd} (h : Tl w1 wr lk ol) (hb : Below wr.heap.size wr wr') : Tl w1 wr' lk ol := by
  obtain ⟨lv, h1, h2⟩ := h.l
  exact ⟨h.g.trans (Chg.of_below hb), lv, h1.over hb, h2.below hb⟩
theorem Tl.at {w1 wr : World} {lk : Nat} {ol : List Nd} (h : Tl w1 wr lk ol) {b : Nat} {T : TypeId} {cs : Array Value} (ha : AtC w1 b T cs) (hb : b ≠ lk) : AtC wr b T cs := (h.g.block b ha.lt hb).trans ha
theorem Tl.app {w1 W w9 : World} {lk : Nat} {lv v9 : Value} {cur new : List Nd} (hg : Chg (fun k => k = lk) w1 W) (hA : AtC W lk 54 #[lv]) (hlk : lk < w1.heap.size) (hN : NdO W w1.heap.size lv cur) (h9 : NdO w9 w1.heap.size v9 new) (G9 : W.grownBy w9 lv.ownBlock) : AtC w9 lk 54 #[lv] ∧ Tl w1 (w9.setCell ⟨lk, 0, none⟩ v9) lk new := by
  have A9 : AtC w9 lk 54 #[lv] := hA.grown G9 (fun e => by have := (hN.lt lk e).1; omega)
  have g9 : Chg (fun k => k = lk) w1 w9 := ⟨G9.os.trans hg.os, G9.tape.trans hg.tape, G9.output.trans hg.output, Nat.le_trans hg.size G9.size, fun k hk hn => (G9.block k (by have := hg.size; omega) (fun e => by have := (hN.lt k e.symm).1; omega)).trans (hg.block k hk hn)⟩
  exact ⟨A9, g9.setCell rfl _, v9, A9.set 0 v9, h9.of_heap fun k hk => heap_setCell_other w9 ⟨lk, 0, none⟩ k _ (by have := (h9.lt k hk).1; show k ≠ lk; omega)⟩
/-- A slice of one struct that was just built. -/
def MkS1t (d : Nat) (T : TypeId) (Z : Array Value) : Mk := .val [d] (fun lo _ w v => v = .slice (some ⟨lo, 0, none⟩) 1 1 ∧ AtC w lo T Z) (fun _ _ _ _ _ h hb => ⟨h.1, h.2.over hb⟩)
theorem flat_snoc {l : List Sl} {g : Sl → List Nd} {q : Nat} (h : q < l.length) : (l.take (q + 1)).flatMap g = (l.take q).flatMap g ++ g l[q] := by
  rw [List.take_succ_eq_append_getElem h, List.flatMap_append, List.flatMap_cons, List.flatMap_nil, List.append_nil]
set_option maxRecDepth 100000 in
set_option maxHeartbeats 6400000 in
theorem tell_any (dx dy iv bv : Value) (xs ys : List Bool) (is : List Ino) (bs : List Blk) (hR : RD is bs) (w0 w1 : World) (h0 : DR w0 dx dy iv bv xs ys is bs) (hb01 : Below w0.heap.size w0 w1) (dk lk gq L : Nat) (hdk : AtC w1 dk 47 #[dx, dy, iv, bv]) (hgq : AtC w1 gq 114 #[.func (.func 62) #[] #[.pointer (some ⟨dk, 0, none⟩), .pointer (some ⟨lk, 0, none⟩), .pointer (some ⟨gq, 0, none⟩)]]) (hlk : lk < w1.heap.size) (hl0 : w0.heap.size ≤ lk) (hdl : dk ≠ lk) (hgl : gq ≠ lk) (hL : lk < L) : ∀ (n D : Nat), D + n = 4 → ∀ (bk : Nat) (nm : ByteArray) (io : Int) (na : Option Addr) (v : Value) (path : ByteArray) (ol : List Nd) (w : World), AtC w1 bk 117 #[.string nm, .int .i64 io, .pointer na, v] → bk ≠ lk → Grn is bs n w1 L io v → path.size ≤ 7 * D → ol.length ≤ 10000000 * (1 + D) → Tl w1 w lk ol →
    Calls Tryz.prog 62 #[.pointer (some ⟨bk, 0, none⟩), .string path, .pointer (some ⟨dk, 0, none⟩), .pointer (some ⟨lk, 0, none⟩), .pointer (some ⟨gq, 0, none⟩)] w fun e w' => e = .returned (.tuple #[]) ∧ Tl w1 w' lk (ol ++ tellI is bs n io path) := by
  intro n
  induction n with
  | zero =>
    intro D hn bk nm io na v path ol w hA hbl hG hp hol hT
    have hv : v = .pointer none := hG
    subst hv
    have p3 : w.cell? ⟨bk, 3, none⟩ = some (.pointer none) := (hT.at hA hbl).cell 3
    have HT := hide hT
    clear hA hG hT
    go_enter Tryz.func62, Tryz.ntmps62
    go_wp2_with fail
    go_rounds 1
    go_end0
    refine ⟨rfl, ?_⟩
    rw [tellI, List.append_nil]
    exact HT.out
  | succ n ih =>
    intro D hn bk nm io na v path ol w hA hbl hG hp hol hT
    obtain ⟨l, f, rfl, hlv, hlL, hrow, hgr⟩ := hG
    obtain ⟨lp, hlp⟩ := ptrB_form l
    have p3 : w.cell? ⟨bk, 3, none⟩ = some (.pointer lp) := ((hT.at hA hbl).cell 3).trans (by rw [hlp]; rfl)
    have HLZ : Hid (ptrB (l.drop 0) = .pointer lp) := hlp
    have IH := hide ih
    have HRD := hide hR
    have HT := hide hT
    have HP := hide hp
    have HOL := hide hol
    have HROW := hide (And.intro hrow (And.intro hgr hlL))
    have HKM : Hid (∀ (q : Nat) (hq : q < l.length), l[q].2.1.size ≤ 6) := fun q hq => by
      have : l[q].2 ∈ kids is bs io := by rw [← hlv]; exact List.mem_map_of_mem (List.getElem_mem hq)
      exact (nameOk_size (hR.name (kids_mem this))).2
    have HTE : Hid (tellI is bs (n + 1) io path = (l.map (·.2)).flatMap (nodeI is bs (tellI is bs n) path)) := by
      show tellI is bs (n + 1) io path = _
      rw [hlv]; rfl
    have HLEN : Hid (∀ q, (((l.map (·.2)).take q).flatMap (nodeI is bs (tellI is bs n) path)).length ≤ 4680) := fun q => by
      have h1 := flatMap_len (m := 1 + deepN n) ((l.map (·.2)).take q) (fun s _ => nodeI_len (is := is) (bs := bs) (tellI_len hR n) path s)
      have h2 : ((l.map (·.2)).take q).length ≤ 8 := by
        rw [hlv, List.length_take]
        have := kids_len hR io
        omega
      have h3 := deepN_le (n := n + 1) (by omega)
      rw [deepN] at h3
      have h4 : ((l.map (·.2)).take q).length * (1 + deepN n) ≤ 8 * (1 + deepN n) := Nat.mul_le_mul_right _ h2
      omega
    obtain ⟨a1, c1, a2, c2, a3, c3, a4, c4, rfl, rfl, rfl, rfl⟩ := h0.form
    have H0 := hide (And.intro h0 hb01)
    have HDK := hide hdk
    have HGQ := hide hgq
    obtain ⟨RES, hRES⟩ : ∃ r, tellI is bs (n + 1) io path = r := ⟨_, rfl⟩
    rw [hRES] at HTE ⊢
    clear ih hA hT hp hol hrow hgr hlL hlv hlp hR h0 hb01 hdk hgq hRES
    go_enter Tryz.func62, Tryz.ntmps62
    go_wp2_with fail
    go_loopg [7] l.length (fun kk pv wr => ∃ q : Nat, q + kk = l.length ∧ pv = ptrB (l.drop q) ∧ Hid (Tl w1 wr lk (ol ++ ((l.map (·.2)).take q).flatMap (nodeI is bs (tellI is bs n) path))))
    case atStart => exact ⟨0, by omega, HLZ.out.symm, hide (by simpa using HT.out)⟩
    case round =>
      obtain ⟨q, hqk, hpv, HTW⟩ := hrel
      clear HT p3 HLZ
      by_cases hlt : q < l.length
      rotate_left
      · rw [ptrB_end (by omega)] at hpv
        subst hpv
        go_wp2
        go_end0
        refine ⟨rfl, ?_⟩
        have := HTW.out
        rw [List.take_of_length_le (by rw [List.length_map]; omega), ← HTE.out] at this
        exact this
      rw [ptrB_drop hlt] at hpv
      subst hpv
      have HFS := hide (flat_snoc (l := l.map (·.2)) (g := nodeI is bs (tellI is bs n) path) (q := q) (by rw [List.length_map]; exact hlt))
      rw [List.getElem_map] at HFS
      have hrow := HROW.out.1 q hlt
      have hgr := HROW.out.2.1 q hlt
      have hcb := HROW.out.2.2 _ (List.getElem_mem hlt)
      have hnm6 := HKM.out q hlt
      obtain ⟨np, hnp⟩ := ptrB_form (l.drop (q + 1))
      have HNP := hide hnp
      rw [hnp] at hrow
      obtain ⟨⟨cb, ⟨sn, si⟩⟩, hX⟩ : ∃ X, l[q] = X := ⟨_, rfl⟩
      rw [hX] at hrow hgr HFS hcb hnm6
      rw [hX]
      simp only at hrow hgr hcb hnm6 ⊢
      have hcl : cb ≠ lk := by omega
      have HCB : Hid (∀ wr ol, Tl w1 wr lk ol → AtC wr cb 117 #[.string sn, .int .i64 si, .pointer np, f q] ∧ AtC wr dk 47 #[.slice a1 xs.length c1, .slice a2 ys.length c2, .slice a3 is.length c3, .slice a4 bs.length c4] ∧ AtC wr gq 114 #[.func (.func 62) #[] #[.pointer (some ⟨dk, 0, none⟩), .pointer (some ⟨lk, 0, none⟩), .pointer (some ⟨gq, 0, none⟩)]] ∧ DR wr (.slice a1 xs.length c1) (.slice a2 ys.length c2) (.slice a3 is.length c3) (.slice a4 bs.length c4) xs ys is bs) := fun wr ol hh => by
        refine ⟨hh.at hrow hcl, hh.at HDK.out hdl, hh.at HGQ.out hgl, H0.out.1.below (H0.out.2.trans (hh.g.below H0.out.2.size (fun k hk => by rw [hk]; exact hl0))) (Nat.le_refl _)⟩
      obtain ⟨cur, hcur⟩ : ∃ c, ol ++ ((l.map (·.2)).take q).flatMap (nodeI is bs (tellI is bs n) path) = c := ⟨_, rfl⟩
      have HCL : Hid (cur.length ≤ 10000000 * (1 + D) + 4680) := by
        show cur.length ≤ _
        rw [← hcur, List.length_append]
        have := HLEN.out q
        have := HOL.out
        omega
      rw [hcur] at HTW
      have HCUR := hide hcur
      have HGR := hide (And.intro hrow hgr)
      clear hrow hgr hnp hX hcur
      obtain ⟨A1, A2, A3, A4⟩ := HCB.out _ _ HTW.out
      have p0 : wr.cell? ⟨cb, 0, none⟩ = some (.string sn) := A1.cell 0
      have p1 : wr.cell? ⟨cb, 1, none⟩ = some (.int .i64 si) := A1.cell 1
      have p2 : wr.cell? ⟨cb, 2, none⟩ = some (.pointer np) := A1.cell 2
      have z0 : wr.cell? ⟨dk, 0, none⟩ = some (.slice a1 xs.length c1) := A2.cell 0
      have z1 : wr.cell? ⟨dk, 1, none⟩ = some (.slice a2 ys.length c2) := A2.cell 1
      have z2 : wr.cell? ⟨dk, 2, none⟩ = some (.slice a3 is.length c3) := A2.cell 2
      have z3 : wr.cell? ⟨dk, 3, none⟩ = some (.slice a4 bs.length c4) := A2.cell 3
      have HDR := hide A4
      clear A1 A2 A3 A4
      go_upto_region 3 with fail
      go_cut [24] from 13 to 45 (fun c wx => c = .bool (decide (¬ kindAt is si = 0)) ∧ Tl w1 wx lk cur)
      case first =>
        have CN := hide (isNode_any si (.slice a1 xs.length c1) (.slice a2 ys.length c2) (.slice a3 is.length c3) (.slice a4 bs.length c4) xs ys is bs wr.drew HDR.out.drew HRD.out)
        go_region_with (go_at_call 63; refine CN.out.mono ?_; rintro e w5 ⟨rfl, B5⟩)
        all_goals (try go_wp2_with fail)
        all_goals (go_meet; exact ⟨by simp only [decide_not], HTW.out.below (of_drew B5)⟩)
      case rest =>
        obtain ⟨rfl, hT2⟩ := hcut
        have HT2 := hide hT2
        clear hT2 p0 p1 p2 z0 z1 z2 z3 HTW HDR
        obtain ⟨A1, A2, A3, A4⟩ := HCB.out _ _ HT2.out
        have p0 : wc.cell? ⟨cb, 0, none⟩ = some (.string sn) := A1.cell 0
        have p2 : wc.cell? ⟨cb, 2, none⟩ = some (.pointer np) := A1.cell 2
        by_cases hk0 : kindAt is si = 0
        · have hd : decide (¬ kindAt is si = 0) = false := by simp [hk0]
          rw [hd]
          have HE : Hid (nodeI is bs (tellI is bs n) path (sn, si) = []) := by
            show nodeI is bs (tellI is bs n) path (sn, si) = []
            unfold nodeI
            rw [if_pos hk0]
          clear hd A1 A2 A3 A4
          go_wp2
          go_roundg (l.length - (q + 1))
          case measure => omega
          case rel =>
            refine ⟨q + 1, by omega, HNP.out.symm, hide ?_⟩
            rw [HFS.out, HE.out, List.append_nil, HCUR.out]
            exact HT2.out
        have hd : decide (¬ kindAt is si = 0) = true := by simp [hk0]
        rw [hd]
        obtain ⟨j, rfl⟩ : ∃ j : Nat, si = (j : Int) + 1 := by
          cases hb : inB si 1 is.length with
          | false => exact absurd (kindAt_out hb) hk0
          | true => have := inB_true hb; exact ⟨(si - 1).toNat, by omega⟩
        have hj : j < is.length := by
          cases hb : inB ((j : Int) + 1) 1 is.length with
          | false => exact absurd (kindAt_out hb) hk0
          | true => have := inB_true hb; omega
        have hps : path.size ≤ 28 := by have := HP.out; omega
        have HE : Hid (nodeI is bs (tellI is bs n) path (sn, (j : Int) + 1) = (joinP path sn, kindAt is ((j : Int) + 1) == 2, (textsAt is bs ((j : Int) + 1)).1, (textsAt is bs ((j : Int) + 1)).2) :: tellI is bs n ((j : Int) + 1) (joinP path sn)) := by
          show nodeI is bs (tellI is bs n) path (sn, (j : Int) + 1) = _
          unfold nodeI
          rw [if_neg hk0]
        have CA := hide (fun W hd => nodeAt_any j (joinP path sn) (.slice a1 xs.length c1) (.slice a2 ys.length c2) (.slice a3 is.length c3) (.slice a4 bs.length c4) xs ys is bs W hd HRD.out hj)
        obtain ⟨tx, htx⟩ : ∃ X, textsAt is bs ((j : Int) + 1) = X := ⟨_, rfl⟩
        obtain ⟨kb, hkb⟩ : ∃ X, (kindAt is ((j : Int) + 1) == 2) = X := ⟨_, rfl⟩
        rw [htx, hkb] at HE CA
        obtain ⟨tx1, tx2⟩ := tx
        clear hd htx hkb hk0 A1 A2 A3 A4
        obtain ⟨w2, hw2⟩ : ∃ w2, w2 = wc := ⟨_, rfl⟩
        subst hw2
        go_upto_region 5 with fail
        obtain ⟨lv, hlv, hnd⟩ := HT2.out.l
        obtain ⟨la, lc, rfl⟩ := hnd.form
        have HLV := hide (And.intro hlv hnd)
        clear hlv hnd p0 p2
        have HW : Hid (∀ W, Below w2.heap.size w2 W → AtC W lk 54 #[.slice la cur.length lc] ∧ NdO W w1.heap.size (.slice la cur.length lc) cur ∧ AtC W cb 117 #[.string sn, .int .i64 ((j : Int) + 1), .pointer np, f q] ∧ AtC W dk 47 #[.slice a1 xs.length c1, .slice a2 ys.length c2, .slice a3 is.length c3, .slice a4 bs.length c4] ∧ DR W (.slice a1 xs.length c1) (.slice a2 ys.length c2) (.slice a3 is.length c3) (.slice a4 bs.length c4) xs ys is bs) := fun W b => by
          obtain ⟨B1, B2, B3, B4⟩ := HCB.out _ _ (HT2.out.below b)
          exact ⟨HLV.out.1.over b, HLV.out.2.below b, B1, B2, B4⟩
        go_cut [7, 8] from 13 to 45 (fun pv bv wx => pv = .pointer (some ⟨cb, 0, none⟩) ∧ bv = .string (joinP path sn) ∧ Tl w1 wx lk (cur ++ [(joinP path sn, kb, tx1, tx2)]))
        case first =>
          refine wp_region_frm (by kernel_rfl) [0, 1, 2, 3, 4, 5, 6, 7, 8] [9, 10] (fun i => match i with | 0 => .const [] (.slice la cur.length lc) | 1 => .const [] (.agg #[.slice a1 xs.length c1, .slice a2 ys.length c2, .slice a3 is.length c3, .slice a4 bs.length c4]) | 2 => .const [] (.pointer (some ⟨cb, 0, none⟩)) | 3 => .const [2] (.pointer (some ⟨cb, 0, none⟩)) | 4 => .const [3] (.pointer (some ⟨cb, 1, none⟩)) | 5 => .const [4] (.int .i64 ((j : Int) + 1)) | 6 => .const [] (.string (path ++ ⟨#[47]⟩ ++ sn)) | 7 => .const [1, 5, 6] (.agg #[.string (path ++ ⟨#[47]⟩ ++ sn), .bool kb, .string tx1, .string tx2]) | 8 => MkS1t 7 78 #[.string (path ++ ⟨#[47]⟩ ++ sn), .bool kb, .string tx1, .string tx2] | _ => .triv) (fun x => ⟨#[Value.pointer (some { block := bk, off := 0 }), Value.string path, Value.pointer (some { block := dk, off := 0 }), Value.pointer (some { block := lk, off := 0 }), Value.pointer (some { block := gq, off := 0 }), undef, undef, Value.pointer (some { block := cb, off := 0 }), Value.string (path ++ { data := #[47] } ++ sn), Value.pointer (some { block := bk, off := 0 }), Value.pointer (some { block := bk, off := 0 }), Value.pointer (some { block := bk, off := 3 }), Value.pointer lp, u13, u14, u15, u16, u17, u18, u19, u20, u21, u22, u23, Value.bool true, Value.string path, Value.string (path ++ { data := #[47] }), Value.pointer (some { block := cb, off := 0 }), Value.pointer (some { block := cb, off := 0 }), Value.pointer (some { block := cb, off := 0 }), Value.string sn, Value.string (path ++ { data := #[47] } ++ sn), x 0, x 1, x 2, x 3, x 4, x 5, x 6, x 7, x 8, u41, u42, u43, u44, u45], []⟩) (fun i => match i with | 0 => u32 | 1 => u33 | 2 => u34 | 3 => u35 | 4 => u36 | 5 => u37 | 6 => u38 | 7 => u39 | 8 => u40 | _ => undef) rfl (by kernel_rfl) (by kernel_rfl) (by kernel_rfl) rfl ?_ ?_
          · intro jo hj so x iw W hd hp K hK
            simp only [List.mem_cons, List.not_mem_nil, or_false] at hj
            rcases hj with rfl | rfl | rfl | rfl | rfl | rfl | rfl | rfl | rfl
            · refine wpOp_step (o := _) rfl fun K' hK' => ?_
              have HK := hide (fun (v : Value) (W' : World) h1 h2 => hK' _ _ (hK v W' h1 h2))
              simp only [upd, Nat.reduceEqDiff, if_true, if_false] at HK
              have bw := of_drew hp.bel
              have qa := (HW.out W bw).1
              have k0 : W.cell? ⟨lk, 0, none⟩ = some (.slice la cur.length lc) := qa.cell 0
              clear bw qa
              clear hK hK' hp hd
              go_simp
              exact HK.out _ _ (Below.refl _ _) rfl
            · refine wpOp_step (o := _) rfl fun K' hK' => ?_
              have HK := hide (fun (v : Value) (W' : World) h1 h2 => hK' _ _ (hK v W' h1 h2))
              simp only [upd, Nat.reduceEqDiff, if_true, if_false] at HK
              have bw := of_drew hp.bel
              have qa := (HW.out W bw).2.2.2.1
              have k0 : W.cell? ⟨dk, 0, none⟩ = some (.slice a1 xs.length c1) := qa.cell 0
              have k1 : W.cell? ⟨dk, 1, none⟩ = some (.slice a2 ys.length c2) := qa.cell 1
              have k2 : W.cell? ⟨dk, 2, none⟩ = some (.slice a3 is.length c3) := qa.cell 2
              have k3 : W.cell? ⟨dk, 3, none⟩ = some (.slice a4 bs.length c4) := qa.cell 3
              clear bw qa
              clear hK hK' hp hd
              go_simp
              exact HK.out _ _ (Below.refl _ _) rfl
            · refine wpOp_step (o := _) rfl fun K' hK' => ?_
              have HK := hide (fun (v : Value) (W' : World) h1 h2 => hK' _ _ (hK v W' h1 h2))
              simp only [upd, Nat.reduceEqDiff, if_true, if_false] at HK
              clear hK hK' hp hd
              go_simp
              exact HK.out _ _ (Below.refl _ _) rfl
            · refine wpOp_step (o := _) rfl fun K' hK' => ?_
              have HK := hide (fun (v : Value) (W' : World) h1 h2 => hK' _ _ (hK v W' h1 h2))
              simp only [upd, Nat.reduceEqDiff, if_true, if_false] at HK
              have e2 : x 2 = .pointer (some ⟨cb, 0, none⟩) := hp.post 2 (hd 2 (show 2 ∈ [2] from by decide))
              clear hK hK' hp hd
              simp only [e2] at HK ⊢
              go_simp
              exact HK.out _ _ (Below.refl _ _) rfl
            · refine wpOp_step (o := _) rfl fun K' hK' => ?_
              have HK := hide (fun (v : Value) (W' : World) h1 h2 => hK' _ _ (hK v W' h1 h2))
              simp only [upd, Nat.reduceEqDiff, if_true, if_false] at HK
              have e3 : x 3 = .pointer (some ⟨cb, 0, none⟩) := hp.post 3 (hd 3 (show 3 ∈ [3] from by decide))
              clear hK hK' hp hd
              simp only [e3] at HK ⊢
              go_simp
              exact HK.out _ _ (Below.refl _ _) rfl
            · refine wpOp_step (o := _) rfl fun K' hK' => ?_
              have HK := hide (fun (v : Value) (W' : World) h1 h2 => hK' _ _ (hK v W' h1 h2))
              simp only [upd, Nat.reduceEqDiff, if_true, if_false] at HK
              have e4 : x 4 = .pointer (some ⟨cb, 1, none⟩) := hp.post 4 (hd 4 (show 4 ∈ [4] from by decide))
              have bw := of_drew hp.bel
              have qa := (HW.out W bw).2.2.1
              have k1 : W.cell? ⟨cb, 1, none⟩ = some (.int .i64 ((j : Int) + 1)) := qa.cell 1
              clear bw qa
              clear hK hK' hp hd
              simp only [e4] at HK ⊢
              go_simp
              exact HK.out _ _ (Below.refl _ _) rfl
            · refine wpOp_step (o := _) rfl fun K' hK' => ?_
              have HK := hide (fun (v : Value) (W' : World) h1 h2 => hK' _ _ (hK v W' h1 h2))
              simp only [upd, Nat.reduceEqDiff, if_true, if_false] at HK
              clear hK hK' hp hd
              go_simp
              exact HK.out _ _ (Below.refl _ _) rfl
            · refine wpOp_step (o := _) rfl fun K' hK' => ?_
              have HK := hide (fun (v : Value) (W' : World) h1 h2 => hK' _ _ (hK v W' h1 h2))
              simp only [upd, Nat.reduceEqDiff, if_true, if_false] at HK
              have e1 : x 1 = .agg #[.slice a1 xs.length c1, .slice a2 ys.length c2, .slice a3 is.length c3, .slice a4 bs.length c4] := hp.post 1 (hd 1 (show 1 ∈ [1, 5, 6] from by decide))
              have e5 : x 5 = .int .i64 ((j : Int) + 1) := hp.post 5 (hd 5 (show 5 ∈ [1, 5, 6] from by decide))
              have e6 : x 6 = .string (path ++ ⟨#[47]⟩ ++ sn) := hp.post 6 (hd 6 (show 6 ∈ [1, 5, 6] from by decide))
              have dr := (HW.out W (of_drew hp.bel)).2.2.2.2
              clear hK hK' hp hd
              simp only [e1, e5, e6] at HK ⊢
              clear e1 e5 e6
              go_simp
              refine (CA.out W dr).mono ?_
              rintro e w6 ⟨rfl, B6⟩
              go_simp
              exact HK.out _ _ B6 rfl
            · refine wpOp_step (o := _) rfl fun K' hK' => ?_
              have HK := hide (fun (v : Value) (W' : World) h1 h2 => hK' _ _ (hK v W' h1 h2))
              simp only [upd, Nat.reduceEqDiff, if_true, if_false] at HK
              have e7 : x 7 = .agg #[.string (path ++ ⟨#[47]⟩ ++ sn), .bool kb, .string tx1, .string tx2] := hp.post 7 (hd 7 (show 7 ∈ [7] from by decide))
              clear hK hK' hp hd
              simp only [e7] at HK ⊢
              clear e7
              go_simp
              exact HK.out _ _ ((Below.refl _ W).alloc (Nat.le_refl _) _) ⟨rfl, AtC.new W 78 _⟩
          · intro x iw W hp
            have e0 : x 0 = .slice la cur.length lc := hp.post 0 (by decide)
            have e1 : x 1 = .agg #[.slice a1 xs.length c1, .slice a2 ys.length c2, .slice a3 is.length c3, .slice a4 bs.length c4] := hp.post 1 (by decide)
            have e2 : x 2 = .pointer (some ⟨cb, 0, none⟩) := hp.post 2 (by decide)
            have e3 : x 3 = .pointer (some ⟨cb, 0, none⟩) := hp.post 3 (by decide)
            have e4 : x 4 = .pointer (some ⟨cb, 1, none⟩) := hp.post 4 (by decide)
            have e5 : x 5 = .int .i64 ((j : Int) + 1) := hp.post 5 (by decide)
            have e6 : x 6 = .string (path ++ ⟨#[47]⟩ ++ sn) := hp.post 6 (by decide)
            have e7 : x 7 = .agg #[.string (path ++ ⟨#[47]⟩ ++ sn), .bool kb, .string tx1, .string tx2] := hp.post 7 (by decide)
            obtain ⟨e8, A8⟩ := hp.post 8 (by decide)
            have bel := of_drew hp.bel
            have HWX := hide (HW.out W bel)
            have HG := hide (HT2.out.g.trans (Chg.of_below bel))
            have HA8 : Hid (AtC W (iw 8).1 78 (ndRow (path ++ ⟨#[47]⟩ ++ sn, kb, tx1, tx2)).toArray) := A8
            have HSZ : Hid (w1.heap.size ≤ W.heap.size) := HG.out.size
            have HTL : Hid (cur.length ≤ 100000000000) := by have := HCL.out; show _ ≤ _; omega
            clear hp bel A8
            simp only [e0, e1, e2, e3, e4, e5, e6, e7, e8]
            clear e0 e1 e2 e3 e4 e5 e6 e7 e8
            generalize (iw 8).1 = g8 at *
            simp only [List.filterMap_cons, List.filterMap_nil, List.getElem?_toArray, List.getElem?_cons_succ, List.getElem?_cons_zero]
            refine wpList_step fun K' hK' => ?_
            refine step_append_node _ rfl (.tmp 32) (.tmp 40) rfl w1.heap.size (.slice la cur.length lc) cur rfl HWX.out.2.1 HSZ.out g8 (path ++ ⟨#[47]⟩ ++ sn, kb, tx1, tx2) rfl HA8.out HTL.out ?_
            intro v9 w9 T9 G9 V9
            refine hK' _ _ ?_
            obtain ⟨A9, T10⟩ := Tl.app HG.out HWX.out.1 hlk HWX.out.2.1 T9 G9
            have k0 : w9.cell? ⟨lk, 0, none⟩ = some (.slice la cur.length lc) := A9.cell 0
            have f0 := A9.frozen 0
            obtain ⟨va, vc, hv9⟩ := T9.form
            obtain ⟨nl, hnl⟩ : ∃ n, (cur ++ [(path ++ ⟨#[47]⟩ ++ sn, kb, tx1, tx2)]).length = n := ⟨_, rfl⟩
            rw [hnl] at hv9
            subst hv9
            clear hnl
            have HT10 := hide T10
            clear A9 T10 T9 G9 V9 hK'
            go_wp2_with fail
            try rw [List.filterMap_nil]
            try go_wp2_with fail
            go_meet
            exact ⟨rfl, rfl, HT10.out⟩
        case rest =>
          obtain ⟨rfl, rfl, hT3⟩ := hcut
          have HT3 := hide hT3
          clear hT3 HW HLV HT2
          obtain ⟨A1, A2, A3, A4⟩ := HCB.out _ _ HT3.out
          have g0 : wc.cell? ⟨gq, 0, none⟩ = some (.func (.func 62) #[] #[.pointer (some ⟨dk, 0, none⟩), .pointer (some ⟨lk, 0, none⟩), .pointer (some ⟨gq, 0, none⟩)]) := A3.cell 0
          have HRL : Hid (ol ++ ((l.map (·.2)).take (q + 1)).flatMap (nodeI is bs (tellI is bs n) path) = (cur ++ [(joinP path sn, kb, tx1, tx2)]) ++ tellI is bs n ((j : Int) + 1) (joinP path sn)) := by
            show ol ++ ((l.map (·.2)).take (q + 1)).flatMap (nodeI is bs (tellI is bs n) path) = _
            rw [HFS.out, HE.out, ← List.append_assoc, HCUR.out, List.append_assoc]
            rfl
          have IH2 := hide (IH.out (D + 1) (by omega) cb sn ((j : Int) + 1) np (f q) (joinP path sn) (cur ++ [(joinP path sn, kb, tx1, tx2)]) wc HGR.out.1 hcl HGR.out.2 (by rw [joinP_size]; have := HP.out; omega) (by have := HCL.out; simp; omega) HT3.out)
          rw [← HRL.out] at IH2
          clear A1 A2 A3 A4 HT3 CA HE
          go_wp2_with fail
          refine IH2.out.mono ?_
          rintro e w5 ⟨rfl, hT5⟩
          have HT5 := hide hT5
          obtain ⟨A1, -, -, -⟩ := HCB.out _ _ hT5
          have p2 : w5.cell? ⟨cb, 2, none⟩ = some (.pointer np) := A1.cell 2
          clear hT5 A1 IH2 g0
          go_wp2
          go_roundg (l.length - (q + 1))
          case measure => omega
          case rel => exact ⟨q + 1, by omega, HNP.out.symm, HT5.out⟩
end Go.Proofs.YtmjhgfkplolelaaGreat
/- impl.TreeOf by its contract. -/
namespace Go.Proofs.YtmjhgfkplolelaaGreat
open Go.RowKit Kit
theorem atC_apart {w : World} {a b : Nat} {S T : TypeId} {xs ys : Array Value} (h : AtC w a S xs) (h' : AtC w b T ys) (hn : S ≠ T) : a ≠ b := fun e => by
  subst e
  have := h.symm.trans h'
  simp only [Option.some.injEq, Obj.cells.injEq] at this
  exact hn this.2.1
set_option maxRecDepth 100000 in
set_option maxHeartbeats 3200000 in
theorem implTree_any (dx dy iv bv : Value) (xs ys : List Bool) (is : List Ino) (bs : List Blk) (w : World) (h : DR w dx dy iv bv xs ys is bs) (hG : Big 1048576 xs ys is bs) :
    Calls Tryz.prog 34 #[.agg #[dx, dy, iv, bv]] w fun e w' => ∃ v l, e = .returned v ∧ NdO w' w.heap.size v l ∧ Below w.heap.size w w' ∧ (diskOk xs ys is bs = false → l = []) ∧ (diskOk xs ys is bs = true → l = tellI is bs 4 1 ⟨#[]⟩) := by
  obtain ⟨a1, c1, a2, c2, a3, c3, a4, c4, rfl, rfl, rfl, rfl⟩ := h.form
  have HH := hide h
  have CO := hide (fun W hd => implOk_disk (.slice a1 xs.length c1) (.slice a2 ys.length c2) (.slice a3 is.length c3) (.slice a4 bs.length c4) xs ys is bs W hd hG.i hG.b)
  have HB0 : Hid (Below w.heap.size w (w.alloc (.cells #[.slice a1 xs.length c1, .slice a2 ys.length c2, .slice a3 is.length c3, .slice a4 bs.length c4] 47))) := (Below.refl _ w).alloc (Nat.le_refl _) _
  have HX0 := hide (AtC.new w 47 #[.slice a1 xs.length c1, .slice a2 ys.length c2, .slice a3 is.length c3, .slice a4 bs.length c4])
  have hmf : ∀ (fn : Fn) (first cap : Array Value) (w : World), (Instr.makeFunc fn first cap).run Tryz.prog w = .ok (.func fn first cap) w := fun _ _ _ _ => rfl
  clear h hG
  cases hok : diskOk xs ys is bs with
  | false =>
    rw [hok] at CO
    clear hok
    go_enter Tryz.func34, Tryz.ntmps34
    go_wp2_with fail
    refine (CO.out _ (HH.out.alloc _)).mono ?_
    rintro e w1 ⟨rfl, B1⟩
    have HB1 := hide (HB0.out.trans (B1.mono HB0.out.size))
    clear B1
    go_wp2
    go_ret
    exact ⟨_, [], rfl, NdO.nil _ _, HB1.out, (fun _ => rfl), (fun e => by cases e)⟩
  | true =>
    rw [hok] at CO
    have HR := hide (RD.of_ok hok)
    clear hok
    go_enter Tryz.func34, Tryz.ntmps34
    go_wp2_with fail
    refine (CO.out _ (HH.out.alloc _)).mono ?_
    rintro e w1 ⟨rfl, B1⟩
    have HB1 := hide (HB0.out.trans (B1.mono HB0.out.size))
    have HX1 := hide (HX0.out.over B1)
    clear B1 HX0 HB0
    go_upto_region 6 with fail
    obtain ⟨W, hW⟩ : ∃ W, ((w1.alloc (.cells #[.slice none 0 0] 54)).alloc (.cells #[.func (.func 62) #[] #[.pointer (some ⟨w.heap.size, 0, none⟩), .pointer (some ⟨w1.heap.size, 0, none⟩), .pointer (some ⟨w1.heap.size + 1, 0, none⟩)]] 114)) = W := ⟨_, rfl⟩
    rw [hW]
    have hWD : AtC W w.heap.size 47 #[.slice a1 xs.length c1, .slice a2 ys.length c2, .slice a3 is.length c3, .slice a4 bs.length c4] ∧ AtC W w1.heap.size 54 #[.slice none 0 0] ∧ AtC W (w1.heap.size + 1) 114 #[.func (.func 62) #[] #[.pointer (some ⟨w.heap.size, 0, none⟩), .pointer (some ⟨w1.heap.size, 0, none⟩), .pointer (some ⟨w1.heap.size + 1, 0, none⟩)]] ∧ Below w.heap.size w W ∧ w1.heap.size + 2 = W.heap.size := by
      rw [← hW]
      have a := AtC.new (w1.alloc (.cells #[.slice none 0 0] 54)) 114 #[.func (.func 62) #[] #[.pointer (some ⟨w.heap.size, 0, none⟩), .pointer (some ⟨w1.heap.size, 0, none⟩), .pointer (some ⟨w1.heap.size + 1, 0, none⟩)]]
      rw [World.size_alloc] at a
      exact ⟨(HX1.out.alloc _).alloc _, (AtC.new w1 54 _).alloc _, a, (HB1.out.alloc HB1.out.size _).alloc (by have := HB1.out.size; simp; omega) _, by simp⟩
    have HWD := hide hWD
    have z0 : W.cell? ⟨w.heap.size, 0, none⟩ = some (.slice a1 xs.length c1) := hWD.1.cell 0
    have z1 : W.cell? ⟨w.heap.size, 1, none⟩ = some (.slice a2 ys.length c2) := hWD.1.cell 1
    have z2 : W.cell? ⟨w.heap.size, 2, none⟩ = some (.slice a3 is.length c3) := hWD.1.cell 2
    have z3 : W.cell? ⟨w.heap.size, 3, none⟩ = some (.slice a4 bs.length c4) := hWD.1.cell 3
    have g0 : W.cell? ⟨w1.heap.size + 1, 0, none⟩ = some (.func (.func 62) #[] #[.pointer (some ⟨w.heap.size, 0, none⟩), .pointer (some ⟨w1.heap.size, 0, none⟩), .pointer (some ⟨w1.heap.size + 1, 0, none⟩)]) := hWD.2.2.1.cell 0
    have CBR := hide (fun (V : World) (hv : Below W.heap.size W V) => branches_any (.slice a1 xs.length c1) (.slice a2 ys.length c2) (.slice a3 is.length c3) (.slice a4 bs.length c4) xs ys is bs V (HH.out.below (hWD.2.2.2.1.trans (hv.mono hWD.2.2.2.1.size)) (Nat.le_refl _)) HR.out)
    have CTE : Hid (∀ (V w3 : World) (bk : Nat) (v : Value), Below W.heap.size W V → AtC w3 bk 117 #[.string ⟨#[]⟩, .int .i64 1, .pointer none, v] → Grn is bs 4 w3 V.heap.size 1 v → Below V.heap.size V w3 → Calls Tryz.prog 62 #[.pointer (some ⟨bk, 0, none⟩), .string ⟨#[]⟩, .pointer (some ⟨w.heap.size, 0, none⟩), .pointer (some ⟨w1.heap.size, 0, none⟩), .pointer (some ⟨w1.heap.size + 1, 0, none⟩)] w3 fun e w' => e = .returned (.tuple #[]) ∧ Tl w3 w' w1.heap.size (tellI is bs 4 1 ⟨#[]⟩) ∧ Below w.heap.size w w3) := fun V w3 bk v hv hA hG hb => by
      obtain ⟨d1, d2, d3, d4, d5⟩ := HWD.out
      have b3 : Below W.heap.size W w3 := hv.trans (hb.mono hv.size)
      have bw : Below w.heap.size w w3 := d4.trans (b3.mono d4.size)
      have l2 := d2.over b3
      have s1 := hv.size
      have s2 := HB1.out.size
      have := tell_any (.slice a1 xs.length c1) (.slice a2 ys.length c2) (.slice a3 is.length c3) (.slice a4 bs.length c4) xs ys is bs HR.out w w3 HH.out bw w.heap.size w1.heap.size (w1.heap.size + 1) V.heap.size (d1.over b3) (d3.over b3) l2.lt (by omega) (atC_apart (d1.over b3) l2 (by decide)) (by omega) (by omega) 4 0 rfl bk ⟨#[]⟩ 1 none v ⟨#[]⟩ [] w3 hA (atC_apart hA l2 (by decide)) hG (Nat.zero_le _) (Nat.zero_le _) ⟨Chg.refl _ _, _, l2, NdO.nil _ _⟩
      rw [List.nil_append] at this
      exact this.mono fun e w' hh => ⟨hh.1, hh.2, bw⟩
    clear hWD hW hmf
    go_region_with (first | (go_at_call 65; refine (CBR.out _ (Below.refl _ _).drew).mono ?_; rintro e w3 ⟨bk, v3, rfl, A3, G3, B3⟩; have HTE := hide (CTE.out _ _ _ _ (Below.refl _ _).drew A3 G3 B3); have g0 : w3.cell? ⟨w1.heap.size + 1, 0, none⟩ = some (.func (.func 62) #[] #[.pointer (some ⟨w.heap.size, 0, none⟩), .pointer (some ⟨w1.heap.size, 0, none⟩), .pointer (some ⟨w1.heap.size + 1, 0, none⟩)]) := ((HWD.out.2.2.1.over (of_drew B3)).cell 0)) | (go_at_call 62; refine HTE.out.mono ?_; rintro e w4 ⟨rfl, T4, B4⟩))
    all_goals
      obtain ⟨lv, L1, N1⟩ := T4.l
      obtain ⟨la, lc, rfl⟩ := N1.form
      obtain ⟨RL, hRL⟩ : ∃ r, tellI is bs 4 1 ⟨#[]⟩ = r := ⟨_, rfl⟩
      rw [hRL] at N1 L1
      have k0 : w4.cell? ⟨w1.heap.size, 0, none⟩ = some (.slice la RL.length lc) := L1.cell 0
      have HF : Hid (NdO w4 w.heap.size (.slice la RL.length lc) RL ∧ Below w.heap.size w w4) := ⟨N1.mono B4.size, B4.trans (T4.g.below B4.size (fun k hk => by rw [hk]; exact HB1.out.size))⟩
      have HRL := hide hRL
      clear T4 L1 N1 B4 hRL HTE A3 G3 B3
      go_wp2
      go_ret
      exact ⟨_, RL, rfl, HF.out.1, HF.out.2, (fun e => by cases e), fun _ => HRL.out.symm⟩
end Go.Proofs.YtmjhgfkplolelaaGreat
/- Of the specification: l14Walk by its contract. -/
namespace Go.Proofs.YtmjhgfkplolelaaGreat.Kit
open Go.RowKit
theorem stc_at {w : World} {B : Nat} {v : Value} {l : List ByteArray} (h : ROwns w B 9 v (stc l)) (j : Nat) (hj : j < l.length) : ∃ g c, v = .slice (some ⟨g, 0, none⟩) l.length c ∧ w.cell? ⟨g, j, none⟩ = some (.string l[j]) ∧ g < w.heap.size := by
  obtain ⟨g, c, e, h1, -, -, h4, -⟩ := h.at j (by rw [stc_length]; exact hj)
  rw [stc_length] at e
  exact ⟨g, c, e, h1.trans (by simp [stc, hj]), h4⟩
theorem stc_form {w : World} {B : Nat} {v : Value} {l : List ByteArray} (h : ROwns w B 9 v (stc l)) : ∃ a c, v = .slice a l.length c := by
  obtain ⟨a, c, e, -⟩ := h.form
  rw [stc_length] at e
  exact ⟨a, c, e⟩
/-- A walk under way: names, nodes and names that were seen, each in memory of its own. -/
structure WkR (w wr : World) (D : Array Value) (nv ov sv : Value) (nl : List ByteArray) (ol : List Nd) (sl : List ByteArray) : Prop where
  b : Below w.heap.size w wr
  d : AtC wr w.heap.size 47 D
  n : ROwns wr (w.heap.size + 1) 9 nv (stc nl)
  o : NdO wr (w.heap.size + 1) ov ol
  s : ROwns wr (w.heap.size + 1) 9 sv (stc sl)
  no : ∀ k, ov.ownBlock = some k → nv.ownBlock ≠ some k
  ns : ∀ k, sv.ownBlock = some k → nv.ownBlock ≠ some k
  os : ∀ k, sv.ownBlock = some k → ov.ownBlock ≠ some k
namespace WkR
variable {w wr wr' : World} {D : Array Value} {nv ov sv ov' sv' : Value} {nl : List ByteArray} {ol ol' : List Nd} {sl sl' : List ByteArray}
theorem below (h : WkR w wr D nv ov sv nl ol sl) (hb : Below wr.heap.size wr wr') : WkR w wr' D nv ov sv nl ol sl :=
  ⟨h.b.trans (hb.mono h.b.size), h.d.over hb, h.n.below hb (Nat.le_refl _), h.o.below hb, h.s.below hb (Nat.le_refl _), h.no, h.ns, h.os⟩
theorem sz (h : WkR w wr D nv ov sv nl ol sl) : w.heap.size + 1 ≤ wr.heap.size := h.d.lt
theorem appO (h : WkR w wr D nv ov sv nl ol sl) (ho : NdO wr' (w.heap.size + 1) ov' ol') (hg : wr.grownBy wr' ov.ownBlock) (hv : ∀ k, ov'.ownBlock = some k → ov.ownBlock = some k ∨ wr.heap.size ≤ k) : WkR w wr' D nv ov' sv nl ol' sl :=
  ⟨h.b.grown hg h.b.size (fun k hk => by have := (h.o.lt k hk).1; omega), h.d.grown hg (fun e => by have := (h.o.lt _ e).1; omega), h.n.grown hg (fun k hk e => h.no k e hk), ho, h.s.grown hg (fun k hk e => h.os k hk e),
   fun k hk e => (hv k hk).elim (fun q => h.no k q e) (fun q => by have := (h.n.lt k e).2; omega), h.ns, fun k hk e => (hv k e).elim (fun q => h.os k hk q) (fun q => by have := (h.s.lt k hk).2; omega)⟩
theorem appS (h : WkR w wr D nv ov sv nl ol sl) (hs : ROwns wr' (w.heap.size + 1) 9 sv' (stc sl')) (hg : wr.grownBy wr' sv.ownBlock) (hv : ∀ k, sv'.ownBlock = some k → sv.ownBlock = some k ∨ wr.heap.size ≤ k) : WkR w wr' D nv ov sv' nl ol sl' :=
  ⟨h.b.grown hg h.b.size (fun k hk => by have := (h.s.lt k hk).1; omega), h.d.grown hg (fun e => by have := (h.s.lt _ e).1; omega), h.n.grown hg (fun k hk e => h.ns k e hk), h.o.of_heap (fun k hk => hg.block k (h.o.lt k hk).2 (fun e => h.os k e.symm hk)), hs,
   h.no, fun k hk e => (hv k hk).elim (fun q => h.ns k q e) (fun q => by have := (h.n.lt k e).2; omega), fun k hk e => (hv k hk).elim (fun q => h.os k q e) (fun q => by have := (h.o.lt k e).2; omega)⟩
theorem set (h : WkR w wr D nv ov sv nl ol sl) {bx : Nat} (hb : w.heap.size + 1 ≤ bx) (hn : ∀ k, (nv.ownBlock = some k ∨ ov.ownBlock = some k ∨ sv.ownBlock = some k) → k ≠ bx) (j : Nat) (u : Value) : WkR w (wr.setCell ⟨bx, j, none⟩ u) D nv ov sv nl ol sl :=
  have hh : ∀ k, k ≠ bx → (wr.setCell ⟨bx, j, none⟩ u).heap[k]? = wr.heap[k]? := fun k hk => heap_setCell_other wr ⟨bx, j, none⟩ k u hk
  ⟨h.b.setCell (p := ⟨bx, j, none⟩) (by show w.heap.size ≤ bx; omega) u, (hh _ (by omega)).trans h.d, h.n.of_heap (fun k hk => hh k (hn k (.inl hk))), h.o.of_heap (fun k hk => hh k (hn k (.inr (.inl hk)))), h.s.of_heap (fun k hk => hh k (hn k (.inr (.inr hk)))), h.no, h.ns, h.os⟩
theorem lts (h : WkR w wr D nv ov sv nl ol sl) : ∀ k, (nv.ownBlock = some k ∨ ov.ownBlock = some k ∨ sv.ownBlock = some k) → k < wr.heap.size := fun k hk => hk.elim (fun e => (h.n.lt k e).2) (fun e => e.elim (fun e => (h.o.lt k e).2) (fun e => (h.s.lt k e).2))
end WkR
end Go.Proofs.YtmjhgfkplolelaaGreat.Kit
namespace Go.Proofs.YtmjhgfkplolelaaGreat
open Go.RowKit Kit
theorem hasN_take {l : List ByteArray} {q : Nat} {nm : ByteArray} (h : q < l.length) : hasN (l.take (q + 1)) nm = (hasN (l.take q) nm || decide (l[q] = nm)) := by
  unfold hasN
  rw [List.take_succ_eq_append_getElem h, List.any_append, List.any_cons, List.any_nil, Bool.or_false]
theorem beq_dec (a b : ByteArray) : (a.toList == b.toList) = decide (a = b) := by
  by_cases h : a = b
  · subst h; simp
  · rw [beq_false h]; simp [h]
theorem findI_at {ns : List Sl} {k : Nat} (h : k < ns.length) (hn : hasN ((ns.take k).map (·.1)) ns[k].1 = false) : findI ns ns[k].1 = ns[k].2 := by
  have e : ns = ns.take k ++ ns[k] :: ns.drop (k + 1) := by rw [← List.drop_eq_getElem_cons h, List.take_append_drop]
  have h2 : findI (ns.take k ++ ns[k] :: ns.drop (k + 1)) ns[k].1 = ns[k].2 := by
    rw [findI_append, findI, if_pos rfl]
    intro s hs e
    have : ns[k].1 ∈ (ns.take k).map (·.1) := by rw [← e]; exact List.mem_map_of_mem hs
    rw [hasN_iff.2 this] at hn
    cases hn
  rw [← e] at h2
  exact h2
set_option maxRecDepth 100000 in
set_option maxHeartbeats 6400000 in
theorem walkS_any (dx dy iv bv : Value) (xs ys : List Bool) (is : List Ino) (bs : List Blk) (hR : RD is bs) (hG : Big 1048576 xs ys is bs) : ∀ (n D : Nat), D + n = 4 → ∀ (i : Int) (path : ByteArray) (w : World), DR w dx dy iv bv xs ys is bs → path.size ≤ 7 * D →
    Calls Tryz.prog 26 #[.agg #[dx, dy, iv, bv], .int .i64 i, .string path, .int .i64 (D : Int)] w fun e w' => ∃ v, e = .returned v ∧ NdO w' w.heap.size v (walkS is bs n i path) ∧ Below w.heap.size w w' := by
  intro n
  induction n with
  | zero =>
    intro D hn i path w h hp
    have hD : D = 4 := by omega
    subst hD
    have HL : Hid (∀ A, NdO ((w.alloc (.cells A 47)).alloc (.cells #[] 78)) w.heap.size (.slice (some ⟨w.heap.size + 1, 0, none⟩) 0 0) [] ∧ Below w.heap.size w ((w.alloc (.cells A 47)).alloc (.cells #[] 78))) := fun A => by
      have := NdO.lit0 (w.alloc (.cells A 47))
      rw [World.size_alloc] at this
      exact ⟨this.mono (by omega), ((Below.refl _ w).alloc (Nat.le_refl _) _).alloc (by simp) _⟩
    go_enter Tryz.func26, Tryz.ntmps26
    go_wp2
    go_ret
    exact ⟨_, rfl, (HL.out _).1, (HL.out _).2⟩
  | succ n ih =>
    intro D hn i path w h hp
    have IH := hide ih
    obtain ⟨a1, c1, a2, c2, a3, c3, a4, c4, rfl, rfl, rfl, rfl⟩ := h.form
    have HH := hide h
    have HRD := hide hR
    have HG := hide hG
    have hD4 : (D : Int) < 4 := by omega
    have HP := hide hp
    have HNM : Hid (∀ s ∈ named is bs i, s.1.size ≤ 6 ∧ ¬ s.1 = ⟨#[]⟩) := fun s hs => by
      have := nameOk_size (hR.name hs)
      exact ⟨this.2, size_ne (by omega)⟩
    have HN8 := hide (hR.named8 i)
    have HWS : Hid (walkS is bs (n + 1) i path = (firsts (named is bs i) []).flatMap (tellS is bs (walkS is bs n) path)) := rfl
    have CN := hide (fun W hd => names_any i (.slice a1 xs.length c1) (.slice a2 ys.length c2) (.slice a3 is.length c3) (.slice a4 bs.length c4) xs ys is bs W hd hR.hi (by rw [hR.hb]; decide) (fun q hq => Nat.le_of_eq (hR.two q hq)) hR.four)
    obtain ⟨ns, hns⟩ : ∃ ns, named is bs i = ns := ⟨_, rfl⟩
    obtain ⟨RES, hRES⟩ : ∃ r, walkS is bs (n + 1) i path = r := ⟨_, rfl⟩
    rw [hns] at HNM HN8 HWS CN
    rw [hRES] at HWS ⊢
    have HNS := hide hns
    clear h hR hG hp ih hns hRES
    have hdb : DR ((w.alloc (.cells #[.slice a1 xs.length c1, .slice a2 ys.length c2, .slice a3 is.length c3, .slice a4 bs.length c4] 47)).alloc (.cells #[] 78)) (.slice a1 xs.length c1) (.slice a2 ys.length c2) (.slice a3 is.length c3) (.slice a4 bs.length c4) xs ys is bs := (HH.out.alloc _).alloc _
    have HDB := hide hdb
    clear hdb
    go_enter Tryz.func26, Tryz.ntmps26
    go_wp2_with fail
    refine (CN.out _ HDB.out).mono ?_
    rintro e w1 ⟨nv, rfl, N1, B1⟩
    have HW1 : Hid (WkR w (w1.alloc (.cells #[] 9)) #[.slice a1 xs.length c1, .slice a2 ys.length c2, .slice a3 is.length c3, .slice a4 bs.length c4] nv (.slice (some ⟨w.heap.size + 1, 0, none⟩) 0 0) (.slice (some ⟨w1.heap.size, 0, none⟩) 0 0) (ns.map (·.1)) [] []) := by
      have s1 := B1.size
      simp at s1
      have o0 := NdO.lit0 (w.alloc (.cells #[.slice a1 xs.length c1, .slice a2 ys.length c2, .slice a3 is.length c3, .slice a4 bs.length c4] 47))
      rw [World.size_alloc] at o0
      have bb : Below w.heap.size w w1 := (((Below.refl _ w).alloc (Nat.le_refl _) _).alloc (by simp) _).trans (B1.mono (by simp; omega))
      have l0 := ROwns.lit0 w1 (w.heap.size + 1) 9 (by omega)
      have n1 : ROwns w1 (w.heap.size + 1 + 1) 9 nv (stc (ns.map (·.1))) := N1.base_le (by simp)
      refine ⟨bb.alloc bb.size _, (((AtC.new w 47 _).alloc _).over B1).alloc _, (n1.base_le (by omega)).alloc _, (o0.below B1).below ((Below.refl _ _).alloc (Nat.le_refl _) _), l0, fun k hk e => ?_, fun k hk e => ?_, fun k hk e => ?_⟩
      · simp [Value.ownBlock] at hk; have := (n1.lt k e).1; omega
      · simp [Value.ownBlock] at hk; have := (n1.lt k e).2; omega
      · simp [Value.ownBlock] at hk e; omega
    obtain ⟨na, nc, rfl⟩ := stc_form N1
    rw [List.length_map] at *
    clear N1 B1 HDB CN
    go_wp2_with fail
    go_loopw [9, 11, 12] (fun ov sv kv wr => ∃ (o' s' : Value) (k : Nat), o' = ov ∧ s' = sv ∧ k ≤ ns.length ∧ kv = .int .i64 k ∧ Hid (WkR w wr #[.slice a1 xs.length c1, .slice a2 ys.length c2, .slice a3 is.length c3, .slice a4 bs.length c4] (.slice na ns.length nc) o' s' (ns.map (·.1)) ((firsts (ns.take k) []).flatMap (tellS is bs (walkS is bs n) path)) ((ns.take k).map (·.1)))) (fun _ _ kv _ => ns.length - (intOf kv).toNat)
    case atStart => exact ⟨_, _, 0, rfl, rfl, Nat.zero_le _, rfl, HW1.out⟩
    case round =>
      obtain ⟨ov, sv, k, ho, hs, hk, rfl, HR⟩ := hrel
      subst ho hs
      clear HW1
      by_cases hlt : k < ns.length
      rotate_left
      · have k1 : ¬ ((k : Int) < (ns.length : Int)) := by omega
        go_wp2
        go_ret
        refine ⟨_, rfl, ?_, HR.out.b⟩
        have := HR.out.o
        rw [List.take_of_length_le (by omega), ← HWS.out] at this
        exact this.mono (by omega)
      have k1 : (k : Int) < (ns.length : Int) := by omega
      have k0 : (0 : Int) ≤ (k : Int) := by omega
      have k8 : k < 8 := by have := HN8.out; omega
      clear HWS
      obtain ⟨⟨nm, io⟩, hX⟩ : ∃ X, ns[k] = X := ⟨_, rfl⟩
      have HNMK : Hid (nm.size ≤ 6 ∧ ¬ nm = ⟨#[]⟩) := by have := HNM.out ns[k] (List.getElem_mem hlt); rw [hX] at this; exact this
      obtain ⟨gn, cn, e1, -, -⟩ := stc_at HR.out.n k (by rw [List.length_map]; exact hlt)
      rw [List.length_map] at e1
      simp only [Value.slice.injEq, true_and] at e1
      obtain ⟨rfl, rfl⟩ := e1
      have HNC : Hid (∀ W ov sv ol sl, WkR w W #[.slice a1 xs.length c1, .slice a2 ys.length c2, .slice a3 is.length c3, .slice a4 bs.length c4] (.slice (some ⟨gn, 0, none⟩) ns.length nc) ov sv (ns.map (·.1)) ol sl → W.cell? ⟨gn, k, none⟩ = some (.string nm) ∧ gn < W.heap.size) := fun W ov sv ol sl hh => by
        obtain ⟨g, c, e1, e2, e3⟩ := stc_at hh.n k (by rw [List.length_map]; exact hlt)
        simp only [Value.slice.injEq, Option.some.injEq, Addr.mk.injEq, and_true] at e1
        obtain ⟨rfl, -⟩ := e1
        rw [List.getElem_map, hX] at e2
        exact ⟨e2, e3⟩
      have HFT := hide (firsts_take hlt)
      have HMT : Hid ((ns.take (k + 1)).map (·.1) = (ns.take k).map (·.1) ++ [nm]) := by
        show (ns.take (k + 1)).map (·.1) = (ns.take k).map (·.1) ++ [nm]
        rw [List.take_succ_eq_append_getElem hlt, List.map_append, hX]; rfl
      have HFI : Hid (hasN ((ns.take k).map (·.1)) nm = false → findI ns nm = io) := fun hq => by
        have := findI_at hlt (by rw [hX]; exact hq)
        rw [hX] at this
        exact this
      have hslen : ((ns.take k).map (·.1)).length = k := by rw [List.length_map, List.length_take]; omega
      rw [hX] at HFT
      obtain ⟨sl, hsl⟩ : ∃ sl, (ns.take k).map (·.1) = sl := ⟨_, rfl⟩
      obtain ⟨ol, hol⟩ : ∃ ol, (firsts (ns.take k) []).flatMap (tellS is bs (walkS is bs n) path) = ol := ⟨_, rfl⟩
      rw [hsl] at HFT HMT HFI hslen HR
      rw [hol] at HR
      have HOL := hide hol
      have HSL8 : Hid (sl.length ≤ 8) := by show sl.length ≤ 8; omega
      have HOLN : Hid (ol.length ≤ 5000) := by
        have h1 := flatMap_len (m := 1 + deepN n) (firsts (ns.take k) []) (fun s _ => tellS_len (is := is) (bs := bs) (walkS_len HRD.out.named8 n) path s)
        have h2 := (firsts_sub (ns.take k) []).length_le
        rw [List.length_take] at h2
        have h3 := deepN_le (n := n + 1) (by omega)
        rw [deepN] at h3
        rw [HOL.out] at h1
        have h4 : (firsts (ns.take k) []).length * (1 + deepN n) ≤ 8 * (1 + deepN n) := Nat.mul_le_mul_right _ (by omega)
        show ol.length ≤ 5000
        omega
      have HHX := hide hX
      clear hX hsl hol hslen
      obtain ⟨sa, sc, rfl⟩ := stc_form HR.out.s
      go_wp2_with fail
      go_loopw [13, 14] (fun hv jv wr => ∃ q : Nat, q ≤ sl.length ∧ jv = .int .i64 q ∧ hv = .bool (hasN (sl.take q) nm) ∧ Hid (WkR w wr #[.slice a1 xs.length c1, .slice a2 ys.length c2, .slice a3 is.length c3, .slice a4 bs.length c4] (.slice (some ⟨gn, 0, none⟩) ns.length nc) ov (.slice sa sl.length sc) (ns.map (·.1)) ol sl)) (fun _ jv _ => sl.length - (intOf jv).toNat)
      case atStart => exact ⟨0, Nat.zero_le _, rfl, by simp [hasN], HR.out⟩
      case round =>
        obtain ⟨q, hq, rfl, rfl, HS⟩ := hrel
        clear HR
        have q0 : (0 : Int) ≤ (q : Int) := by omega
        have q8 : q ≤ 8 := by have := HSL8.out; omega
        by_cases hqs : q < sl.length
        · have q1 : (q : Int) < (sl.length : Int) := by omega
          have HT := hide (hasN_take (nm := nm) hqs)
          obtain ⟨gs, cs, e1, e2, -⟩ := stc_at HS.out.s q hqs
          simp only [Value.slice.injEq, true_and] at e1
          obtain ⟨rfl, rfl⟩ := e1
          obtain ⟨y2, -⟩ := HNC.out _ _ _ _ _ HS.out
          obtain ⟨t, ht⟩ : ∃ t, sl[q] = t := ⟨_, rfl⟩
          rw [ht] at e2 HT
          have hbd := beq_dec t nm
          clear ht
          cases hb : hasN (sl.take q) nm with
          | true =>
            have HBQ := hide hb
            clear hb hbd
            go_wp2
            go_quiet (fail)
            go_wp2
            go_roundw
            case rel => exact ⟨q + 1, by omega, by go_num, by rw [HT.out, HBQ.out]; rfl, HS.out.below (below_drewN (Below.refl _ _) _)⟩
            case measure => simp [intOf]; omega
          | false =>
            have HBQ := hide hb
            clear hb
            go_wp2
            go_quiet (fail)
            go_wp2
            go_roundw
            case rel => exact ⟨q + 1, by omega, by go_num, by rw [HT.out, HBQ.out]; rfl, HS.out.below (below_drewN (Below.refl _ _) _)⟩
            case measure => simp [intOf]; omega
        · have q1 : ¬ ((q : Int) < (sl.length : Int)) := by omega
          have hqe : sl.take q = sl := List.take_of_length_le (by omega)
          rw [hqe]
          clear hqe hq
          obtain ⟨y2, hgn⟩ := HNC.out _ _ _ _ _ HS.out
          have HT : Hid (ROwns (wr.alloc (.cells #[.string nm] 9)) (w.heap.size + 1) 9 (.slice sa sl.length sc) (stc sl)) := HS.out.s.alloc _
          have HK2 : Hid ((wr.alloc (.cells #[.string nm] 9)).cell? ⟨wr.heap.size, 0, none⟩ = some (.string nm)) := (AtC.new wr 9 #[.string nm]).cell 0
          have HSZ : Hid (w.heap.size + 1 ≤ (wr.alloc (.cells #[.string nm] 9)).heap.size) := by have := HS.out.sz; show _ ≤ _; simp; omega
          have HTL : Hid ((stc sl).length ≤ 100000000000) := by have := HSL8.out; show _ ≤ _; rw [stc_length]; omega
          have HAL : Hid (Below wr.heap.size wr (wr.alloc (.cells #[.string nm] 9))) := (Below.refl _ wr).alloc (Nat.le_refl _) _
          go_upto_region 15 with (at_builtin; refine wpList_step fun K' hK' => ?_; refine step_append_one _ rfl (.tmp 51) (.tmp 56) 32 rfl (w.heap.size + 1) 9 Tryz.w96 _ 16 Tryz.w9 rfl (by decide) (.slice sa sl.length sc) _ rfl HT.out HSZ.out wr.heap.size (.string nm) rfl HK2.out rfl HTL.out ?_; intro v12 w12 T12 G12 V12; refine hK' _ _ ?_; have HR12 := hide (And.intro T12 (And.intro G12 V12)); clear T12 G12 V12 hK')
          have HS3 : Hid (WkR w w12 #[.slice a1 xs.length c1, .slice a2 ys.length c2, .slice a3 is.length c3, .slice a4 bs.length c4] (.slice (some ⟨gn, 0, none⟩) ns.length nc) ov v12 (ns.map (·.1)) ol (sl ++ [nm])) := (HS.out.below HAL.out).appS (by rw [stc_append]; exact HR12.out.1) HR12.out.2.1 HR12.out.2.2
          clear HT HK2 HSZ HTL HAL HR12 y2 hgn HS q1
          obtain ⟨HAS, hHAS⟩ : ∃ r, hasN sl nm = r := ⟨_, rfl⟩
          rw [hHAS] at HFI HFT ⊢
          clear hHAS
          have CF := hide (fun W hd => find_any i nm (.slice a1 xs.length c1) (.slice a2 ys.length c2) (.slice a3 is.length c3) (.slice a4 bs.length c4) xs ys is bs W hd HG.out HNMK.out.2)
          rw [HNS.out] at CF
          obtain ⟨TO, hTO⟩ : ∃ r, findI ns nm = r := ⟨_, rfl⟩
          rw [hTO] at CF HFI
          clear hTO
          obtain ⟨y2, hgn⟩ := HNC.out _ _ _ _ _ HS3.out
          have z0 := HS3.out.d.cell 0
          have z1 := HS3.out.d.cell 1
          have z2 := HS3.out.d.cell 2
          have z3 := HS3.out.d.cell 3
          have z0' : w12.cell? ⟨w.heap.size, 0, none⟩ = some (.slice a1 xs.length c1) := z0
          have z1' : w12.cell? ⟨w.heap.size, 1, none⟩ = some (.slice a2 ys.length c2) := z1
          have z2' : w12.cell? ⟨w.heap.size, 2, none⟩ = some (.slice a3 is.length c3) := z2
          have z3' : w12.cell? ⟨w.heap.size, 3, none⟩ = some (.slice a4 bs.length c4) := z3
          clear z0 z1 z2 z3
          go_cut [15, 16, 17] from 27 to 130 (fun bv sv tv wx => (∃ b s : Int, bv = .int .i64 b ∧ sv = .int .i64 s) ∧ tv = .int .i64 TO ∧ WkR w wx #[.slice a1 xs.length c1, .slice a2 ys.length c2, .slice a3 is.length c3, .slice a4 bs.length c4] (.slice (some ⟨gn, 0, none⟩) ns.length nc) ov v12 (ns.map (·.1)) ol (sl ++ [nm]))
          case first =>
            have HDR := hide (fun W (hb : Below w12.drew.heap.size w12.drew W) => (HH.out.below (HS3.out.b.trans ((of_drew hb).mono HS3.out.b.size)) (Nat.le_refl _)))
            have HS4 : Hid (∀ W, Below w12.drew.heap.size w12.drew W → WkR w W #[.slice a1 xs.length c1, .slice a2 ys.length c2, .slice a3 is.length c3, .slice a4 bs.length c4] (.slice (some ⟨gn, 0, none⟩) ns.length nc) ov v12 (ns.map (·.1)) ol (sl ++ [nm])) := fun W hb => HS3.out.below (of_drew hb)
            go_region_with (go_at_call 51; refine (CF.out _ (HDR.out _ (Below.refl _ _))).mono ?_; rintro e w5 ⟨b5, s5, rfl, B5⟩)
            all_goals (try go_wp2_with fail)
            all_goals (go_meet; exact ⟨⟨_, _, rfl, rfl⟩, rfl, (HS4.out _ (Below.refl _ _)).below B5⟩)
          case rest =>
            obtain ⟨⟨b15, s16, rfl, rfl⟩, rfl, hW5⟩ := hcut
            have HS5 := hide hW5
            clear hW5 HS3 z0' z1' z2' z3' y2 hgn CF
            have x2 : wc.cell? ⟨w.heap.size, 2, none⟩ = some (.slice a3 is.length c3) := HS5.out.d.cell 2
            cases HAS with
            | true =>
              go_wp2
              go_roundw
              case rel =>
                refine ⟨_, _, k + 1, rfl, rfl, by omega, by go_num, hide ?_⟩
                have := HS5.out
                rw [← HMT.out, ← HOL.out] at this
                rw [HFT.out, if_pos rfl, List.append_nil]
                exact this
              case measure => simp [intOf]; omega
            | false =>
            have hto : TO = io := HFI.out rfl
            subst hto
            clear HFI
            rw [if_neg (by decide)] at HFT
            have HFL : Hid ((firsts (ns.take (k + 1)) []).flatMap (tellS is bs (walkS is bs n) path) = ol ++ tellS is bs (walkS is bs n) path (nm, TO)) := by
              show (firsts (ns.take (k + 1)) []).flatMap (tellS is bs (walkS is bs n) path) = ol ++ tellS is bs (walkS is bs n) path (nm, TO)
              rw [HFT.out, List.flatMap_append, HOL.out, List.flatMap_cons, List.flatMap_nil, List.append_nil]
            clear HFT HOL HHX
            cases hin : inB TO 1 is.length with
            | false =>
              have HIN := hide hin
              have HT0 : Hid (tellS is bs (walkS is bs n) path (nm, TO) = []) := by
                show tellS is bs (walkS is bs n) path (nm, TO) = []
                unfold tellS
                rw [kindAt_out hin, if_pos rfl]
              clear hin
              go_wp2_with (go_at_call 52; refine (l01In_any TO 1 _ _).mono ?_; rintro e w7 ⟨rfl, rfl⟩; rw [HIN.out])
              go_roundw
              case rel =>
                refine ⟨_, _, k + 1, rfl, rfl, by omega, by go_num, hide ?_⟩
                rw [HMT.out, HFL.out, HT0.out, List.append_nil]
                exact HS5.out
              case measure => simp [intOf]; omega
            | true =>
            have HIN := hide hin
            obtain ⟨h1, h2⟩ := inB_true hin
            obtain ⟨j, rfl⟩ : ∃ j : Nat, TO = (j : Int) + 1 := ⟨(TO - 1).toNat, by omega⟩
            have hj : j < is.length := by omega
            have hj8 : j < 8 := by have := HRD.out.hi; omega
            have hwj : IntKind.i64.wrap (j : Int) = (j : Int) := wrap_small _ (by omega) (by omega)
            have j0 : (0 : Int) ≤ (j : Int) := by omega
            have j1 : (j : Int) < (is.length : Int) := by omega
            obtain ⟨qa, qc, qe, -, qh⟩ := HH.out.i
            simp only [Value.slice.injEq, true_and] at qe
            obtain ⟨rfl, rfl⟩ := qe
            obtain ⟨g2, o2, ⟨t0, t1, t2⟩, rfl, hg2, r0, r1, r2, e0, e1, rr⟩ := qh j hj
            have hkk := (kindAt_in hj).1
            obtain ⟨⟨kd, ln, ps⟩, hX⟩ : ∃ X, is[j] = X := ⟨_, rfl⟩
            rw [hX] at e0 e1 rr hkk
            simp only at e0 e1 rr r0 r1 r2 hkk
            subst e0 e1
            have HKD := hide hkk
            have HK3 := hide (HRD.out.kd _ (List.getElem_mem hj))
            rw [hX] at HK3
            have HI0 : Hid (∀ W, Below w.heap.size w W → W.cell? ⟨g2, o2 + j * 3, none⟩ = some (.int .i64 kd)) := fun W b => (b.cell (p := ⟨g2, o2 + j * 3, none⟩) hg2).trans r0
            have y0 := HI0.out _ HS5.out.b
            clear qh hX rr r0 r1 r2 hin h1 h2 hkk
            by_cases hk0 : kd = 0
            · subst hk0
              have HT0 : Hid (tellS is bs (walkS is bs n) path (nm, (j : Int) + 1) = []) := by
                show tellS is bs (walkS is bs n) path (nm, (j : Int) + 1) = []
                unfold tellS
                rw [HKD.out, if_pos rfl]
              go_wp2_with (go_at_call 52; refine (l01In_any ((j : Int) + 1) 1 _ _).mono ?_; rintro e w7 ⟨rfl, rfl⟩; rw [HIN.out])
              go_roundw
              case rel =>
                refine ⟨_, _, k + 1, rfl, rfl, by omega, by go_num, hide ?_⟩
                rw [HMT.out, HFL.out, HT0.out, List.append_nil]
                exact HS5.out
              case measure => simp [intOf]; omega
            have hk0b : (kd == 0) = false := by simp [hk0]
            have hps : path.size ≤ 28 := by have := HP.out; omega
            have hns6 := HNMK.out.1
            obtain ⟨y2, hgn⟩ := HNC.out _ _ _ _ _ HS5.out
            go_upto_region 17 with (go_at_call 52; refine (l01In_any ((j : Int) + 1) 1 _ _).mono ?_; rintro e w7 ⟨rfl, hw7⟩; subst w7; rw [HIN.out])
            obtain ⟨w6, hw6⟩ : ∃ w6, w6 = wc := ⟨_, rfl⟩
            subst hw6
            have l6 : w.heap.size < w6.heap.size := HS5.out.sz
            have l7 : g2 < w6.heap.size := by omega
            have hgnw : ¬ gn = w6.heap.size := by omega
            have hg2w : ¬ g2 = w6.heap.size := by have := HS5.out.b.size; omega
            have hw6 : ¬ w.heap.size = w6.heap.size := by have := HS5.out.sz; omega
            have HAL6 : Hid (∀ A, Below w6.heap.size w6 (w6.drew.alloc (.cells A 78))) := fun A => (Below.refl _ w6).drew.alloc (Nat.le_refl _) _
            go_cut [18] from 27 to 130 (fun xv wx => xv = .pointer (some ⟨w6.heap.size, 0, none⟩) ∧ AtC wx w6.heap.size 78 #[.string (joinP path nm), .bool (kd == 2), .string ⟨#[]⟩, .string ⟨#[]⟩] ∧ Below w6.heap.size w6 wx)
            case first =>
              go_big_region
              all_goals (try go_wp2_with fail)
              all_goals (go_meet; exact ⟨rfl, (AtC.new w6 78 _).drew, ((Below.refl _ w6).alloc (Nat.le_refl _) _).drew⟩)
            case rest =>
              obtain ⟨rfl, AX, B7⟩ := hcut
              have HS7 := hide (HS5.out.below B7)
              have HAX := hide AX
              have HL5 := hide HS5.out.lts
              have p0 : wc.cell? ⟨w6.heap.size, 0, none⟩ = some (.string (joinP path nm)) := AX.cell 0
              have p1 : wc.cell? ⟨w6.heap.size, 1, none⟩ = some (.bool (kd == 2)) := AX.cell 1
              have p2 : wc.cell? ⟨w6.heap.size, 2, none⟩ = some (.string ⟨#[]⟩) := AX.cell 2
              have p3 : wc.cell? ⟨w6.heap.size, 3, none⟩ = some (.string ⟨#[]⟩) := AX.cell 3
              have lX : w6.heap.size < wc.heap.size := AX.lt
              clear AX B7 HS5 x2 y0 y2 hgn HAL6 hgnw hg2w hw6 l7
              by_cases hk2 : kd = 2
              · subst hk2
                have ht2 : ((2 : Int) == 2) = true := rfl
                rw [ht2] at p1 HAX
                have HTE : Hid (tellS is bs (walkS is bs n) path (nm, (j : Int) + 1) = (joinP path nm, true, ⟨#[]⟩, ⟨#[]⟩) :: walkS is bs n ((j : Int) + 1) (joinP path nm)) := by
                  show tellS is bs (walkS is bs n) path (nm, (j : Int) + 1) = (joinP path nm, true, ⟨#[]⟩, ⟨#[]⟩) :: walkS is bs n ((j : Int) + 1) (joinP path nm)
                  unfold tellS
                  rw [HKD.out, if_neg hk0, if_pos rfl]
                have HAL : Hid (Below wc.heap.size wc (wc.alloc (.cells #[.string (joinP path nm), .bool true, .string ⟨#[]⟩, .string ⟨#[]⟩] 78))) := (Below.refl _ wc).alloc (Nat.le_refl _) _
                have HT : Hid (NdO (wc.alloc (.cells #[.string (joinP path nm), .bool true, .string ⟨#[]⟩, .string ⟨#[]⟩] 78)) (w.heap.size + 1) ov ol) := HS7.out.o.below HAL.out
                have HK2 : Hid (AtC (wc.alloc (.cells #[.string (joinP path nm), .bool true, .string ⟨#[]⟩, .string ⟨#[]⟩] 78)) wc.heap.size 78 (ndRow (joinP path nm, true, ⟨#[]⟩, ⟨#[]⟩)).toArray) := AtC.new wc 78 _
                have HSZ : Hid (w.heap.size + 1 ≤ (wc.alloc (.cells #[.string (joinP path nm), .bool true, .string ⟨#[]⟩, .string ⟨#[]⟩] 78)).heap.size) := by have := HS7.out.sz; show _ ≤ _; simp; omega
                have HTL : Hid (ol.length ≤ 100000000000) := by have := HOLN.out; show _ ≤ _; omega
                go_upto_region 20 with (at_builtin; refine wpList_step fun K' hK' => ?_; refine step_append_node _ rfl (.tmp 106) (.tmp 108) rfl (w.heap.size + 1) ov ol rfl HT.out HSZ.out wc.heap.size (joinP path nm, true, ⟨#[]⟩, ⟨#[]⟩) rfl HK2.out HTL.out ?_; intro v13 w13 T13 G13 V13; refine hK' _ _ ?_; have HR13 := hide (And.intro T13 (And.intro G13 V13)); clear T13 G13 V13 hK')
                have HS8 : Hid (WkR w w13 #[.slice a1 xs.length c1, .slice a2 ys.length c2, .slice (some ⟨g2, o2, none⟩) is.length c3, .slice a4 bs.length c4] (.slice (some ⟨gn, 0, none⟩) ns.length nc) v13 v12 (ns.map (·.1)) (ol ++ [(joinP path nm, true, ⟨#[]⟩, ⟨#[]⟩)]) (sl ++ [nm])) := (HS7.out.below HAL.out).appO HR13.out.1 HR13.out.2.1 HR13.out.2.2
                have A8 : AtC w13 w6.heap.size 78 #[.string (joinP path nm), .bool true, .string ⟨#[]⟩, .string ⟨#[]⟩] := (HAX.out.over HAL.out).grown HR13.out.2.1 (fun e => by have := HL5.out _ (.inr (.inl e)); omega)
                clear p0 p1 p2 p3
                have p0 : w13.cell? ⟨w6.heap.size, 0, none⟩ = some (.string (joinP path nm)) := A8.cell 0
                have z0 : w13.cell? ⟨w.heap.size, 0, none⟩ = some (.slice a1 xs.length c1) := HS8.out.d.cell 0
                have z1 : w13.cell? ⟨w.heap.size, 1, none⟩ = some (.slice a2 ys.length c2) := HS8.out.d.cell 1
                have z2 : w13.cell? ⟨w.heap.size, 2, none⟩ = some (.slice (some ⟨g2, o2, none⟩) is.length c3) := HS8.out.d.cell 2
                have z3 : w13.cell? ⟨w.heap.size, 3, none⟩ = some (.slice a4 bs.length c4) := HS8.out.d.cell 3
                clear A8 HT HK2 HSZ HR13 HAL HS7 HAX
                have IH2 := hide (IH.out (D + 1) (by omega) ((j : Int) + 1) (joinP path nm) w13 (HH.out.below HS8.out.b (Nat.le_refl _)) (by rw [joinP_size]; have := HP.out; omega))
                rw [Int.natCast_add, Int.natCast_one] at IH2
                have HLW := hide (walkS_len HRD.out.named8 n ((j : Int) + 1) (joinP path nm))
                obtain ⟨ML, hML⟩ : ∃ l, walkS is bs n ((j : Int) + 1) (joinP path nm) = l := ⟨_, rfl⟩
                rw [hML] at IH2 HTE HLW
                clear hML
                obtain ⟨JP, hJP⟩ : ∃ l, joinP path nm = l := ⟨_, rfl⟩
                rw [hJP] at IH2 HTE HS8 p0
                clear hJP
                go_wp2_with fail
                refine IH2.out.mono ?_
                rintro e w14 ⟨v14, rfl, N14, B14⟩
                have HS9 := hide (HS8.out.below B14)
                have HN14 := hide N14
                have HSZ2 : Hid (w.heap.size + 1 ≤ w14.heap.size) := HS9.out.sz
                have HTL2 : Hid ((ol ++ [(JP, true, (⟨#[]⟩ : ByteArray), (⟨#[]⟩ : ByteArray))]).length ≤ 100000000000) := by have := HOLN.out; show _ ≤ _; simp; omega
                have HTL3 : Hid (ML.length ≤ 100000000) := by have := deepN_le (n := n) (by omega); have := HLW.out; show _ ≤ _; omega
                clear B14 N14 HS8 IH2 p0 z0 z1 z2 z3
                go_wp2_with (at_builtin; refine wpList_step fun K' hK' => ?_; refine step_append_nodes _ rfl (.tmp 110) (.tmp 117) rfl (w.heap.size + 1) v13 _ rfl HS9.out.o HSZ2.out w13.heap.size v14 _ rfl HN14.out HTL2.out HTL3.out ?_; intro v15 w15 T15 G15 V15; refine hK' _ _ ?_; have HR15 := hide (And.intro T15 (And.intro G15 V15)); clear T15 G15 V15 hK')
                go_roundw
                case rel =>
                  refine ⟨_, _, k + 1, rfl, rfl, by omega, by go_num, hide ?_⟩
                  rw [HMT.out, HFL.out, HTE.out]
                  have := HS9.out.appO HR15.out.1 HR15.out.2.1 HR15.out.2.2
                  rw [List.append_assoc] at this
                  exact this
                case measure => simp [intOf]; omega
              · have hk1 : kd = 1 := HK3.out.elim (fun e => absurd e hk0) (fun e => e.elim (fun e => e) (fun e => absurd e hk2))
                subst hk1
                have ht2 : ((1 : Int) == 2) = false := rfl
                rw [ht2] at p1 HAX
                have CT := hide (fun W hd => text_any ((j : Int) + 1) (.slice a1 xs.length c1) (.slice a2 ys.length c2) (.slice (some ⟨g2, o2, none⟩) is.length c3) (.slice a4 bs.length c4) xs ys is bs W hd (by rw [HRD.out.hi]; decide) (by rw [HRD.out.hb]; decide) HRD.out.two)
                have HTE : Hid (tellS is bs (walkS is bs n) path (nm, (j : Int) + 1) = [(joinP path nm, false, (textsAt is bs ((j : Int) + 1)).1, (textsAt is bs ((j : Int) + 1)).2)]) := by
                  show tellS is bs (walkS is bs n) path (nm, (j : Int) + 1) = _
                  unfold tellS
                  rw [HKD.out, if_neg hk0, if_neg hk2]
                obtain ⟨⟨tx1, tx2⟩, hTX⟩ : ∃ X, textsAt is bs ((j : Int) + 1) = X := ⟨_, rfl⟩
                rw [hTX] at CT HTE
                clear hTX
                have z0 : wc.cell? ⟨w.heap.size, 0, none⟩ = some (.slice a1 xs.length c1) := HS7.out.d.cell 0
                have z1 : wc.cell? ⟨w.heap.size, 1, none⟩ = some (.slice a2 ys.length c2) := HS7.out.d.cell 1
                have z2 : wc.cell? ⟨w.heap.size, 2, none⟩ = some (.slice (some ⟨g2, o2, none⟩) is.length c3) := HS7.out.d.cell 2
                have z3 : wc.cell? ⟨w.heap.size, 3, none⟩ = some (.slice a4 bs.length c4) := HS7.out.d.cell 3
                go_wp2_with fail
                refine (CT.out _ (HH.out.below HS7.out.b (Nat.le_refl _))).mono ?_
                rintro e w16 ⟨rfl, B16⟩
                clear p0 p1 p2 p3 z0 z1 z2 z3
                have HS8 := hide (HS7.out.below B16)
                have A8 := HAX.out.over B16
                have p0 : w16.cell? ⟨w6.heap.size, 0, none⟩ = some (.string (joinP path nm)) := A8.cell 0
                have p1 : w16.cell? ⟨w6.heap.size, 1, none⟩ = some (.bool false) := A8.cell 1
                have p2 : w16.cell? ⟨w6.heap.size, 2, none⟩ = some (.string ⟨#[]⟩) := A8.cell 2
                have p3 : w16.cell? ⟨w6.heap.size, 3, none⟩ = some (.string ⟨#[]⟩) := A8.cell 3
                have f2 := A8.frozen 2
                have f3 := A8.frozen 3
                have lX2 : w6.heap.size < w16.heap.size := A8.lt
                have HA8 := hide A8
                clear B16 A8 HS7 HAX CT
                obtain ⟨JP, hJP⟩ : ∃ l, joinP path nm = l := ⟨_, rfl⟩
                rw [hJP] at HTE HA8 p0
                clear hJP
                obtain ⟨W17, hW17⟩ : ∃ W17, (w16.setCell ⟨w6.heap.size, 2, none⟩ (.string tx1)).setCell ⟨w6.heap.size, 3, none⟩ (.string tx2) = W17 := ⟨_, rfl⟩
                have A9 : AtC W17 w6.heap.size 78 #[.string JP, .bool false, .string tx1, .string tx2] := by
                  rw [← hW17]
                  exact (HA8.out.set 2 (.string tx1)).set 3 (.string tx2)
                have HS9 : Hid (WkR w W17 #[.slice a1 xs.length c1, .slice a2 ys.length c2, .slice (some ⟨g2, o2, none⟩) is.length c3, .slice a4 bs.length c4] (.slice (some ⟨gn, 0, none⟩) ns.length nc) ov v12 (ns.map (·.1)) ol (sl ++ [nm])) := by
                  show WkR w W17 #[.slice a1 xs.length c1, .slice a2 ys.length c2, .slice (some ⟨g2, o2, none⟩) is.length c3, .slice a4 bs.length c4] (.slice (some ⟨gn, 0, none⟩) ns.length nc) ov v12 (ns.map (·.1)) ol (sl ++ [nm])
                  rw [← hW17]
                  exact (HS8.out.set (by omega) (fun k hk => by have := HL5.out k hk; omega) 2 (.string tx1)).set (by omega) (fun k hk => by have := HL5.out k hk; omega) 3 (.string tx2)
                have r0 : W17.cell? ⟨w6.heap.size, 0, none⟩ = some (.string JP) := A9.cell 0
                have r1 : W17.cell? ⟨w6.heap.size, 1, none⟩ = some (.bool false) := A9.cell 1
                have r2 : W17.cell? ⟨w6.heap.size, 2, none⟩ = some (.string tx1) := A9.cell 2
                have r3 : W17.cell? ⟨w6.heap.size, 3, none⟩ = some (.string tx2) := A9.cell 3
                have HAL : Hid (Below W17.heap.size W17 (W17.alloc (.cells #[.string JP, .bool false, .string tx1, .string tx2] 78))) := (Below.refl _ W17).alloc (Nat.le_refl _) _
                have HT : Hid (NdO (W17.alloc (.cells #[.string JP, .bool false, .string tx1, .string tx2] 78)) (w.heap.size + 1) ov ol) := HS9.out.o.below HAL.out
                have HK2 : Hid (AtC (W17.alloc (.cells #[.string JP, .bool false, .string tx1, .string tx2] 78)) W17.heap.size 78 (ndRow (JP, false, tx1, tx2)).toArray) := AtC.new W17 78 _
                have HSZ : Hid (w.heap.size + 1 ≤ (W17.alloc (.cells #[.string JP, .bool false, .string tx1, .string tx2] 78)).heap.size) := by have := HS9.out.sz; show _ ≤ _; simp; omega
                have HTL : Hid (ol.length ≤ 100000000000) := by have := HOLN.out; show _ ≤ _; omega
                clear A9 HS8 HA8
                go_wp2_with (at_builtin; refine wpList_step fun K' hK' => ?_; refine step_append_node _ rfl (.tmp 127) (.tmp 129) rfl (w.heap.size + 1) ov ol rfl HT.out HSZ.out W17.heap.size (JP, false, tx1, tx2) rfl HK2.out HTL.out ?_; intro v13 w13 T13 G13 V13; refine hK' _ _ ?_; have HR13 := hide (And.intro T13 (And.intro G13 V13)); clear T13 G13 V13 hK')
                go_roundw
                case rel =>
                  refine ⟨_, _, k + 1, rfl, rfl, by omega, by go_num, hide ?_⟩
                  rw [HMT.out, HFL.out, HTE.out]
                  exact (HS9.out.below HAL.out).appO HR13.out.1 HR13.out.2.1 HR13.out.2.2
                case measure => simp [intOf]; omega
end Go.Proofs.YtmjhgfkplolelaaGreat
/- Of the specification: TreeOf by its contract. -/
namespace Go.Proofs.YtmjhgfkplolelaaGreat
open Go.RowKit Kit
/-- In the order of paths. -/
def Srt (l : List Nd) : Prop := l.Pairwise (fun x y => bl y.1.toList x.1.toList = false)
theorem walkS_none {is : List Ino} {bs : List Blk} {n : Nat} {i : Int} {p : ByteArray} (h : ¬ kindAt is i = 2) : walkS is bs n i p = [] := by
  cases n with
  | zero => rfl
  | succ n => rw [walkS]; unfold named; rw [if_neg h]; rfl
set_option maxRecDepth 100000 in
set_option maxHeartbeats 1600000 in
theorem specTree_any (dx dy iv bv : Value) (xs ys : List Bool) (is : List Ino) (bs : List Blk) (w : World) (h : DR w dx dy iv bv xs ys is bs) (hG : Big 1048576 xs ys is bs) :
    Calls Tryz.prog 13 #[.agg #[dx, dy, iv, bv]] w fun e w' => ∃ v l, e = .returned v ∧ NdO w' w.heap.size v l ∧ Below w.heap.size w w' ∧ (diskOk xs ys is bs = false → l = []) ∧ (diskOk xs ys is bs = true → l.Perm (walkS is bs 4 1 ⟨#[]⟩) ∧ Srt l) := by
  obtain ⟨a1, c1, a2, c2, a3, c3, a4, c4, rfl, rfl, rfl, rfl⟩ := h.form
  have HH := hide h
  have HG := hide hG
  have CO := hide (fun W hd => specOk_disk (.slice a1 xs.length c1) (.slice a2 ys.length c2) (.slice a3 is.length c3) (.slice a4 bs.length c4) xs ys is bs W hd (fun j hj k hk => (hG.s j hj).2.1 k hk))
  clear h hG
  have x0 := (AtC.new w 47 #[.slice a1 xs.length c1, .slice a2 ys.length c2, .slice a3 is.length c3, .slice a4 bs.length c4])
  have HB0 : Hid (Below w.heap.size w (w.alloc (.cells #[.slice a1 xs.length c1, .slice a2 ys.length c2, .slice a3 is.length c3, .slice a4 bs.length c4] 47))) := (Below.refl _ w).alloc (Nat.le_refl _) _
  have HX0 := hide x0
  clear x0
  cases hok : diskOk xs ys is bs with
  | false =>
    rw [hok] at CO
    have HOK := hide hok
    clear hok
    go_enter Tryz.func13, Tryz.ntmps13
    go_wp2_with fail
    refine (CO.out _ (HH.out.alloc _)).mono ?_
    rintro e w1 ⟨rfl, B1⟩
    have HB1 := hide (HB0.out.trans (B1.mono HB0.out.size))
    clear B1
    have HL : Hid (NdO (w1.alloc (.cells #[] 78)) w.heap.size (.slice (some ⟨w1.heap.size, 0, none⟩) 0 0) []) := (NdO.lit0 w1).mono HB1.out.size
    go_wp2
    go_ret
    exact ⟨_, [], rfl, HL.out, HB1.out.alloc HB1.out.size _, (fun _ => rfl), (fun e => by cases e)⟩
  | true =>
    rw [hok] at CO
    have HR := hide (RD.of_ok hok)
    clear hok
    have hi0 : 0 < is.length := by rw [HR.out.hi]; decide
    obtain ⟨qa, qc, qe, -, qh⟩ := HH.out.i
    simp only [Value.slice.injEq, true_and] at qe
    obtain ⟨rfl, rfl⟩ := qe
    obtain ⟨g2, o2, ⟨t0, t1, t2⟩, rfl, hg2, r0, r1, r2, e0, e1, rr⟩ := qh 0 hi0
    have hkk := (kindAt_in hi0).1
    obtain ⟨⟨kd, ln, ps⟩, hX⟩ : ∃ X, is[0] = X := ⟨_, rfl⟩
    rw [hX] at e0 e1 rr hkk
    simp only [Nat.zero_mul, Nat.add_zero] at e0 e1 rr r0 r1 r2 hkk
    subst e0
    have HKD : Hid (kindAt is 1 = kd) := hkk
    have HI0 : Hid (∀ W, Below w.heap.size w W → W.cell? ⟨g2, o2, none⟩ = some (.int .i64 kd)) := fun W b => (b.cell (p := ⟨g2, o2, none⟩) hg2).trans r0
    clear qh hX rr r0 r1 r2 hkk e1
    go_enter Tryz.func13, Tryz.ntmps13
    go_wp2_with fail
    refine (CO.out _ (HH.out.alloc _)).mono ?_
    rintro e w1 ⟨rfl, B1⟩
    have HB1 := hide (HB0.out.trans (B1.mono HB0.out.size))
    have A1 := HX0.out.over B1
    have y0 := HI0.out _ HB1.out
    have z0 : w1.cell? ⟨w.heap.size, 0, none⟩ = some (.slice a1 xs.length c1) := A1.cell 0
    have z1 : w1.cell? ⟨w.heap.size, 1, none⟩ = some (.slice a2 ys.length c2) := A1.cell 1
    have z2 : w1.cell? ⟨w.heap.size, 2, none⟩ = some (.slice (some ⟨g2, o2, none⟩) is.length c3) := A1.cell 2
    have z3 : w1.cell? ⟨w.heap.size, 3, none⟩ = some (.slice a4 bs.length c4) := A1.cell 3
    have j1 : (0 : Int) < (is.length : Int) := by omega
    clear B1 A1 HX0
    by_cases hk2 : kd = 2
    · have HW := hide (walkS_any (.slice a1 xs.length c1) (.slice a2 ys.length c2) (.slice (some ⟨g2, o2, none⟩) is.length c3) (.slice a4 bs.length c4) xs ys is bs HR.out HG.out 4 0 rfl 1 ⟨#[]⟩ w1 (HH.out.below HB1.out (Nat.le_refl _)) (Nat.zero_le _))
      subst hk2
      have HLEN := hide (walkS_len HR.out.named8 4 1 ⟨#[]⟩)
      obtain ⟨WL, hWL⟩ : ∃ l, walkS is bs 4 1 ⟨#[]⟩ = l := ⟨_, rfl⟩
      rw [hWL] at HW HLEN
      have HWL := hide hWL
      clear hWL
      go_wp2_with fail
      refine HW.out.mono ?_
      rintro e w2 ⟨v2, rfl, N2, B2⟩
      have HB2 := hide (HB1.out.trans (B2.mono HB1.out.size))
      have HN2 := hide N2
      clear B2 N2 HW z0 z1 z2 z3 y0
      go_wp2_with fail
      refine (sorted_any w1.heap.size v2 WL w2 HN2.out (Nat.le_trans HLEN.out (by decide))).mono ?_
      rintro e w3 ⟨v3, l3, rfl, N3, P3, S3, B3⟩
      have HB3 := hide (HB2.out.trans (B3.mono HB2.out.size))
      have HN3 := hide (And.intro (N3.mono HB2.out.size) (And.intro P3 S3))
      clear B3 N3 P3 S3
      go_wp2
      go_ret
      exact ⟨_, l3, rfl, HN3.out.1, HB3.out, (fun e => by cases e), fun _ => ⟨by rw [HWL.out]; exact HN3.out.2.1, HN3.out.2.2⟩⟩
    · have hkb : (kd != 2) = true := by simp [hk2]
      have HWN : Hid (walkS is bs 4 1 ⟨#[]⟩ = []) := walkS_none (by rw [HKD.out]; exact hk2)
      have HL : Hid (NdO (w1.alloc (.cells #[] 78)) w.heap.size (.slice (some ⟨w1.heap.size, 0, none⟩) 0 0) []) := (NdO.lit0 w1).mono HB1.out.size
      go_wp2
      go_ret
      exact ⟨_, [], rfl, HL.out, HB1.out.alloc HB1.out.size _, (fun _ => rfl), fun _ => ⟨by rw [HWN.out], List.Pairwise.nil⟩⟩
end Go.Proofs.YtmjhgfkplolelaaGreat
/- What the program tells of a right disk is what the specification tells, in the order of paths. No Go function is spoken of. -/
namespace Go.Proofs.YtmjhgfkplolelaaGreat
open Go.RowKit Kit
theorem toList_inj {a b : ByteArray} (h : a.toList = b.toList) : a = b := by
  rw [ByteArray.toList_eq, ByteArray.toList_eq] at h
  exact ByteArray.ext (Array.toList_inj.1 h)
/-- Names in order, no two alike. -/
def SN (l : List Sl) : Prop := l.Pairwise fun s t => bl s.1.toList t.1.toList = true
theorem ins_has {s : Sl} : ∀ {l : List Sl}, SN l → (∃ t ∈ l, t.1 = s.1) → ins l s = l
  | [], _, ⟨t, h, _⟩ => by cases h
  | x :: r, hs, ⟨t, ht, e⟩ => by
    have h1 := List.pairwise_cons.1 hs
    rw [ins]
    by_cases c1 : bl s.1.toList x.1.toList = true
    · exfalso
      rcases List.mem_cons.1 ht with rfl | ht
      · rw [e, bl_irrefl] at c1; cases c1
      · have h2 := h1.1 t ht
        rw [e] at h2
        rw [bl_asymm h2] at c1; cases c1
    · rw [if_neg c1]
      by_cases c2 : bl x.1.toList s.1.toList = true
      · rw [if_pos c2, ins_has h1.2]
        rcases List.mem_cons.1 ht with rfl | ht
        · rw [e, bl_irrefl] at c2; cases c2
        · exact ⟨t, ht, e⟩
      · rw [if_neg c2]
theorem ins_new {s : Sl} : ∀ {l : List Sl}, ¬ (∃ t ∈ l, t.1 = s.1) → (ins l s).Perm (s :: l)
  | [], _ => by rw [ins]
  | x :: r, hn => by
    rw [ins]
    split
    · exact .refl _
    · split
      · exact ((ins_new (l := r) (fun ⟨t, ht, e⟩ => hn ⟨t, by simp [ht], e⟩)).cons x).trans (.swap s x r)
      · rename_i c1 c2
        exfalso
        refine hn ⟨x, by simp, toList_inj (bl_total ?_ ?_)⟩
        · simpa using c2
        · simpa using c1
theorem ins_sorted {s : Sl} : ∀ {l : List Sl}, SN l → SN (ins l s)
  | [], _ => by rw [ins]; exact List.pairwise_singleton _ _
  | x :: r, h => by
    have h1 := List.pairwise_cons.1 h
    rw [ins]
    by_cases c1 : bl s.1.toList x.1.toList = true
    · rw [if_pos c1]
      refine List.pairwise_cons.2 ⟨fun t ht => ?_, h⟩
      rcases List.mem_cons.1 ht with rfl | ht
      · exact c1
      · exact bl_trans c1 (h1.1 t ht)
    · rw [if_neg c1]
      by_cases c2 : bl x.1.toList s.1.toList = true
      · rw [if_pos c2]
        refine List.pairwise_cons.2 ⟨fun t ht => ?_, ins_sorted h1.2⟩
        rcases ins_mem ht with rfl | ht
        · exact c2
        · exact h1.1 t ht
      · rw [if_neg c2]; exact h
theorem foldl_firsts : ∀ (ns l : List Sl) (seen : List ByteArray), SN l → (∀ nm, (∃ t ∈ l, t.1 = nm) ↔ nm ∈ seen) → (ns.foldl ins l).Perm (l ++ firsts ns seen) ∧ SN (ns.foldl ins l)
  | [], l, seen, hs, _ => ⟨by simp [firsts], hs⟩
  | s :: r, l, seen, hs, hm => by
    rw [List.foldl_cons, firsts]
    cases hb : hasN seen s.1 with
    | true =>
      have hin := hasN_iff.1 hb
      rw [ins_has hs ((hm s.1).2 hin), if_pos rfl]
      refine foldl_firsts r l _ hs fun nm => ?_
      rw [hm nm]
      simp only [List.mem_append, List.mem_singleton]
      exact ⟨.inl, fun e => e.elim id (fun e => by rw [e]; exact hin)⟩
    | false =>
      have hni : ¬ s.1 ∈ seen := fun e => by rw [hasN_iff.2 e] at hb; cases hb
      have hp := ins_new (l := l) (s := s) (fun e => hni ((hm s.1).1 e))
      rw [if_neg (by decide)]
      have ih := foldl_firsts r (ins l s) (seen ++ [s.1]) (ins_sorted hs) fun nm => ?_
      · refine ⟨ih.1.trans ((hp.append_right _).trans ?_), ih.2⟩
        rw [List.cons_append]
        exact List.perm_middle.symm
      · simp only [List.mem_append, List.mem_singleton]
        rw [← hm nm]
        constructor
        · rintro ⟨t, ht, e⟩
          rcases List.mem_cons.1 (hp.mem_iff.1 ht) with rfl | h
          · exact .inr e.symm
          · exact .inl ⟨t, h, e⟩
        · rintro (⟨t, ht, e⟩ | e)
          · exact ⟨t, hp.mem_iff.2 (by simp [ht]), e⟩
          · exact ⟨s, hp.mem_iff.2 (by simp), e.symm⟩
theorem kids_firsts (is : List Ino) (bs : List Blk) (i : Int) : (kids is bs i).Perm (firsts (named is bs i) []) ∧ SN (kids is bs i) := by
  have := foldl_firsts (named is bs i) [] [] List.Pairwise.nil (fun nm => by simp)
  rw [List.nil_append] at this
  exact this
theorem flatMap_perm {α β : Type} {f g : α → List β} : ∀ (l : List α), (∀ x ∈ l, (f x).Perm (g x)) → (l.flatMap f).Perm (l.flatMap g)
  | [], _ => .refl _
  | x :: r, h => by
    rw [List.flatMap_cons, List.flatMap_cons]
    exact (h x (by simp)).append (flatMap_perm r fun y hy => h y (by simp [hy]))
theorem tellI_none {is : List Ino} {bs : List Blk} {n : Nat} {i : Int} {p : ByteArray} (h : ¬ kindAt is i = 2) : tellI is bs n i p = [] := by
  cases n with
  | zero => rfl
  | succ n => rw [tellI]; unfold kids named; rw [if_neg h]; rfl
theorem tellI_perm {is : List Ino} {bs : List Blk} (hR : RD is bs) : ∀ (n : Nat) (i : Int) (p : ByteArray), (tellI is bs n i p).Perm (walkS is bs n i p)
  | 0, _, _ => .refl _
  | n + 1, i, p => by
    rw [tellI, walkS]
    refine (List.Perm.flatMap_right _ (kids_firsts is bs i).1).trans (flatMap_perm _ fun s _ => ?_)
    unfold nodeI tellS
    by_cases h0 : kindAt is s.2 = 0
    · rw [if_pos h0, if_pos h0]
    · rw [if_neg h0, if_neg h0]
      by_cases h2 : kindAt is s.2 = 2
      · rw [if_pos h2]
        have ht : textsAt is bs s.2 = (⟨#[]⟩, ⟨#[]⟩) := by unfold textsAt; rw [if_neg (by rw [h2]; decide)]
        rw [ht, h2]
        exact (tellI_perm hR n _ _).cons _
      · rw [if_neg h2, tellI_none h2]
        have hb : (kindAt is s.2 == 2) = false := by simpa using h2
        rw [hb]
/-- A path behind another path and a mark. -/
theorem joinP_list (p nm : ByteArray) : (joinP p nm).toList = p.toList ++ (47 :: nm.toList) := by
  unfold joinP
  rw [ByteArray.toList_eq, ByteArray.toList_eq, ByteArray.toList_eq]
  simp [ByteArray.data_append]
/-- What comes behind a name: nothing, or a mark and more. -/
def Tail (r : List UInt8) : Prop := r = [] ∨ ∃ q, r = 47 :: q
theorem bl_app (c : List UInt8) {a b : List UInt8} (h : bl a b = true) : bl (c ++ a) (c ++ b) = true := by
  induction c with
  | nil => exact h
  | cons x c ih => exact bl_cons.2 (.inr ⟨rfl, ih⟩)
theorem bl_tail : ∀ {a b r q : List UInt8}, bl a b = true → (∀ x ∈ b, (47 : UInt8) < x) → Tail r → bl (a ++ r) (b ++ q) = true
  | [], [], _, _, h, _, _ => by simp [bl, Op.bytesLess] at h
  | [], y :: b, r, q, _, hb, hr => by
    rcases hr with rfl | ⟨r', rfl⟩
    · simp [bl, Op.bytesLess]
    · exact bl_cons.2 (.inl (hb y (by simp)))
  | _ :: _, [], _, _, h, _, _ => by simp [bl, Op.bytesLess] at h
  | x :: a, y :: b, r, q, h, hb, hr => by
    rcases bl_cons.1 h with h1 | ⟨rfl, h1⟩
    · exact bl_cons.2 (.inl h1)
    · exact bl_cons.2 (.inr ⟨rfl, bl_tail h1 (fun z hz => hb z (by simp [hz])) hr⟩)
theorem name_bytes {s : ByteArray} (h : nameOk s = true) : ∀ x ∈ s.toList, (47 : UInt8) < x := fun x hx => by
  rw [ByteArray.toList_eq] at hx
  obtain ⟨j, hj, rfl⟩ := List.getElem_of_mem hx
  have hj' : j < s.size := hj
  have h1 := (of_decide_eq_true h).2 j hj'
  have h2 : (s.data.toList[j]).toNat = (s[j]).toNat := rfl
  have h3 : 47 < (s[j]).toNat := by
    unfold chN at h1
    simp at h1
    omega
  exact UInt8.lt_iff_toNat_lt.2 (by rw [h2]; exact h3)
/-- Paths of what is told of a slot. -/
theorem node_path {is : List Ino} {bs : List Blk} {n : Nat} (ih : ∀ (i : Int) (p : ByteArray) (x : Nd), x ∈ tellI is bs n i p → ∃ q, x.1.toList = p.toList ++ 47 :: q) {p : ByteArray} {s : Sl} {x : Nd} (h : x ∈ nodeI is bs (tellI is bs n) p s) : ∃ r, Tail r ∧ x.1.toList = p.toList ++ (47 :: (s.1.toList ++ r)) := by
  unfold nodeI at h
  split at h
  · cases h
  · rcases List.mem_cons.1 h with rfl | h
    · exact ⟨[], .inl rfl, by rw [List.append_nil]; exact joinP_list p s.1⟩
    · obtain ⟨q, e⟩ := ih _ _ x h
      refine ⟨47 :: q, .inr ⟨q, rfl⟩, ?_⟩
      rw [e, joinP_list, List.append_assoc, List.cons_append]
theorem tell_path {is : List Ino} {bs : List Blk} : ∀ (n : Nat) (i : Int) (p : ByteArray) (x : Nd), x ∈ tellI is bs n i p → ∃ q, x.1.toList = p.toList ++ 47 :: q
  | 0, _, _, _, h => by cases h
  | n + 1, i, p, x, h => by
    rw [tellI] at h
    obtain ⟨s, -, hx⟩ := List.mem_flatMap.1 h
    obtain ⟨r, -, e⟩ := node_path (tell_path n) hx
    exact ⟨_, e⟩
theorem tell_sorted {is : List Ino} {bs : List Blk} (hR : RD is bs) : ∀ (n : Nat) (i : Int) (p : ByteArray), (tellI is bs n i p).Pairwise fun x y => bl x.1.toList y.1.toList = true
  | 0, _, _ => List.Pairwise.nil
  | n + 1, i, p => by
    rw [tellI]
    refine List.pairwise_flatMap.2 ⟨fun s _ => ?_, (kids_firsts is bs i).2.imp_of_mem fun {s t} hs ht hst x hx y hy => ?_⟩
    · unfold nodeI
      split
      · exact List.Pairwise.nil
      · refine List.pairwise_cons.2 ⟨fun y hy => ?_, tell_sorted hR n _ _⟩
        obtain ⟨q, e⟩ := tell_path n _ _ y hy
        rw [e]
        have : bl ((joinP p s.1).toList ++ []) ((joinP p s.1).toList ++ 47 :: q) = true := bl_app _ (by simp [bl, Op.bytesLess])
        rw [List.append_nil] at this
        exact this
    · obtain ⟨r, hr, e1⟩ := node_path (tell_path n) hx
      obtain ⟨q, -, e2⟩ := node_path (tell_path n) hy
      rw [e1, e2]
      refine bl_app _ (bl_cons.2 (.inr ⟨rfl, bl_tail hst (name_bytes (hR.name (kids_mem ht))) hr⟩))
/-- Sorted lists of the same nodes are the same. -/
theorem tree_same {is : List Ino} {bs : List Blk} (hR : RD is bs) {l : List Nd} {i : Int} {p : ByteArray} {n : Nat} (h1 : l.Perm (walkS is bs n i p)) (h2 : Srt l) : l = tellI is bs n i p := by
  have hs := tell_sorted hR n i p
  have hp : l.Perm (tellI is bs n i p) := h1.trans (tellI_perm hR n i p).symm
  have hd : ∀ a b, a ∈ tellI is bs n i p → b ∈ tellI is bs n i p → a.1.toList = b.1.toList → a = b := by
    intro a b ha hb e
    obtain ⟨j, hj, rfl⟩ := List.getElem_of_mem ha
    obtain ⟨k, hk, rfl⟩ := List.getElem_of_mem hb
    rcases Nat.lt_trichotomy j k with h | h | h
    · have := List.pairwise_iff_getElem.1 hs j k hj hk h
      rw [e, bl_irrefl] at this; cases this
    · subst h; rfl
    · have := List.pairwise_iff_getElem.1 hs k j hk hj h
      rw [e, bl_irrefl] at this; cases this
  refine List.Perm.eq_of_pairwise (le := fun (x y : Nd) => bl y.1.toList x.1.toList = false) (fun a b ha hb q1 q2 => hd a b (hp.mem_iff.1 ha) hb (bl_total q2 q1)) h2 (hs.imp fun h => bl_asymm h) hp
end Go.Proofs.YtmjhgfkplolelaaGreat
/- What a disk tells, of both sides; nodes that are owned are read. -/
namespace Go.Proofs.YtmjhgfkplolelaaGreat.Kit
open Go.RowKit
theorem NdO.rnd {w : World} {B : Nat} {v : Value} {ns : List Nd} (h : NdO w B v ns) : RNd w v ns := by
  have hr := h.1.rc
  rw [List.length_map] at hr
  obtain ⟨a, c, e, hc⟩ := hr
  refine ⟨a, c, e, fun j hj => ?_⟩
  have hf : (ns.map ndRow).flatten = ndcs ns := rfl
  rw [hf] at hc
  obtain ⟨g, off, ea, c0⟩ := hc (j * 4) (.string ns[j].1) ((ndcs_at ns j 0 hj (by decide)).trans rfl)
  obtain ⟨g1, o1, ea1, c1⟩ := hc (j * 4 + 1) (.bool ns[j].2.1) ((ndcs_at ns j 1 hj (by decide)).trans rfl)
  obtain ⟨g2, o2, ea2, c2⟩ := hc (j * 4 + 2) (.string ns[j].2.2.1) ((ndcs_at ns j 2 hj (by decide)).trans rfl)
  obtain ⟨g3, o3, ea3, c3⟩ := hc (j * 4 + 3) (.string ns[j].2.2.2) ((ndcs_at ns j 3 hj (by decide)).trans rfl)
  rw [ea] at ea1 ea2 ea3
  simp only [Option.some.injEq, Addr.mk.injEq, and_true] at ea1 ea2 ea3
  obtain ⟨rfl, rfl⟩ := ea1
  obtain ⟨rfl, rfl⟩ := ea2
  obtain ⟨rfl, rfl⟩ := ea3
  refine ⟨g, off, ea, ?_, c0, c1, c2, c3⟩
  by_cases hg : g < w.heap.size
  · exact hg
  · exfalso
    rw [World.cell?, Array.getElem?_eq_none (by simpa using Nat.le_of_not_lt hg)] at c0
    cases c0
end Go.Proofs.YtmjhgfkplolelaaGreat.Kit
namespace Go.Proofs.YtmjhgfkplolelaaGreat
open Go.RowKit Kit
/-- What a disk tells. -/
def treeL (xs ys : List Bool) (is : List Ino) (bs : List Blk) : List Nd := if diskOk xs ys is bs = true then tellI is bs 4 1 ⟨#[]⟩ else []
theorem treeL_len (xs ys : List Bool) (is : List Ino) (bs : List Blk) : (treeL xs ys is bs).length ≤ 4680 := by
  unfold treeL
  split
  · rename_i h
    exact Nat.le_trans (tellI_len (RD.of_ok h) 4 1 ⟨#[]⟩) (deepN_le (by decide))
  · simp
theorem specTree_is (dx dy iv bv : Value) (xs ys : List Bool) (is : List Ino) (bs : List Blk) (w : World) (h : DR w dx dy iv bv xs ys is bs) (hG : Big 1048576 xs ys is bs) :
    Calls Tryz.prog 13 #[.agg #[dx, dy, iv, bv]] w fun e w' => ∃ v, e = .returned v ∧ RNd w' v (treeL xs ys is bs) ∧ Below w.heap.size w w' :=
  (specTree_any dx dy iv bv xs ys is bs w h hG).mono fun e w' ⟨v, l, e1, h1, h2, h3, h4⟩ => by
    refine ⟨v, e1, ?_, h2⟩
    unfold treeL
    cases hk : diskOk xs ys is bs with
    | true =>
      obtain ⟨p, s⟩ := h4 hk
      rw [if_pos rfl, ← tree_same (RD.of_ok hk) p s]
      exact h1.rnd
    | false =>
      rw [if_neg (by decide), ← h3 hk]
      exact h1.rnd
theorem implTree_is (dx dy iv bv : Value) (xs ys : List Bool) (is : List Ino) (bs : List Blk) (w : World) (h : DR w dx dy iv bv xs ys is bs) (hG : Big 1048576 xs ys is bs) :
    Calls Tryz.prog 34 #[.agg #[dx, dy, iv, bv]] w fun e w' => ∃ v, e = .returned v ∧ RNd w' v (treeL xs ys is bs) ∧ Below w.heap.size w w' :=
  (implTree_any dx dy iv bv xs ys is bs w h hG).mono fun e w' ⟨v, l, e1, h1, h2, h3, h4⟩ => by
    refine ⟨v, e1, ?_, h2⟩
    unfold treeL
    cases hk : diskOk xs ys is bs with
    | true => rw [if_pos rfl, ← h4 hk]; exact h1.rnd
    | false => rw [if_neg (by decide), ← h3 hk]; exact h1.rnd
end Go.Proofs.YtmjhgfkplolelaaGreat
/- spec.MemTrue and impl.MemTrue by their contracts. -/
namespace Go.Proofs.YtmjhgfkplolelaaGreat.Kit
open Go.RowKit
/-- Nodes. -/
def MkNd (ds : List Nat) (l : List Nd) : Mk := .val ds (fun _ _ w v => RNd w v l) (fun _ _ _ _ _ h hb => h.below hb (Nat.le_refl _))
end Go.Proofs.YtmjhgfkplolelaaGreat.Kit
namespace Go.Proofs.YtmjhgfkplolelaaGreat
open Go.RowKit Kit
theorem eg32 : ∀ args w, (callFunc 32 args).run Tryz.prog w = .ok (.enter 32 args) w := enters_of Tryz.func32 (by kernel_rfl) rfl
set_option maxRecDepth 100000 in
set_option maxHeartbeats 6400000 in
theorem specMem_any (u v iv bv dv pv ov mv cv kv : Value) (D : WD) (w : World) (h : WR w u v iv bv dv pv ov mv cv kv D) (hB : LimW D) :
    Calls Tryz.prog 5 #[.agg #[u, v, iv, bv, dv, pv, .int .i64 D.m.nx, ov, mv, cv, kv]] w fun e w' => e = .returned (.bool (decide (D.md = (treeL D.m.xs D.m.ys D.m.is D.m.bs)))) ∧ Below w.heap.size w w' := by
  have H := hide h
  obtain ⟨a1, c1, a2, c2, a3, c3, a4, c4, a5, c5, a6, c6, a7, c7, a8, c8, a9, c9, a10, c10, rfl, rfl, rfl, rfl, rfl, rfl, rfl, rfl, rfl, rfl⟩ := h.form
  have HG := hide hB
  clear h hB
  have HW : Hid (∀ W, Below (w.alloc (.cells #[.slice a1 D.m.xs.length c1, .slice a2 D.m.ys.length c2, .slice a3 D.m.is.length c3, .slice a4 D.m.bs.length c4, .slice a5 D.m.fs.length c5, .slice a6 D.m.ds.length c6, .int .i64 D.m.nx, .slice a7 D.us.length c7, .slice a8 D.md.length c8, .slice a9 D.cs.length c9, .slice a10 D.kp.length c10] 56)).heap.size (w.alloc (.cells #[.slice a1 D.m.xs.length c1, .slice a2 D.m.ys.length c2, .slice a3 D.m.is.length c3, .slice a4 D.m.bs.length c4, .slice a5 D.m.fs.length c5, .slice a6 D.m.ds.length c6, .int .i64 D.m.nx, .slice a7 D.us.length c7, .slice a8 D.md.length c8, .slice a9 D.cs.length c9, .slice a10 D.kp.length c10] 56)) W → AtC W w.heap.size 56 #[.slice a1 D.m.xs.length c1, .slice a2 D.m.ys.length c2, .slice a3 D.m.is.length c3, .slice a4 D.m.bs.length c4, .slice a5 D.m.fs.length c5, .slice a6 D.m.ds.length c6, .int .i64 D.m.nx, .slice a7 D.us.length c7, .slice a8 D.md.length c8, .slice a9 D.cs.length c9, .slice a10 D.kp.length c10] ∧ Below w.heap.size w W) := fun W b => ⟨(AtC.new w 56 _).over b, ((Below.refl _ w).alloc (Nat.le_refl _) _).trans (b.mono (by simp))⟩
  have CT := hide (fun W (hb : Below w.heap.size w W) => specTree_is (.slice a1 D.m.xs.length c1) (.slice a2 D.m.ys.length c2) (.slice a3 D.m.is.length c3) (.slice a4 D.m.bs.length c4) D.m.xs D.m.ys D.m.is D.m.bs W (H.out.m.d.below hb (Nat.le_refl _)) HG.out.m.d)
  have CS := hide (fun W t (hb : Below w.heap.size w W) (ht : RNd W t (treeL D.m.xs D.m.ys D.m.is D.m.bs)) => specSame_any (.slice a8 D.md.length c8) t D.md (treeL D.m.xs D.m.ys D.m.is D.m.bs) W (H.out.a.below hb (Nat.le_refl _)) ht (Nat.le_trans HG.out.a (by decide)) (Nat.le_trans (treeL_len D.m.xs D.m.ys D.m.is D.m.bs) (by decide)))
  obtain ⟨R, hR⟩ : ∃ R, decide (D.md = (treeL D.m.xs D.m.ys D.m.is D.m.bs)) = R := ⟨_, rfl⟩
  simp only [hR] at CS ⊢
  clear hR
  obtain ⟨tl, htl⟩ : ∃ t, (treeL D.m.xs D.m.ys D.m.is D.m.bs) = t := ⟨_, rfl⟩
  simp only [htl] at CS CT
  clear htl
  go_enter Tryz.func5, Tryz.ntmps5
  go_upto_region 1 with fail
  refine wp_region_alt (by kernel_rfl) [0, 1, 2, 3, 4, 5, 6, 7] [8] [] (fun i => match i with | 0 => .const [] (.pointer (some ⟨w.heap.size, 8, none⟩)) | 1 => .const [0] (.slice a8 D.md.length c8) | 2 => .const [] (.pointer (some ⟨w.heap.size, 0, none⟩)) | 3 => .const [2] (.pointer (some ⟨w.heap.size, 0, none⟩)) | 4 => .const [3] (.pointer (some ⟨w.heap.size, 0, none⟩)) | 5 => .const [4] (.agg #[.slice a1 D.m.xs.length c1, .slice a2 D.m.ys.length c2, .slice a3 D.m.is.length c3, .slice a4 D.m.bs.length c4]) | 6 => MkNd [5] tl | 7 => .const [1, 6] (.bool R) | _ => .triv) (fun x => ⟨#[Value.agg #[.slice a1 D.m.xs.length c1, .slice a2 D.m.ys.length c2, .slice a3 D.m.is.length c3, .slice a4 D.m.bs.length c4, .slice a5 D.m.fs.length c5, .slice a6 D.m.ds.length c6, .int .i64 D.m.nx, .slice a7 D.us.length c7, .slice a8 D.md.length c8, .slice a9 D.cs.length c9, .slice a10 D.kp.length c10], Value.pointer (some ⟨w.heap.size, 0, none⟩), Value.bool false, x 0, x 1, x 2, x 3, x 4, x 5, x 6, x 7], []⟩) (fun i => match i with | 0 => undef | 1 => undef | 2 => undef | 3 => undef | 4 => undef | 5 => undef | 6 => undef | 7 => undef | _ => undef) rfl (makersOk2_of (by kernel_rfl) (by kernel_rfl)) (by kernel_rfl) (by kernel_rfl) (by kernel_rfl) rfl ?_ ?_ (by intro q hq; cases hq)
  · intro jo hj so x iw W hd hp K hK
    simp only [List.mem_cons, List.not_mem_nil, or_false] at hj
    rcases hj with rfl | rfl | rfl | rfl | rfl | rfl | rfl | rfl
    · refine wpOp_step (o := _) rfl fun K' hK' => ?_
      have HK := hide (fun (v : Value) (W' : World) h1 h2 => hK' _ _ (hK v W' h1 h2))
      simp only [upd, Nat.reduceEqDiff, if_true, if_false] at HK
      clear hK hK' hp hd
      go_simp
      exact HK.out _ _ (Below.refl _ _) rfl
    · refine wpOp_step (o := _) rfl fun K' hK' => ?_
      have HK := hide (fun (v : Value) (W' : World) h1 h2 => hK' _ _ (hK v W' h1 h2))
      simp only [upd, Nat.reduceEqDiff, if_true, if_false] at HK
      have e0 : x 0 = .pointer (some ⟨w.heap.size, 8, none⟩) := hp.post 0 (hd 0 (show 0 ∈ [0] from by decide))
      have bw := HW.out W (of_drew hp.bel)
      have k0 : W.cell? ⟨w.heap.size, 8, none⟩ = some (.slice a8 D.md.length c8) := bw.1.cell 8
      clear bw
      clear hK hK' hp hd
      simp only [e0] at HK ⊢
      go_simp
      exact HK.out _ _ (Below.refl _ _) rfl
    · refine wpOp_step (o := _) rfl fun K' hK' => ?_
      have HK := hide (fun (v : Value) (W' : World) h1 h2 => hK' _ _ (hK v W' h1 h2))
      simp only [upd, Nat.reduceEqDiff, if_true, if_false] at HK
      clear hK hK' hp hd
      go_simp
      exact HK.out _ _ (Below.refl _ _) rfl
    · refine wpOp_step (o := _) rfl fun K' hK' => ?_
      have HK := hide (fun (v : Value) (W' : World) h1 h2 => hK' _ _ (hK v W' h1 h2))
      simp only [upd, Nat.reduceEqDiff, if_true, if_false] at HK
      have e2 : x 2 = .pointer (some ⟨w.heap.size, 0, none⟩) := hp.post 2 (hd 2 (show 2 ∈ [2] from by decide))
      clear hK hK' hp hd
      simp only [e2] at HK ⊢
      go_simp
      exact HK.out _ _ (Below.refl _ _) rfl
    · refine wpOp_step (o := _) rfl fun K' hK' => ?_
      have HK := hide (fun (v : Value) (W' : World) h1 h2 => hK' _ _ (hK v W' h1 h2))
      simp only [upd, Nat.reduceEqDiff, if_true, if_false] at HK
      have e3 : x 3 = .pointer (some ⟨w.heap.size, 0, none⟩) := hp.post 3 (hd 3 (show 3 ∈ [3] from by decide))
      clear hK hK' hp hd
      simp only [e3] at HK ⊢
      go_simp
      exact HK.out _ _ (Below.refl _ _) rfl
    · refine wpOp_step (o := _) rfl fun K' hK' => ?_
      have HK := hide (fun (v : Value) (W' : World) h1 h2 => hK' _ _ (hK v W' h1 h2))
      simp only [upd, Nat.reduceEqDiff, if_true, if_false] at HK
      have e4 : x 4 = .pointer (some ⟨w.heap.size, 0, none⟩) := hp.post 4 (hd 4 (show 4 ∈ [4] from by decide))
      have bw := HW.out W (of_drew hp.bel)
      have k0 : W.cell? ⟨w.heap.size, 0, none⟩ = some (.slice a1 D.m.xs.length c1) := bw.1.cell 0
      have k1 : W.cell? ⟨w.heap.size, 1, none⟩ = some (.slice a2 D.m.ys.length c2) := bw.1.cell 1
      have k2 : W.cell? ⟨w.heap.size, 2, none⟩ = some (.slice a3 D.m.is.length c3) := bw.1.cell 2
      have k3 : W.cell? ⟨w.heap.size, 3, none⟩ = some (.slice a4 D.m.bs.length c4) := bw.1.cell 3
      clear bw
      clear hK hK' hp hd
      simp only [e4] at HK ⊢
      go_simp
      exact HK.out _ _ (Below.refl _ _) rfl
    · refine wpOp_step (o := _) rfl fun K' hK' => ?_
      have HK := hide (fun (v : Value) (W' : World) h1 h2 => hK' _ _ (hK v W' h1 h2))
      simp only [upd, Nat.reduceEqDiff, if_true, if_false] at HK
      have e5 : x 5 = .agg #[.slice a1 D.m.xs.length c1, .slice a2 D.m.ys.length c2, .slice a3 D.m.is.length c3, .slice a4 D.m.bs.length c4] := hp.post 5 (hd 5 (show 5 ∈ [5] from by decide))
      have bw := HW.out W (of_drew hp.bel)
      clear hK hK' hp hd
      simp only [e5] at HK ⊢
      clear e5
      go_simp
      refine (CT.out W bw.2).mono ?_
      rintro e w6 ⟨v, rfl, R6, B6⟩
      go_simp
      exact HK.out _ _ B6 R6
    · refine wpOp_step (o := _) rfl fun K' hK' => ?_
      have HK := hide (fun (v : Value) (W' : World) h1 h2 => hK' _ _ (hK v W' h1 h2))
      simp only [upd, Nat.reduceEqDiff, if_true, if_false] at HK
      have e1 : x 1 = .slice a8 D.md.length c8 := hp.post 1 (hd 1 (show 1 ∈ [1, 6] from by decide))
      have e6 : RNd W (x 6) tl := hp.post 6 (hd 6 (show 6 ∈ [1, 6] from by decide))
      have bw := HW.out W (of_drew hp.bel)
      clear hK hK' hp hd
      simp only [e1] at HK ⊢
      clear e1
      go_simp
      refine (CS.out W _ bw.2 e6).mono ?_
      rintro e w6 ⟨rfl, B6⟩
      go_simp
      exact HK.out _ _ B6 rfl
  · intro x iw W hp
    have e7 : x 7 = .bool R := hp.post 7 (by decide)
    have HQ := hide (HW.out W (of_drew hp.bel)).2
    simp only [e7]
    clear hp e7
    go_wp2_with fail
    try rw [List.filterMap_nil]
    try go_wp2
    go_ret
    exact ⟨rfl, HQ.out⟩
set_option maxRecDepth 100000 in
set_option maxHeartbeats 6400000 in
theorem told_any (u v iv bv dv pv ov mv cv kv : Value) (D : WD) (w : World) (h : WR w u v iv bv dv pv ov mv cv kv D) (hB : LimW D) :
    Calls Tryz.prog 32 #[.agg #[u, v, iv, bv, dv, pv, .int .i64 D.m.nx, ov, mv, cv, kv]] w fun e w' => e = .returned (.bool (decide (D.md = (treeL D.m.xs D.m.ys D.m.is D.m.bs)))) ∧ Below w.heap.size w w' := by
  have H := hide h
  obtain ⟨a1, c1, a2, c2, a3, c3, a4, c4, a5, c5, a6, c6, a7, c7, a8, c8, a9, c9, a10, c10, rfl, rfl, rfl, rfl, rfl, rfl, rfl, rfl, rfl, rfl⟩ := h.form
  have HG := hide hB
  clear h hB
  have HW : Hid (∀ W, Below (w.alloc (.cells #[.slice a1 D.m.xs.length c1, .slice a2 D.m.ys.length c2, .slice a3 D.m.is.length c3, .slice a4 D.m.bs.length c4, .slice a5 D.m.fs.length c5, .slice a6 D.m.ds.length c6, .int .i64 D.m.nx, .slice a7 D.us.length c7, .slice a8 D.md.length c8, .slice a9 D.cs.length c9, .slice a10 D.kp.length c10] 56)).heap.size (w.alloc (.cells #[.slice a1 D.m.xs.length c1, .slice a2 D.m.ys.length c2, .slice a3 D.m.is.length c3, .slice a4 D.m.bs.length c4, .slice a5 D.m.fs.length c5, .slice a6 D.m.ds.length c6, .int .i64 D.m.nx, .slice a7 D.us.length c7, .slice a8 D.md.length c8, .slice a9 D.cs.length c9, .slice a10 D.kp.length c10] 56)) W → AtC W w.heap.size 56 #[.slice a1 D.m.xs.length c1, .slice a2 D.m.ys.length c2, .slice a3 D.m.is.length c3, .slice a4 D.m.bs.length c4, .slice a5 D.m.fs.length c5, .slice a6 D.m.ds.length c6, .int .i64 D.m.nx, .slice a7 D.us.length c7, .slice a8 D.md.length c8, .slice a9 D.cs.length c9, .slice a10 D.kp.length c10] ∧ Below w.heap.size w W) := fun W b => ⟨(AtC.new w 56 _).over b, ((Below.refl _ w).alloc (Nat.le_refl _) _).trans (b.mono (by simp))⟩
  have CT := hide (fun W (hb : Below w.heap.size w W) => implTree_is (.slice a1 D.m.xs.length c1) (.slice a2 D.m.ys.length c2) (.slice a3 D.m.is.length c3) (.slice a4 D.m.bs.length c4) D.m.xs D.m.ys D.m.is D.m.bs W (H.out.m.d.below hb (Nat.le_refl _)) HG.out.m.d)
  have CS := hide (fun W t (hb : Below w.heap.size w W) (ht : RNd W t (treeL D.m.xs D.m.ys D.m.is D.m.bs)) => implSame_any (.slice a8 D.md.length c8) t D.md (treeL D.m.xs D.m.ys D.m.is D.m.bs) W (H.out.a.below hb (Nat.le_refl _)) ht (Nat.le_trans HG.out.a (by decide)) (Nat.le_trans (treeL_len D.m.xs D.m.ys D.m.is D.m.bs) (by decide)))
  obtain ⟨R, hR⟩ : ∃ R, decide (D.md = (treeL D.m.xs D.m.ys D.m.is D.m.bs)) = R := ⟨_, rfl⟩
  simp only [hR] at CS ⊢
  clear hR
  obtain ⟨tl, htl⟩ : ∃ t, (treeL D.m.xs D.m.ys D.m.is D.m.bs) = t := ⟨_, rfl⟩
  simp only [htl] at CS CT
  clear htl
  go_enter Tryz.func32, Tryz.ntmps32
  go_upto_region 1 with fail
  refine wp_region_alt (by kernel_rfl) [0, 1, 2, 3, 4, 5, 6, 7] [8] [] (fun i => match i with | 0 => .const [] (.pointer (some ⟨w.heap.size, 8, none⟩)) | 1 => .const [0] (.slice a8 D.md.length c8) | 2 => .const [] (.pointer (some ⟨w.heap.size, 0, none⟩)) | 3 => .const [2] (.pointer (some ⟨w.heap.size, 0, none⟩)) | 4 => .const [3] (.pointer (some ⟨w.heap.size, 0, none⟩)) | 5 => .const [4] (.agg #[.slice a1 D.m.xs.length c1, .slice a2 D.m.ys.length c2, .slice a3 D.m.is.length c3, .slice a4 D.m.bs.length c4]) | 6 => MkNd [5] tl | 7 => .const [1, 6] (.bool R) | _ => .triv) (fun x => ⟨#[Value.agg #[.slice a1 D.m.xs.length c1, .slice a2 D.m.ys.length c2, .slice a3 D.m.is.length c3, .slice a4 D.m.bs.length c4, .slice a5 D.m.fs.length c5, .slice a6 D.m.ds.length c6, .int .i64 D.m.nx, .slice a7 D.us.length c7, .slice a8 D.md.length c8, .slice a9 D.cs.length c9, .slice a10 D.kp.length c10], Value.pointer (some ⟨w.heap.size, 0, none⟩), Value.bool false, x 0, x 1, x 2, x 3, x 4, x 5, x 6, x 7], []⟩) (fun i => match i with | 0 => undef | 1 => undef | 2 => undef | 3 => undef | 4 => undef | 5 => undef | 6 => undef | 7 => undef | _ => undef) rfl (makersOk2_of (by kernel_rfl) (by kernel_rfl)) (by kernel_rfl) (by kernel_rfl) (by kernel_rfl) rfl ?_ ?_ (by intro q hq; cases hq)
  · intro jo hj so x iw W hd hp K hK
    simp only [List.mem_cons, List.not_mem_nil, or_false] at hj
    rcases hj with rfl | rfl | rfl | rfl | rfl | rfl | rfl | rfl
    · refine wpOp_step (o := _) rfl fun K' hK' => ?_
      have HK := hide (fun (v : Value) (W' : World) h1 h2 => hK' _ _ (hK v W' h1 h2))
      simp only [upd, Nat.reduceEqDiff, if_true, if_false] at HK
      clear hK hK' hp hd
      go_simp
      exact HK.out _ _ (Below.refl _ _) rfl
    · refine wpOp_step (o := _) rfl fun K' hK' => ?_
      have HK := hide (fun (v : Value) (W' : World) h1 h2 => hK' _ _ (hK v W' h1 h2))
      simp only [upd, Nat.reduceEqDiff, if_true, if_false] at HK
      have e0 : x 0 = .pointer (some ⟨w.heap.size, 8, none⟩) := hp.post 0 (hd 0 (show 0 ∈ [0] from by decide))
      have bw := HW.out W (of_drew hp.bel)
      have k0 : W.cell? ⟨w.heap.size, 8, none⟩ = some (.slice a8 D.md.length c8) := bw.1.cell 8
      clear bw
      clear hK hK' hp hd
      simp only [e0] at HK ⊢
      go_simp
      exact HK.out _ _ (Below.refl _ _) rfl
    · refine wpOp_step (o := _) rfl fun K' hK' => ?_
      have HK := hide (fun (v : Value) (W' : World) h1 h2 => hK' _ _ (hK v W' h1 h2))
      simp only [upd, Nat.reduceEqDiff, if_true, if_false] at HK
      clear hK hK' hp hd
      go_simp
      exact HK.out _ _ (Below.refl _ _) rfl
    · refine wpOp_step (o := _) rfl fun K' hK' => ?_
      have HK := hide (fun (v : Value) (W' : World) h1 h2 => hK' _ _ (hK v W' h1 h2))
      simp only [upd, Nat.reduceEqDiff, if_true, if_false] at HK
      have e2 : x 2 = .pointer (some ⟨w.heap.size, 0, none⟩) := hp.post 2 (hd 2 (show 2 ∈ [2] from by decide))
      clear hK hK' hp hd
      simp only [e2] at HK ⊢
      go_simp
      exact HK.out _ _ (Below.refl _ _) rfl
    · refine wpOp_step (o := _) rfl fun K' hK' => ?_
      have HK := hide (fun (v : Value) (W' : World) h1 h2 => hK' _ _ (hK v W' h1 h2))
      simp only [upd, Nat.reduceEqDiff, if_true, if_false] at HK
      have e3 : x 3 = .pointer (some ⟨w.heap.size, 0, none⟩) := hp.post 3 (hd 3 (show 3 ∈ [3] from by decide))
      clear hK hK' hp hd
      simp only [e3] at HK ⊢
      go_simp
      exact HK.out _ _ (Below.refl _ _) rfl
    · refine wpOp_step (o := _) rfl fun K' hK' => ?_
      have HK := hide (fun (v : Value) (W' : World) h1 h2 => hK' _ _ (hK v W' h1 h2))
      simp only [upd, Nat.reduceEqDiff, if_true, if_false] at HK
      have e4 : x 4 = .pointer (some ⟨w.heap.size, 0, none⟩) := hp.post 4 (hd 4 (show 4 ∈ [4] from by decide))
      have bw := HW.out W (of_drew hp.bel)
      have k0 : W.cell? ⟨w.heap.size, 0, none⟩ = some (.slice a1 D.m.xs.length c1) := bw.1.cell 0
      have k1 : W.cell? ⟨w.heap.size, 1, none⟩ = some (.slice a2 D.m.ys.length c2) := bw.1.cell 1
      have k2 : W.cell? ⟨w.heap.size, 2, none⟩ = some (.slice a3 D.m.is.length c3) := bw.1.cell 2
      have k3 : W.cell? ⟨w.heap.size, 3, none⟩ = some (.slice a4 D.m.bs.length c4) := bw.1.cell 3
      clear bw
      clear hK hK' hp hd
      simp only [e4] at HK ⊢
      go_simp
      exact HK.out _ _ (Below.refl _ _) rfl
    · refine wpOp_step (o := _) rfl fun K' hK' => ?_
      have HK := hide (fun (v : Value) (W' : World) h1 h2 => hK' _ _ (hK v W' h1 h2))
      simp only [upd, Nat.reduceEqDiff, if_true, if_false] at HK
      have e5 : x 5 = .agg #[.slice a1 D.m.xs.length c1, .slice a2 D.m.ys.length c2, .slice a3 D.m.is.length c3, .slice a4 D.m.bs.length c4] := hp.post 5 (hd 5 (show 5 ∈ [5] from by decide))
      have bw := HW.out W (of_drew hp.bel)
      clear hK hK' hp hd
      simp only [e5] at HK ⊢
      clear e5
      go_simp
      refine (CT.out W bw.2).mono ?_
      rintro e w6 ⟨v, rfl, R6, B6⟩
      go_simp
      exact HK.out _ _ B6 R6
    · refine wpOp_step (o := _) rfl fun K' hK' => ?_
      have HK := hide (fun (v : Value) (W' : World) h1 h2 => hK' _ _ (hK v W' h1 h2))
      simp only [upd, Nat.reduceEqDiff, if_true, if_false] at HK
      have e1 : x 1 = .slice a8 D.md.length c8 := hp.post 1 (hd 1 (show 1 ∈ [1, 6] from by decide))
      have e6 : RNd W (x 6) tl := hp.post 6 (hd 6 (show 6 ∈ [1, 6] from by decide))
      have bw := HW.out W (of_drew hp.bel)
      clear hK hK' hp hd
      simp only [e1] at HK ⊢
      clear e1
      go_simp
      refine (CS.out W _ bw.2 e6).mono ?_
      rintro e w6 ⟨rfl, B6⟩
      go_simp
      exact HK.out _ _ B6 rfl
  · intro x iw W hp
    have e7 : x 7 = .bool R := hp.post 7 (by decide)
    have HQ := hide (HW.out W (of_drew hp.bel)).2
    simp only [e7]
    clear hp e7
    go_wp2_with fail
    try rw [List.filterMap_nil]
    try go_wp2
    go_ret
    exact ⟨rfl, HQ.out⟩
set_option maxRecDepth 100000 in
theorem truths_any (w : World) : Calls Tryz.prog 17 #[] w fun e w' => e = .returned (.agg #[.func (.func 30) #[] #[], .func (.func 32) #[] #[], .func (.func 35) #[] #[], .func (.func 38) #[] #[]]) ∧ Below w.heap.size w w' := by
  go_enter Tryz.func17, Tryz.ntmps17
  go_wp2
  exact bodyPost_ret (v := .agg #[.func (.func 30) #[] #[], .func (.func 32) #[] #[], .func (.func 35) #[] #[], .func (.func 38) #[] #[]]) (by simp [results, go_sem]) rfl ⟨rfl, (Below.refl _ w).alloc (Nat.le_refl _) _⟩
set_option maxRecDepth 100000 in
set_option maxHeartbeats 6400000 in
theorem implMem_any (u v iv bv dv pv ov mv cv kv : Value) (D : WD) (w : World) (h : WR w u v iv bv dv pv ov mv cv kv D) (hB : LimW D) :
    Calls Tryz.prog 7 #[.agg #[u, v, iv, bv, dv, pv, .int .i64 D.m.nx, ov, mv, cv, kv]] w fun e w' => e = .returned (.bool (decide (D.md = (treeL D.m.xs D.m.ys D.m.is D.m.bs)))) ∧ Below w.heap.size w w' := by
  have H := hide h
  obtain ⟨a1, c1, a2, c2, a3, c3, a4, c4, a5, c5, a6, c6, a7, c7, a8, c8, a9, c9, a10, c10, rfl, rfl, rfl, rfl, rfl, rfl, rfl, rfl, rfl, rfl⟩ := h.form
  have HG := hide hB
  clear h hB
  have HW : Hid (∀ W, Below (w.alloc (.cells #[.slice a1 D.m.xs.length c1, .slice a2 D.m.ys.length c2, .slice a3 D.m.is.length c3, .slice a4 D.m.bs.length c4, .slice a5 D.m.fs.length c5, .slice a6 D.m.ds.length c6, .int .i64 D.m.nx, .slice a7 D.us.length c7, .slice a8 D.md.length c8, .slice a9 D.cs.length c9, .slice a10 D.kp.length c10] 56)).heap.size (w.alloc (.cells #[.slice a1 D.m.xs.length c1, .slice a2 D.m.ys.length c2, .slice a3 D.m.is.length c3, .slice a4 D.m.bs.length c4, .slice a5 D.m.fs.length c5, .slice a6 D.m.ds.length c6, .int .i64 D.m.nx, .slice a7 D.us.length c7, .slice a8 D.md.length c8, .slice a9 D.cs.length c9, .slice a10 D.kp.length c10] 56)) W → AtC W w.heap.size 56 #[.slice a1 D.m.xs.length c1, .slice a2 D.m.ys.length c2, .slice a3 D.m.is.length c3, .slice a4 D.m.bs.length c4, .slice a5 D.m.fs.length c5, .slice a6 D.m.ds.length c6, .int .i64 D.m.nx, .slice a7 D.us.length c7, .slice a8 D.md.length c8, .slice a9 D.cs.length c9, .slice a10 D.kp.length c10] ∧ Below w.heap.size w W) := fun W b => ⟨(AtC.new w 56 _).over b, ((Below.refl _ w).alloc (Nat.le_refl _) _).trans (b.mono (by simp))⟩
  have CT := hide (fun W (hb : Below w.heap.size w W) => told_any (.slice a1 D.m.xs.length c1) (.slice a2 D.m.ys.length c2) (.slice a3 D.m.is.length c3) (.slice a4 D.m.bs.length c4) (.slice a5 D.m.fs.length c5) (.slice a6 D.m.ds.length c6) (.slice a7 D.us.length c7) (.slice a8 D.md.length c8) (.slice a9 D.cs.length c9) (.slice a10 D.kp.length c10) D W (H.out.below hb (Nat.le_refl _)) HG.out)
  obtain ⟨R, hR⟩ : ∃ R, decide (D.md = (treeL D.m.xs D.m.ys D.m.is D.m.bs)) = R := ⟨_, rfl⟩
  simp only [hR] at CT ⊢
  clear hR
  have eg := eg32
  go_enter Tryz.func7, Tryz.ntmps7
  go_upto_region 1 with fail
  refine wp_region_alt (by kernel_rfl) [0, 1, 2, 3] [4] [] (fun i => match i with | 0 => .const [] (.agg #[.func (.func 30) #[] #[], .func (.func 32) #[] #[], .func (.func 35) #[] #[], .func (.func 38) #[] #[]]) | 1 => .const [0] (.func (.func 32) #[] #[]) | 2 => .const [] (.agg #[.slice a1 D.m.xs.length c1, .slice a2 D.m.ys.length c2, .slice a3 D.m.is.length c3, .slice a4 D.m.bs.length c4, .slice a5 D.m.fs.length c5, .slice a6 D.m.ds.length c6, .int .i64 D.m.nx, .slice a7 D.us.length c7, .slice a8 D.md.length c8, .slice a9 D.cs.length c9, .slice a10 D.kp.length c10]) | 3 => .const [1, 2] (.bool R) | _ => .triv) (fun x => ⟨#[Value.agg #[.slice a1 D.m.xs.length c1, .slice a2 D.m.ys.length c2, .slice a3 D.m.is.length c3, .slice a4 D.m.bs.length c4, .slice a5 D.m.fs.length c5, .slice a6 D.m.ds.length c6, .int .i64 D.m.nx, .slice a7 D.us.length c7, .slice a8 D.md.length c8, .slice a9 D.cs.length c9, .slice a10 D.kp.length c10], Value.pointer (some ⟨w.heap.size, 0, none⟩), Value.bool false, x 0, x 1, x 2, x 3], []⟩) (fun i => match i with | 0 => undef | 1 => undef | 2 => undef | 3 => undef | _ => undef) rfl (makersOk2_of (by kernel_rfl) (by kernel_rfl)) (by kernel_rfl) (by kernel_rfl) (by kernel_rfl) rfl ?_ ?_ (by intro q hq; cases hq)
  · intro jo hj so x iw W hd hp K hK
    simp only [List.mem_cons, List.not_mem_nil, or_false] at hj
    rcases hj with rfl | rfl | rfl | rfl
    · refine wpOp_step (o := _) rfl fun K' hK' => ?_
      have HK := hide (fun (v : Value) (W' : World) h1 h2 => hK' _ _ (hK v W' h1 h2))
      simp only [upd, Nat.reduceEqDiff, if_true, if_false] at HK
      clear hK hK' hp hd
      go_simp
      refine (truths_any W).mono ?_
      rintro e w6 ⟨rfl, B6⟩
      go_simp
      exact HK.out _ _ B6 rfl
    · refine wpOp_step (o := _) rfl fun K' hK' => ?_
      have HK := hide (fun (v : Value) (W' : World) h1 h2 => hK' _ _ (hK v W' h1 h2))
      simp only [upd, Nat.reduceEqDiff, if_true, if_false] at HK
      have e0 : x 0 = .agg #[.func (.func 30) #[] #[], .func (.func 32) #[] #[], .func (.func 35) #[] #[], .func (.func 38) #[] #[]] := hp.post 0 (hd 0 (show 0 ∈ [0] from by decide))
      clear hK hK' hp hd
      simp only [e0] at HK ⊢
      go_simp
      exact HK.out _ _ (Below.refl _ _) rfl
    · refine wpOp_step (o := _) rfl fun K' hK' => ?_
      have HK := hide (fun (v : Value) (W' : World) h1 h2 => hK' _ _ (hK v W' h1 h2))
      simp only [upd, Nat.reduceEqDiff, if_true, if_false] at HK
      have bw := HW.out W (of_drew hp.bel)
      have k0 : W.cell? ⟨w.heap.size, 0, none⟩ = some (.slice a1 D.m.xs.length c1) := bw.1.cell 0
      have k1 : W.cell? ⟨w.heap.size, 1, none⟩ = some (.slice a2 D.m.ys.length c2) := bw.1.cell 1
      have k2 : W.cell? ⟨w.heap.size, 2, none⟩ = some (.slice a3 D.m.is.length c3) := bw.1.cell 2
      have k3 : W.cell? ⟨w.heap.size, 3, none⟩ = some (.slice a4 D.m.bs.length c4) := bw.1.cell 3
      have k4 : W.cell? ⟨w.heap.size, 4, none⟩ = some (.slice a5 D.m.fs.length c5) := bw.1.cell 4
      have k5 : W.cell? ⟨w.heap.size, 5, none⟩ = some (.slice a6 D.m.ds.length c6) := bw.1.cell 5
      have k6 : W.cell? ⟨w.heap.size, 6, none⟩ = some (.int .i64 D.m.nx) := bw.1.cell 6
      have k7 : W.cell? ⟨w.heap.size, 7, none⟩ = some (.slice a7 D.us.length c7) := bw.1.cell 7
      have k8 : W.cell? ⟨w.heap.size, 8, none⟩ = some (.slice a8 D.md.length c8) := bw.1.cell 8
      have k9 : W.cell? ⟨w.heap.size, 9, none⟩ = some (.slice a9 D.cs.length c9) := bw.1.cell 9
      have k10 : W.cell? ⟨w.heap.size, 10, none⟩ = some (.slice a10 D.kp.length c10) := bw.1.cell 10
      clear bw
      clear hK hK' hp hd
      go_simp
      exact HK.out _ _ (Below.refl _ _) rfl
    · refine wpOp_step (o := _) rfl fun K' hK' => ?_
      have HK := hide (fun (v : Value) (W' : World) h1 h2 => hK' _ _ (hK v W' h1 h2))
      simp only [upd, Nat.reduceEqDiff, if_true, if_false] at HK
      have e1 : x 1 = .func (.func 32) #[] #[] := hp.post 1 (hd 1 (show 1 ∈ [1, 2] from by decide))
      have e2 : x 2 = .agg #[.slice a1 D.m.xs.length c1, .slice a2 D.m.ys.length c2, .slice a3 D.m.is.length c3, .slice a4 D.m.bs.length c4, .slice a5 D.m.fs.length c5, .slice a6 D.m.ds.length c6, .int .i64 D.m.nx, .slice a7 D.us.length c7, .slice a8 D.md.length c8, .slice a9 D.cs.length c9, .slice a10 D.kp.length c10] := hp.post 2 (hd 2 (show 2 ∈ [1, 2] from by decide))
      have bw := HW.out W (of_drew hp.bel)
      clear hK hK' hp hd
      simp only [e1, e2] at HK ⊢
      clear e1 e2
      go_simp
      refine (CT.out W bw.2).mono ?_
      rintro e w6 ⟨rfl, B6⟩
      go_simp
      exact HK.out _ _ B6 rfl
  · intro x iw W hp
    have e3 : x 3 = .bool R := hp.post 3 (by decide)
    have HQ := hide (HW.out W (of_drew hp.bel)).2
    simp only [e3]
    clear hp e3
    go_wp2_with fail
    try rw [List.filterMap_nil]
    try go_wp2
    go_ret
    exact ⟨rfl, HQ.out⟩
end Go.Proofs.YtmjhgfkplolelaaGreat
/- The walk of laws.FnExactMemTrue: it returns true at every world. -/
namespace Go.Proofs.YtmjhgfkplolelaaGreat.Kit
open Go.RowKit
/-- A world. -/
def MkWd (ds : List Nat) (D : WD) : Mk := .val ds (fun _ _ w v => ∃ a b c d e f g h i j, v = .agg #[a, b, c, d, e, f, .int .i64 D.m.nx, g, h, i, j] ∧ WR w a b c d e f g h i j D) (fun _ _ _ _ _ hh hb => by obtain ⟨a, b, c, d, e, f, g, h, i, j, q, h1⟩ := hh; exact ⟨a, b, c, d, e, f, g, h, i, j, q, h1.below hb (Nat.le_refl _)⟩)
end Go.Proofs.YtmjhgfkplolelaaGreat.Kit
namespace Go.Proofs.YtmjhgfkplolelaaGreat.fnExactMemTrue
open Go.RowKit Kit
set_option maxRecDepth 100000 in
set_option maxHeartbeats 6400000 in
theorem walk (u v iv bv dv pv ov mv cv kv : Value) (D : WD) (w : World) (h : WR w u v iv bv dv pv ov mv cv kv D) (hB : BigW maxLen D) :
    Calls Tryz.prog 3 #[.agg #[u, v, iv, bv, dv, pv, .int .i64 D.m.nx, ov, mv, cv, kv]] w fun e w' => e = .returned (.bool true) ∧ Below w.heap.size w w' := by
  have HV := hide h
  obtain ⟨a1, c1, a2, c2, a3, c3, a4, c4, a5, c5, a6, c6, a7, c7, a8, c8, a9, c9, a10, c10, rfl, rfl, rfl, rfl, rfl, rfl, rfl, rfl, rfl, rfl⟩ := h.form
  have HG := hide hB
  clear h hB
  have K0 := hide (AtC.new w 40 #[.slice a1 D.m.xs.length c1, .slice a2 D.m.ys.length c2, .slice a3 D.m.is.length c3, .slice a4 D.m.bs.length c4, .slice a5 D.m.fs.length c5, .slice a6 D.m.ds.length c6, .int .i64 D.m.nx, .slice a7 D.us.length c7, .slice a8 D.md.length c8, .slice a9 D.cs.length c9, .slice a10 D.kp.length c10])
  have B0 : Hid (Below w.heap.size w (w.alloc (.cells #[.slice a1 D.m.xs.length c1, .slice a2 D.m.ys.length c2, .slice a3 D.m.is.length c3, .slice a4 D.m.bs.length c4, .slice a5 D.m.fs.length c5, .slice a6 D.m.ds.length c6, .int .i64 D.m.nx, .slice a7 D.us.length c7, .slice a8 D.md.length c8, .slice a9 D.cs.length c9, .slice a10 D.kp.length c10] 40))) := (Below.refl _ w).alloc (Nat.le_refl _) _
  go_enter Tryz.func3, Tryz.ntmps3
  go_wp2_with fail
  refine (szWorld_L _ _ _ _ _ _ _ _ _ _ D _ _ (HV.out.below B0.out (Nat.le_refl _)) (by omega) (by omega) HG.out).mono ?_
  rintro e w1 ⟨left, rfl, hL, b1⟩
  have K1 := hide (K0.out.over b1)
  have B1 := hide (B0.out.trans (b1.mono B0.out.size))
  have HL := hide hL
  have hL1 : -1 ≤ left := by rcases hL with h | h <;> omega
  have x0 : w1.cell? ⟨w.heap.size, 0, none⟩ = some (.slice a1 D.m.xs.length c1) := K1.out.cell 0
  have x1 : w1.cell? ⟨w.heap.size, 1, none⟩ = some (.slice a2 D.m.ys.length c2) := K1.out.cell 1
  have x2 : w1.cell? ⟨w.heap.size, 2, none⟩ = some (.slice a3 D.m.is.length c3) := K1.out.cell 2
  have x3 : w1.cell? ⟨w.heap.size, 3, none⟩ = some (.slice a4 D.m.bs.length c4) := K1.out.cell 3
  have x4 : w1.cell? ⟨w.heap.size, 4, none⟩ = some (.slice a5 D.m.fs.length c5) := K1.out.cell 4
  have x5 : w1.cell? ⟨w.heap.size, 5, none⟩ = some (.slice a6 D.m.ds.length c6) := K1.out.cell 5
  have x6 : w1.cell? ⟨w.heap.size, 6, none⟩ = some (.int .i64 D.m.nx) := K1.out.cell 6
  have x7 : w1.cell? ⟨w.heap.size, 7, none⟩ = some (.slice a7 D.us.length c7) := K1.out.cell 7
  have x8 : w1.cell? ⟨w.heap.size, 8, none⟩ = some (.slice a8 D.md.length c8) := K1.out.cell 8
  have x9 : w1.cell? ⟨w.heap.size, 9, none⟩ = some (.slice a9 D.cs.length c9) := K1.out.cell 9
  have x10 : w1.cell? ⟨w.heap.size, 10, none⟩ = some (.slice a10 D.kp.length c10) := K1.out.cell 10
  clear b1 hL K0 B0
  by_cases hneg : left < 0
  · go_wp2
    go_ret
    exact ⟨rfl, B1.out⟩
  · have HBG := hide (HL.out.resolve_left (by omega)).2.2
    have n1 : decide (left < 0) = false := by simp; omega
    have CS := hide (fun W u v iv bv dv pv ov mv cv kv (h : WR W u v iv bv dv pv ov mv cv kv D) => specMem_any u v iv bv dv pv ov mv cv kv D W h HBG.out)
    have CI := hide (fun W u v iv bv dv pv ov mv cv kv (h : WR W u v iv bv dv pv ov mv cv kv D) => implMem_any u v iv bv dv pv ov mv cv kv D W h HBG.out)
    obtain ⟨R, hR⟩ : ∃ R, decide (D.md = (treeL D.m.xs D.m.ys D.m.is D.m.bs)) = R := ⟨_, rfl⟩
    simp only [hR] at CS CI
    clear HL hneg hR HG
    go_wp2_with fail
    refine (toWorld_any _ _ _ _ _ _ _ _ _ _ D _ (HV.out.below B1.out (Nat.le_refl _)) HBG.out).mono ?_
    rintro e w2 ⟨g1, g2, g3, g4, g5, g6, g7, g8, g9, g10, rfl, O2, b2⟩
    obtain ⟨s1, t1, s2, t2, s3, t3, s4, t4, s5, t5, s6, t6, s7, t7, s8, t8, s9, t9, s10, t10, rfl, rfl, rfl, rfl, rfl, rfl, rfl, rfl, rfl, rfl⟩ := O2.form
    have K2 := hide (K1.out.over b2)
    have B2 := hide (B1.out.trans (b2.mono B1.out.size))
    have R2 := hide O2
    clear b2 O2 x0 x1 x2 x3 x4 x5 x6 x7 x8 x9 x10 n1 K1 B1
    go_wp2_with fail
    refine (CS.out w2 _ _ _ _ _ _ _ _ _ _ R2.out).mono ?_
    rintro e w3 ⟨rfl, b3⟩
    have K3 := hide (K2.out.over b3)
    have B3 := hide (B2.out.trans (b3.mono B2.out.size))
    have y0 : w3.cell? ⟨w.heap.size, 0, none⟩ = some (.slice a1 D.m.xs.length c1) := K3.out.cell 0
    have y1 : w3.cell? ⟨w.heap.size, 1, none⟩ = some (.slice a2 D.m.ys.length c2) := K3.out.cell 1
    have y2 : w3.cell? ⟨w.heap.size, 2, none⟩ = some (.slice a3 D.m.is.length c3) := K3.out.cell 2
    have y3 : w3.cell? ⟨w.heap.size, 3, none⟩ = some (.slice a4 D.m.bs.length c4) := K3.out.cell 3
    have y4 : w3.cell? ⟨w.heap.size, 4, none⟩ = some (.slice a5 D.m.fs.length c5) := K3.out.cell 4
    have y5 : w3.cell? ⟨w.heap.size, 5, none⟩ = some (.slice a6 D.m.ds.length c6) := K3.out.cell 5
    have y6 : w3.cell? ⟨w.heap.size, 6, none⟩ = some (.int .i64 D.m.nx) := K3.out.cell 6
    have y7 : w3.cell? ⟨w.heap.size, 7, none⟩ = some (.slice a7 D.us.length c7) := K3.out.cell 7
    have y8 : w3.cell? ⟨w.heap.size, 8, none⟩ = some (.slice a8 D.md.length c8) := K3.out.cell 8
    have y9 : w3.cell? ⟨w.heap.size, 9, none⟩ = some (.slice a9 D.cs.length c9) := K3.out.cell 9
    have y10 : w3.cell? ⟨w.heap.size, 10, none⟩ = some (.slice a10 D.kp.length c10) := K3.out.cell 10
    clear b3 K2 B2 R2
    go_wp2_with fail
    refine (toWorld_any _ _ _ _ _ _ _ _ _ _ D _ (HV.out.below B3.out (Nat.le_refl _)) HBG.out).mono ?_
    rintro e w4 ⟨g1, g2, g3, g4, g5, g6, g7, g8, g9, g10, rfl, O4, b4⟩
    obtain ⟨d1, f1, d2, f2, d3, f3, d4, f4, d5, f5, d6, f6, d7, f7, d8, f8, d9, f9, d10, f10, rfl, rfl, rfl, rfl, rfl, rfl, rfl, rfl, rfl, rfl⟩ := O4.form
    have K4 := hide (K3.out.over b4)
    have B4 := hide (B3.out.trans (b4.mono B3.out.size))
    have R4 := hide O4
    clear b4 O4 y0 y1 y2 y3 y4 y5 y6 y7 y8 y9 y10 K3 B3
    go_wp2_with fail
    refine (CI.out _ _ _ _ _ _ _ _ _ _ _ (R4.out.alloc _)).mono ?_
    rintro e w5 ⟨rfl, b5⟩
    have HW : Hid (∀ W, Below w5.heap.size w5 W → AtC W w.heap.size 40 #[.slice a1 D.m.xs.length c1, .slice a2 D.m.ys.length c2, .slice a3 D.m.is.length c3, .slice a4 D.m.bs.length c4, .slice a5 D.m.fs.length c5, .slice a6 D.m.ds.length c6, .int .i64 D.m.nx, .slice a7 D.us.length c7, .slice a8 D.md.length c8, .slice a9 D.cs.length c9, .slice a10 D.kp.length c10] ∧ AtC W w4.heap.size 56 #[.slice d1 D.m.xs.length f1, .slice d2 D.m.ys.length f2, .slice d3 D.m.is.length f3, .slice d4 D.m.bs.length f4, .slice d5 D.m.fs.length f5, .slice d6 D.m.ds.length f6, .int .i64 D.m.nx, .slice d7 D.us.length f7, .slice d8 D.md.length f8, .slice d9 D.cs.length f9, .slice d10 D.kp.length f10] ∧ Below w.heap.size w W ∧ WR W (.slice d1 D.m.xs.length f1) (.slice d2 D.m.ys.length f2) (.slice d3 D.m.is.length f3) (.slice d4 D.m.bs.length f4) (.slice d5 D.m.fs.length f5) (.slice d6 D.m.ds.length f6) (.slice d7 D.us.length f7) (.slice d8 D.md.length f8) (.slice d9 D.cs.length f9) (.slice d10 D.kp.length f10) D) := by
      have ba : Below w4.heap.size w4 w5 := ((Below.refl _ w4).alloc (Nat.le_refl _) _).trans (b5.mono (by simp))
      have hb := B4.out.trans (ba.mono B4.out.size)
      intro W b
      have bb := ba.trans (b.mono ba.size)
      exact ⟨K4.out.over bb, ((AtC.new w4 56 _).over b5).over b, B4.out.trans (bb.mono B4.out.size), R4.out.below bb (Nat.le_refl _)⟩
    clear b5 K4 B4 R4 CS CI
    go_upto_region 10 with fail
    refine wp_region_alt (by kernel_rfl) [0, 1, 2, 3, 4] [] [] (fun i => match i with | 0 => .const [] (.agg #[.slice d1 D.m.xs.length f1, .slice d2 D.m.ys.length f2, .slice d3 D.m.is.length f3, .slice d4 D.m.bs.length f4, .slice d5 D.m.fs.length f5, .slice d6 D.m.ds.length f6, .int .i64 D.m.nx, .slice d7 D.us.length f7, .slice d8 D.md.length f8, .slice d9 D.cs.length f9, .slice d10 D.kp.length f10]) | 1 => .const [] (.agg #[.slice a1 D.m.xs.length c1, .slice a2 D.m.ys.length c2, .slice a3 D.m.is.length c3, .slice a4 D.m.bs.length c4, .slice a5 D.m.fs.length c5, .slice a6 D.m.ds.length c6, .int .i64 D.m.nx, .slice a7 D.us.length c7, .slice a8 D.md.length c8, .slice a9 D.cs.length c9, .slice a10 D.kp.length c10]) | 2 => MkWd [1] D | 3 => .const [0, 2] (.bool true) | 4 => .const [3] (.bool false) | _ => .triv) (fun x => ⟨#[Value.agg #[.slice a1 D.m.xs.length c1, .slice a2 D.m.ys.length c2, .slice a3 D.m.is.length c3, .slice a4 D.m.bs.length c4, .slice a5 D.m.fs.length c5, .slice a6 D.m.ds.length c6, .int .i64 D.m.nx, .slice a7 D.us.length c7, .slice a8 D.md.length c8, .slice a9 D.cs.length c9, .slice a10 D.kp.length c10], Value.pointer (some ⟨w.heap.size, 0, none⟩), Value.bool false, Value.int .i64 left, Value.bool R, Value.pointer (some ⟨w4.heap.size, 0, none⟩), Value.bool R, Value.agg #[.slice a1 D.m.xs.length c1, .slice a2 D.m.ys.length c2, .slice a3 D.m.is.length c3, .slice a4 D.m.bs.length c4, .slice a5 D.m.fs.length c5, .slice a6 D.m.ds.length c6, .int .i64 D.m.nx, .slice a7 D.us.length c7, .slice a8 D.md.length c8, .slice a9 D.cs.length c9, .slice a10 D.kp.length c10], Value.int .i64 1048576, Value.int .i64 left, Value.int .i64 left, Value.bool false, Value.agg #[.slice a1 D.m.xs.length c1, .slice a2 D.m.ys.length c2, .slice a3 D.m.is.length c3, .slice a4 D.m.bs.length c4, .slice a5 D.m.fs.length c5, .slice a6 D.m.ds.length c6, .int .i64 D.m.nx, .slice a7 D.us.length c7, .slice a8 D.md.length c8, .slice a9 D.cs.length c9, .slice a10 D.kp.length c10], Value.agg #[.slice s1 D.m.xs.length t1, .slice s2 D.m.ys.length t2, .slice s3 D.m.is.length t3, .slice s4 D.m.bs.length t4, .slice s5 D.m.fs.length t5, .slice s6 D.m.ds.length t6, .int .i64 D.m.nx, .slice s7 D.us.length t7, .slice s8 D.md.length t8, .slice s9 D.cs.length t9, .slice s10 D.kp.length t10], Value.bool R, Value.agg #[.slice a1 D.m.xs.length c1, .slice a2 D.m.ys.length c2, .slice a3 D.m.is.length c3, .slice a4 D.m.bs.length c4, .slice a5 D.m.fs.length c5, .slice a6 D.m.ds.length c6, .int .i64 D.m.nx, .slice a7 D.us.length c7, .slice a8 D.md.length c8, .slice a9 D.cs.length c9, .slice a10 D.kp.length c10], Value.agg #[.slice d1 D.m.xs.length f1, .slice d2 D.m.ys.length f2, .slice d3 D.m.is.length f3, .slice d4 D.m.bs.length f4, .slice d5 D.m.fs.length f5, .slice d6 D.m.ds.length f6, .int .i64 D.m.nx, .slice d7 D.us.length f7, .slice d8 D.md.length f8, .slice d9 D.cs.length f9, .slice d10 D.kp.length f10], Value.agg #[.slice d1 D.m.xs.length f1, .slice d2 D.m.ys.length f2, .slice d3 D.m.is.length f3, .slice d4 D.m.bs.length f4, .slice d5 D.m.fs.length f5, .slice d6 D.m.ds.length f6, .int .i64 D.m.nx, .slice d7 D.us.length f7, .slice d8 D.md.length f8, .slice d9 D.cs.length f9, .slice d10 D.kp.length f10], Value.bool R, Value.bool R, Value.bool R, Value.bool false, x 0, x 1, x 2, x 3, x 4], []⟩) (fun i => match i with | 0 => undef | 1 => undef | 2 => undef | 3 => undef | 4 => undef | _ => undef) rfl (makersOk2_of (by kernel_rfl) (by kernel_rfl)) (by kernel_rfl) (by kernel_rfl) (by kernel_rfl) rfl ?_ ?_ (by intro q hq; cases hq)
    · intro jo hj so x iw W hd hp K hK
      simp only [List.mem_cons, List.not_mem_nil, or_false] at hj
      rcases hj with rfl | rfl | rfl | rfl | rfl
      · refine wpOp_step (o := _) rfl fun K' hK' => ?_
        have HK := hide (fun (v : Value) (W' : World) h1 h2 => hK' _ _ (hK v W' h1 h2))
        simp only [upd, Nat.reduceEqDiff, if_true, if_false] at HK
        have bw := HW.out W (of_drew hp.bel)
        have k0 : W.cell? ⟨w4.heap.size, 0, none⟩ = some (.slice d1 D.m.xs.length f1) := bw.2.1.cell 0
        have k1 : W.cell? ⟨w4.heap.size, 1, none⟩ = some (.slice d2 D.m.ys.length f2) := bw.2.1.cell 1
        have k2 : W.cell? ⟨w4.heap.size, 2, none⟩ = some (.slice d3 D.m.is.length f3) := bw.2.1.cell 2
        have k3 : W.cell? ⟨w4.heap.size, 3, none⟩ = some (.slice d4 D.m.bs.length f4) := bw.2.1.cell 3
        have k4 : W.cell? ⟨w4.heap.size, 4, none⟩ = some (.slice d5 D.m.fs.length f5) := bw.2.1.cell 4
        have k5 : W.cell? ⟨w4.heap.size, 5, none⟩ = some (.slice d6 D.m.ds.length f6) := bw.2.1.cell 5
        have k6 : W.cell? ⟨w4.heap.size, 6, none⟩ = some (.int .i64 D.m.nx) := bw.2.1.cell 6
        have k7 : W.cell? ⟨w4.heap.size, 7, none⟩ = some (.slice d7 D.us.length f7) := bw.2.1.cell 7
        have k8 : W.cell? ⟨w4.heap.size, 8, none⟩ = some (.slice d8 D.md.length f8) := bw.2.1.cell 8
        have k9 : W.cell? ⟨w4.heap.size, 9, none⟩ = some (.slice d9 D.cs.length f9) := bw.2.1.cell 9
        have k10 : W.cell? ⟨w4.heap.size, 10, none⟩ = some (.slice d10 D.kp.length f10) := bw.2.1.cell 10
        clear bw
        clear hK hK' hp hd
        go_simp
        exact HK.out _ _ (Below.refl _ _) rfl
      · refine wpOp_step (o := _) rfl fun K' hK' => ?_
        have HK := hide (fun (v : Value) (W' : World) h1 h2 => hK' _ _ (hK v W' h1 h2))
        simp only [upd, Nat.reduceEqDiff, if_true, if_false] at HK
        have bw := HW.out W (of_drew hp.bel)
        have k0 : W.cell? ⟨w.heap.size, 0, none⟩ = some (.slice a1 D.m.xs.length c1) := bw.1.cell 0
        have k1 : W.cell? ⟨w.heap.size, 1, none⟩ = some (.slice a2 D.m.ys.length c2) := bw.1.cell 1
        have k2 : W.cell? ⟨w.heap.size, 2, none⟩ = some (.slice a3 D.m.is.length c3) := bw.1.cell 2
        have k3 : W.cell? ⟨w.heap.size, 3, none⟩ = some (.slice a4 D.m.bs.length c4) := bw.1.cell 3
        have k4 : W.cell? ⟨w.heap.size, 4, none⟩ = some (.slice a5 D.m.fs.length c5) := bw.1.cell 4
        have k5 : W.cell? ⟨w.heap.size, 5, none⟩ = some (.slice a6 D.m.ds.length c6) := bw.1.cell 5
        have k6 : W.cell? ⟨w.heap.size, 6, none⟩ = some (.int .i64 D.m.nx) := bw.1.cell 6
        have k7 : W.cell? ⟨w.heap.size, 7, none⟩ = some (.slice a7 D.us.length c7) := bw.1.cell 7
        have k8 : W.cell? ⟨w.heap.size, 8, none⟩ = some (.slice a8 D.md.length c8) := bw.1.cell 8
        have k9 : W.cell? ⟨w.heap.size, 9, none⟩ = some (.slice a9 D.cs.length c9) := bw.1.cell 9
        have k10 : W.cell? ⟨w.heap.size, 10, none⟩ = some (.slice a10 D.kp.length c10) := bw.1.cell 10
        clear bw
        clear hK hK' hp hd
        go_simp
        exact HK.out _ _ (Below.refl _ _) rfl
      · refine wpOp_step (o := _) rfl fun K' hK' => ?_
        have HK := hide (fun (v : Value) (W' : World) h1 h2 => hK' _ _ (hK v W' h1 h2))
        simp only [upd, Nat.reduceEqDiff, if_true, if_false] at HK
        have e1 : x 1 = .agg #[.slice a1 D.m.xs.length c1, .slice a2 D.m.ys.length c2, .slice a3 D.m.is.length c3, .slice a4 D.m.bs.length c4, .slice a5 D.m.fs.length c5, .slice a6 D.m.ds.length c6, .int .i64 D.m.nx, .slice a7 D.us.length c7, .slice a8 D.md.length c8, .slice a9 D.cs.length c9, .slice a10 D.kp.length c10] := hp.post 1 (hd 1 (show 1 ∈ [1] from by decide))
        have bw := HW.out W (of_drew hp.bel)
        clear hK hK' hp hd
        simp only [e1] at HK ⊢
        clear e1
        go_simp
        refine (toWorld_any _ _ _ _ _ _ _ _ _ _ D W (HV.out.below bw.2.2.1 (Nat.le_refl _)) HBG.out).mono ?_
        rintro e w6 ⟨g1, g2, g3, g4, g5, g6, g7, g8, g9, g10, rfl, O6, B6⟩
        go_simp
        exact HK.out _ _ B6 ⟨g1, g2, g3, g4, g5, g6, g7, g8, g9, g10, rfl, O6⟩
      · refine wpOp_step (o := _) rfl fun K' hK' => ?_
        have HK := hide (fun (v : Value) (W' : World) h1 h2 => hK' _ _ (hK v W' h1 h2))
        simp only [upd, Nat.reduceEqDiff, if_true, if_false] at HK
        have e0 : x 0 = .agg #[.slice d1 D.m.xs.length f1, .slice d2 D.m.ys.length f2, .slice d3 D.m.is.length f3, .slice d4 D.m.bs.length f4, .slice d5 D.m.fs.length f5, .slice d6 D.m.ds.length f6, .int .i64 D.m.nx, .slice d7 D.us.length f7, .slice d8 D.md.length f8, .slice d9 D.cs.length f9, .slice d10 D.kp.length f10] := hp.post 0 (hd 0 (show 0 ∈ [0, 2] from by decide))
        have e2 : ∃ a b c d e f g h i j, x 2 = .agg #[a, b, c, d, e, f, .int .i64 D.m.nx, g, h, i, j] ∧ WR W a b c d e f g h i j D := hp.post 2 (hd 2 (show 2 ∈ [0, 2] from by decide))
        have bw := HW.out W (of_drew hp.bel)
        clear hK hK' hp hd
        obtain ⟨g1, g2, g3, g4, g5, g6, g7, g8, g9, g10, e2, O2⟩ := e2
        simp only [e0, e2] at HK ⊢
        clear e0 e2
        go_simp
        refine (eqWorld_same _ _ _ _ _ _ _ _ _ _ _ _ _ _ _ _ _ _ _ _ D W bw.2.2.2 O2 HBG.out).mono ?_
        rintro e w6 ⟨rfl, B6⟩
        go_simp
        exact HK.out _ _ B6 rfl
      · refine wpOp_step (o := _) rfl fun K' hK' => ?_
        have HK := hide (fun (v : Value) (W' : World) h1 h2 => hK' _ _ (hK v W' h1 h2))
        simp only [upd, Nat.reduceEqDiff, if_true, if_false] at HK
        have e3 : x 3 = .bool true := hp.post 3 (hd 3 (show 3 ∈ [3] from by decide))
        clear hK hK' hp hd
        simp only [e3] at HK ⊢
        go_simp
        exact HK.out _ _ (Below.refl _ _) rfl
    · intro x iw W hp
      have e4 : x 4 = .bool false := hp.post 4 (by decide)
      have HQ := hide (HW.out W (of_drew hp.bel)).2.2.1
      simp only [e4]
      clear hp e4
      try rw [List.filterMap_nil]
      go_wp2
      go_ret
      exact ⟨rfl, HQ.out⟩
end Go.Proofs.YtmjhgfkplolelaaGreat.fnExactMemTrue
