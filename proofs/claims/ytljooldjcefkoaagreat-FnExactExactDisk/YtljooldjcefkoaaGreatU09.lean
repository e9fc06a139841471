/- Texts of the proof, bundled: Ns4. -/
import Derived.Test.YtljooldjcefkoaaGreatU08
/- impl.namedSlots by its contract, at right disks. -/
namespace Go.Proofs.YtljooldjcefkoaaGreat
open Go.RowKit Kit
theorem step_append_sl (W : World) {ops : Array Oper} {o : Oper} {a : Act} {K : Act → World → Prop} {Q : Exit → Act → World → Prop} {E : Prop} (hgd : o.guard = none) (s x : Operand)
    (ho : o.op = .call { callee := .builtin .append, args := #[s, x], argTypes := #[71, 71] }) (base : Nat) (v : Value) (l : List Sl) (hs : a.eval s = v) (hown : SOwns W base 77 v l) (hbase : base ≤ W.heap.size)
    (g : Nat) (nm : ByteArray) (io : Int) (hx : a.eval x = .slice (some ⟨g, 0, none⟩) 1 1) (hc : AtC W g 77 #[.string nm, .int .i64 io]) (hl : l.length ≤ 100000000000)
    (h : ∀ v' w', SOwns w' base 77 v' (l ++ [(nm, io)]) → W.grownBy w' v.ownBlock → (∀ k, v'.ownBlock = some k → v.ownBlock = some k ∨ W.heap.size ≤ k) → K (a.put o.dst v') w') :
    if Region.wanted o (yielded ops a.tmps) = true then Oper.wp Tryz.prog o a W K Q else E := by
  obtain ⟨i0, hi, hz0, hz1, hz2⟩ := info_parts Tryz.i77
  refine step_append_lies _ hgd s x 71 ho base 77 i0 _ 2 24 Tryz.u71 hi hz0 hz1 hz2 rfl (by decide) v l.length (sc l) hs hown ⟨g, 0, none⟩ 1 1 [.string nm, .int .i64 io] hx rfl ?_ ?_ (by decide) ?_ ?_ hbase W.heap.size rfl ?_
  · intro j u hj
    have := (hc.cell j).trans (show (#[.string nm, .int .i64 io] : Array Value)[j]? = some u by simpa using hj)
    by_cases e : j = 0
    · subst e; simpa [Addr.add] using this
    · simpa [Addr.add, e] using this
  · intro u hu
    simp only [List.mem_cons, List.not_mem_nil, or_false] at hu
    rcases hu with rfl | rfl <;> rfl
  · unfold maxLen; omega
  · omega
  · intro g' cap w' hown' hgrow hat _
    refine h _ w' ?_ hgrow fun k hk => ?_
    · show w'.ownsRow base 77 2 _ (l ++ [(nm, io)]).length (sc (l ++ [(nm, io)]))
      rw [List.length_append, sc_append]
      exact hown'
    · simp only [Value.ownBlock, Option.some.injEq] at hk
      subst hk
      rcases hat with hat | hat
      · exact .inl hat
      · exact .inr (by omega)
theorem nmdS_blk {is : List Ino} {bs : List Blk} (h : RD is bs) (x : Int) : nmdS (blkAt bs x).2.1 = nmd (blkAt bs x) := by
  unfold nmd
  split
  · rfl
  · rename_i e
    have e : (blkAt bs x).1 = false := by simpa using e
    rcases blkAt_cases bs x with q | q
    · rw [q]; rfl
    · rw [h.text _ q e]; rfl
/-- The named slots of blocks. -/
def nmdB (l : List Blk) : List Sl := l.flatMap fun b => nmdS b.2.1
theorem nmdB_named {is : List Ino} {bs : List Blk} (h : RD is bs) (i : Int) : nmdB (blocksOf is bs i 2) = named is bs i := by
  unfold named blocksOf nmdB
  split
  · unfold nmdP
    rw [List.flatMap_map]
    congr 1
    funext x
    exact nmdS_blk h x
  · rfl
theorem blocksOf_len {is : List Ino} {bs : List Blk} (h : RD is bs) (i k : Int) : (blocksOf is bs i k).length ≤ 2 ∧ ∀ b ∈ blocksOf is bs i k, b.2.1.length ≤ 4 ∧ b.2.2.size ≤ 16 := by
  unfold blocksOf
  split
  · refine ⟨?_, fun b hb => ?_⟩
    · rw [List.length_map]
      rcases kindAt_cases (is := is) i with ⟨-, e⟩ | ⟨q, hq, -, e⟩
      · rw [e]; simp
      · rw [e, h.two q hq]; exact Nat.le_refl _
    · obtain ⟨x, -, rfl⟩ := List.mem_map.1 hb
      refine ⟨h.blk4 x, ?_⟩
      rcases blkAt_cases bs x with e | e
      · rw [e]; exact Nat.zero_le _
      · exact h.tx _ e
  · exact ⟨by simp, fun b hb => by cases hb⟩
theorem nmdB_take {l : List Blk} {q : Nat} (h : q < l.length) : nmdB (l.take (q + 1)) = nmdB (l.take q) ++ nmdS l[q].2.1 := by
  rw [List.take_succ_eq_append_getElem h]
  unfold nmdB
  rw [List.flatMap_append, List.flatMap_cons, List.flatMap_nil, List.append_nil]
set_option maxRecDepth 100000 in
set_option maxHeartbeats 3200000 in
theorem namedI_any (i : Int) (dx dy iv bv : Value) (xs ys : List Bool) (is : List Ino) (bs : List Blk) (w : World) (h : DR w dx dy iv bv xs ys is bs) (hR : RD is bs) :
    Calls Tryz.prog 88 #[.agg #[dx, dy, iv, bv], .int .i64 i] w fun e w' => ∃ v, e = .returned v ∧ SOwns w' w.heap.size 77 v (named is bs i) ∧ Below w.heap.size w w' := by
  have CB := hide (blocksOf_any i 2 dx dy iv bv xs ys is bs (w.alloc (.cells #[dx, dy, iv, bv] 35)) (h.alloc _) hR (by decide))
  obtain ⟨HL1, HL2⟩ := blocksOf_len hR i 2
  have HBL := hide HL2
  rw [← nmdB_named hR i]
  obtain ⟨a1, c1, a2, c2, a3, c3, a4, c4, rfl, rfl, rfl, rfl⟩ := h.form
  obtain ⟨BL, hBL⟩ : ∃ l, blocksOf is bs i 2 = l := ⟨_, rfl⟩
  rw [hBL] at CB HBL HL1 ⊢
  obtain ⟨RES, hRES⟩ : ∃ l, nmdB BL = l := ⟨_, rfl⟩
  rw [hRES]
  have HRES := hide hRES
  clear h hR HL2 hBL hRES
  go_enter Tryz.func88, Tryz.ntmps88
  go_wp2_with fail
  refine CB.out.mono ?_
  rintro e w1 ⟨lv, rfl, R1, B1⟩
  have HB1 : Hid (Below w.heap.size w w1) := ((Below.refl _ w).alloc (Nat.le_refl _) _).trans (B1.mono (by simp))
  obtain ⟨la, lc, rfl, -, hcl⟩ := R1
  have HCL := hide hcl
  clear B1 hcl CB
  go_wp2_with fail
  go_loopw [5, 14] (fun sv kv wr => ∃ (s' : Value) (q : Nat), s' = sv ∧ q ≤ BL.length ∧ kv = .int .i64 q ∧ Hid (SOwns wr w1.heap.size 77 s' (nmdB (BL.take q)) ∧ Below w1.heap.size w1 wr ∧ (nmdB (BL.take q)).length ≤ 4 * q)) (fun _ kv _ => BL.length - (intOf kv).toNat)
  case atStart => exact ⟨_, 0, rfl, Nat.zero_le _, rfl, SOwns.nil _ _ _, Below.refl _ _, by simp [nmdB]⟩
  case round =>
    obtain ⟨sv, q, hsv, hq, rfl, HR⟩ := hrel
    subst hsv
    have q0 : (0 : Int) ≤ (q : Int) := by omega
    by_cases hlt : q < BL.length
    rotate_left
    · have q1 : ¬ ((q : Int) < (BL.length : Int)) := by omega
      go_wp2
      go_ret
      refine ⟨_, rfl, ?_, HB1.out.trans (HR.out.2.1.mono HB1.out.size)⟩
      have := HR.out.1
      rw [List.take_of_length_le (by omega), HRES.out] at this
      exact this.base_le HB1.out.size
    have q1 : (q : Int) < (BL.length : Int) := by omega
    have HT := hide (nmdB_take hlt)
    have HB4 := hide (HBL.out _ (List.getElem_mem hlt)).1
    obtain ⟨gb, ob, ⟨t0, t1, t2⟩, rfl, hgb, b0, b1, b2, r0, r1, r2⟩ := HCL.out q hlt
    simp only at b0 b1 b2 r0 r1 r2
    subst r0 r2
    obtain ⟨bd, hbd⟩ : ∃ X, BL[q].1 = X := ⟨_, rfl⟩
    obtain ⟨bss, hbss⟩ : ∃ X, BL[q].2.1 = X := ⟨_, rfl⟩
    obtain ⟨btx, hbtx⟩ : ∃ X, BL[q].2.2 = X := ⟨_, rfl⟩
    rw [hbd] at b0
    rw [hbss] at r1 HT HB4
    rw [hbtx] at b2
    obtain ⟨sa, sc', rfl, -, hcs⟩ := r1
    have HCS := hide hcs
    replace b0 := (HR.out.2.1.cell (p := ⟨gb, ob + q * 3, none⟩) hgb).trans b0
    replace b1 := (HR.out.2.1.cell (p := ⟨gb, ob + q * 3 + 1, none⟩) hgb).trans b1
    replace b2 := (HR.out.2.1.cell (p := ⟨gb, ob + q * 3 + 2, none⟩) hgb).trans b2
    have hgw : ¬ gb = wr.heap.size := by have := HR.out.2.1.size; omega
    have HAL : Hid (Below wr.heap.size wr (wr.alloc (.cells #[.bool bd, .slice sa bss.length sc', .string btx] 73))) := (Below.refl _ wr).alloc (Nat.le_refl _) _
    have HR2 : Hid (SOwns (wr.alloc (.cells #[.bool bd, .slice sa bss.length sc', .string btx] 73)) w1.heap.size 77 sv (nmdB (BL.take q) ++ nmdS (bss.take 0)) ∧ Below w1.heap.size w1 (wr.alloc (.cells #[.bool bd, .slice sa bss.length sc', .string btx] 73)) ∧ (nmdB (BL.take q) ++ nmdS (bss.take 0)).length ≤ 4 * q + 0) := by
      have e : nmdS (bss.take 0) = [] := by simp [nmdS]
      rw [e, List.append_nil]
      exact ⟨HR.out.1.alloc _, HR.out.2.1.alloc HR.out.2.1.size _, HR.out.2.2⟩
    clear hbd hbss hbtx hcs
    obtain ⟨W2, hW2⟩ : ∃ W2, wr.alloc (.cells #[.bool bd, .slice sa bss.length sc', .string btx] 73) = W2 := ⟨_, rfl⟩
    have x1 : W2.cell? ⟨wr.heap.size, 1, none⟩ = some (.slice sa bss.length sc') := by rw [← hW2]; exact (AtC.new wr 73 _).cell 1
    rw [hW2] at HR2
    go_wp2_with fail
    clear b0 b1 b2 HR hW2 x1 HAL
    go_loopw [5, 21] (fun sv kv wr => ∃ (s' : Value) (t : Nat), s' = sv ∧ t ≤ bss.length ∧ kv = .int .i64 t ∧ Hid (SOwns wr w1.heap.size 77 s' (nmdB (BL.take q) ++ nmdS (bss.take t)) ∧ Below w1.heap.size w1 wr ∧ (nmdB (BL.take q) ++ nmdS (bss.take t)).length ≤ 4 * q + t)) (fun _ kv _ => bss.length - (intOf kv).toNat)
    case atStart => exact ⟨_, 0, rfl, Nat.zero_le _, rfl, HR2.out⟩
    case round =>
      obtain ⟨sv', t, hsv, ht, rfl, HS⟩ := hrel
      subst hsv
      clear HR2
      have t0 : (0 : Int) ≤ (t : Int) := by omega
      have hq2 : q < 2 := by omega
      by_cases htl : t < bss.length
      rotate_left
      · have t1 : ¬ ((t : Int) < (bss.length : Int)) := by omega
        go_wp2
        go_roundw
        case rel =>
          refine ⟨_, q + 1, rfl, by omega, by go_num, ?_, HS.out.2.1, ?_⟩
          · have := HS.out.1
            rw [List.take_of_length_le (show bss.length ≤ t by omega), ← HT.out] at this
            exact this
          · have := HS.out.2.2
            rw [List.take_of_length_le (show bss.length ≤ t by omega), ← HT.out] at this
            have := HB4.out
            omega
        case measure => simp [intOf]; omega
      have t1 : (t : Int) < (bss.length : Int) := by omega
      have HTS := hide (nmdS_take htl)
      obtain ⟨gs, os, rfl, hgs, ks0, ks1⟩ := HCS.out t htl
      obtain ⟨⟨sn, si⟩, hsn⟩ : ∃ X, bss[t] = X := ⟨_, rfl⟩
      rw [hsn] at ks0 ks1 HTS
      simp only at ks0 ks1
      replace ks0 := (HS.out.2.1.cell (p := ⟨gs, os + t * 2, none⟩) hgs).trans ks0
      replace ks1 := (HS.out.2.1.cell (p := ⟨gs, os + t * 2 + 1, none⟩) hgs).trans ks1
      have hgsw : ¬ gs = wr.heap.size := by have := HS.out.2.1.size; omega
      clear hsn
      have hb4 := HB4.out
      by_cases hse : sn = ⟨#[]⟩
      · subst hse
        have HS2 : Hid (SOwns (wr.alloc (.cells #[.string ⟨#[]⟩, .int .i64 si] 77)) w1.heap.size 77 sv' (nmdB (BL.take q) ++ nmdS (bss.take (t + 1))) ∧ Below w1.heap.size w1 (wr.alloc (.cells #[.string ⟨#[]⟩, .int .i64 si] 77)) ∧ (nmdB (BL.take q) ++ nmdS (bss.take (t + 1))).length ≤ 4 * q + (t + 1)) := by
          have e := HTS.out
          rw [if_pos rfl, List.append_nil] at e
          rw [e]
          exact ⟨HS.out.1.alloc _, HS.out.2.1.alloc HS.out.2.1.size _, by have := HS.out.2.2; omega⟩
        go_wp2
        go_roundw
        case rel => exact ⟨_, t + 1, rfl, by omega, by go_num, HS2.out⟩
        case measure => simp [intOf]; omega
      have hse2 : (sn.toList == ([] : List UInt8)) = false := beq_empty hse
      have hse3 : (sn.toList != ([] : List UInt8)) = true := by simp [bne, hse2]
      have HAL2 : Hid (Below w1.heap.size w1 ((wr.alloc (.cells #[.string sn, .int .i64 si] 77)).alloc (.cells #[.string sn, .int .i64 si] 77)) ∧ SOwns ((wr.alloc (.cells #[.string sn, .int .i64 si] 77)).alloc (.cells #[.string sn, .int .i64 si] 77)) w1.heap.size 77 sv' (nmdB (BL.take q) ++ nmdS (bss.take t)) ∧ AtC ((wr.alloc (.cells #[.string sn, .int .i64 si] 77)).alloc (.cells #[.string sn, .int .i64 si] 77)) (wr.heap.size + 1) 77 #[.string sn, .int .i64 si]) := by
        have a := AtC.new (wr.alloc (.cells #[.string sn, .int .i64 si] 77)) 77 #[.string sn, .int .i64 si]
        rw [World.size_alloc] at a
        have sz := HS.out.2.1.size
        exact ⟨(HS.out.2.1.alloc sz _).alloc (by simp; omega) _, (HS.out.1.alloc _).alloc _, a⟩
      have HSZ : Hid (w1.heap.size ≤ ((wr.alloc (.cells #[.string sn, .int .i64 si] 77)).alloc (.cells #[.string sn, .int .i64 si] 77)).heap.size) := HAL2.out.1.size
      have HTL : Hid ((nmdB (BL.take q) ++ nmdS (bss.take t)).length ≤ 100000000000) := by have := HS.out.2.2; show _ ≤ _; omega
      go_wp2_with (at_builtin; refine wpList_step fun K' hK' => ?_; refine step_append_sl _ rfl (.tmp 28) (.tmp 30) rfl w1.heap.size sv' _ rfl HAL2.out.2.1 HSZ.out (wr.heap.size + 1) sn si rfl HAL2.out.2.2 HTL.out ?_; intro v12 w12 T12 G12 V12; refine hK' _ _ ?_; have HR12 := hide (And.intro T12 (And.intro G12 V12)); clear T12 G12 V12 hK')
      have HS2 : Hid (SOwns w12 w1.heap.size 77 v12 (nmdB (BL.take q) ++ nmdS (bss.take (t + 1))) ∧ Below w1.heap.size w1 w12 ∧ (nmdB (BL.take q) ++ nmdS (bss.take (t + 1))).length ≤ 4 * q + (t + 1)) := by
        have e := HTS.out
        rw [if_neg hse] at e
        rw [e, ← List.append_assoc]
        refine ⟨HR12.out.1, HAL2.out.1.grown HR12.out.2.1 HSZ.out (fun k hk => (HAL2.out.2.1.lt k hk).1), ?_⟩
        have := HS.out.2.2
        rw [List.length_append]
        simp
        simp at this
        omega
      go_roundw
      case rel => exact ⟨_, t + 1, rfl, by omega, by go_num, HS2.out⟩
      case measure => simp [intOf]; omega
end Go.Proofs.YtljooldjcefkoaaGreat
