/- impl.ReadScript by its contract. -/
import Derived.Test.YthfiaihbpnlbjaaDoorEo
import Derived.Test.YthfiaihbpnlbjaaDoorNw
namespace Go.Proofs.YthfiaihbpnlbjaaDoor
open Go.RowKit Kit
theorem gTab : Tryd.prog.globalNamed "strings.asciiSpace" = some 0 := by kernel_rfl
theorem tab_below {w w' : World} (h : Lib.TabIs Tryd.prog w "strings.asciiSpace" .u8 Lib.asciiSpaceTab) (hb : Below w.heap.size w w') : Lib.TabIs Tryd.prog w' "strings.asciiSpace" .u8 Lib.asciiSpaceTab := by
  unfold Lib.TabIs World.var? at h ⊢
  rw [gTab] at h ⊢
  simp only [Option.bind_some] at h ⊢
  have hlt : 0 < w.heap.size := by
    rcases Nat.lt_or_ge 0 w.heap.size with h' | h'
    · exact h'
    · rw [Array.getElem?_eq_none h'] at h; cases h
  rw [hb.block _ hlt]
  exact h
theorem tab_lt {w : World} (h : Lib.TabIs Tryd.prog w "strings.asciiSpace" .u8 Lib.asciiSpaceTab) : 0 < w.heap.size := by
  unfold Lib.TabIs World.var? at h
  rw [gTab] at h
  simp only [Option.bind_some] at h
  rcases Nat.lt_or_ge 0 w.heap.size with h' | h'
  · exact h'
  · rw [Array.getElem?_eq_none h'] at h; cases h
theorem implParts_any (s : ByteArray) (w : World) (l : List ByteArray) (ok : Bool) (ha : Ans s l ok) (htab : Lib.TabIs Tryd.prog w "strings.asciiSpace" .u8 Lib.asciiSpaceTab) :
    Calls Tryd.prog 15 #[.string s] w fun e w' => ∃ v, e = .returned (.tuple #[v, .bool ok]) ∧ ROwns w' w.heap.size 9 v (l.map Value.string) ∧ Below w.heap.size w w' := by
  by_cases h : s.size ≤ 600
  · exact implParts_in s w l ok ha h 0 gTab (tab_lt htab) htab
  · exact implParts_long s w l ok ha (by omega)
theorem specParts_any (s : ByteArray) (w : World) (l : List ByteArray) (ok : Bool) (ha : Ans s l ok) :
    Calls Tryd.prog 10 #[.string s] w fun e w' => ∃ v, e = .returned (.tuple #[v, .bool ok]) ∧ ROwns w' w.heap.size 9 v (l.map Value.string) ∧ Below w.heap.size w w' := by
  by_cases h : s.size ≤ 600
  · exact specParts_in s w l ok ha h
  · exact specParts_long s w l ok ha (by omega)
theorem lineE_bad {x : ByteArray} (h : plB x = false) : lineE x = none := by simp [lineE, h]
theorem lineE_nil {x : ByteArray} (h : plB x = true) (h2 : pl x = []) : lineE x = some none := by simp [lineE, h, h2]
theorem lineE_rem {x x0 : ByteArray} {r : List ByteArray} (h : plB x = true) (h2 : pl x = x0 :: r) (h3 : x0.data.toList.head? = some 35) : lineE x = some none := by
  unfold lineE
  rw [if_pos h, h2, if_neg (by simp), if_pos (by exact h3)]
theorem lineE_no {x x0 : ByteArray} {r : List ByteArray} (h : plB x = true) (h2 : pl x = x0 :: r) (h3 : ¬ x0.data.toList.head? = some 35) (h4 : ((evP (x0 :: r)).2 && evOk (evP (x0 :: r)).1) = false) : lineE x = none := by
  unfold lineE
  rw [if_pos h, h2, if_neg (by simp), if_neg (by exact h3), if_neg (by rw [h4]; decide)]
theorem lineE_ev {x x0 : ByteArray} {r : List ByteArray} (h : plB x = true) (h2 : pl x = x0 :: r) (h3 : ¬ x0.data.toList.head? = some 35) (h4 : ((evP (x0 :: r)).2 && evOk (evP (x0 :: r)).1) = true) : lineE x = some (some (evP (x0 :: r)).1) := by
  unfold lineE
  rw [if_pos h, h2, if_neg (by simp), if_neg (by exact h3), if_pos h4]
theorem Tryd.i33 : (Tryd.prog.info? 33).map (fun i => (i.zero, i.size, i.bytes)) = some (some (.agg #[.int .i64 0, .string ByteArray.empty, .string ByteArray.empty, .int .i64 0, .string ByteArray.empty]), 5, 64) := by kernel_rfl
theorem map_append1 (ns : List Evt) (x : Evt) : ns.map evRow ++ [evRow x] = (ns ++ [x]).map evRow := by simp
/-- One event more. -/
theorem step_append_ev (W : World) {ops : Array Oper} {o : Oper} {a : Act} {K : Act → World → Prop} {Q : Exit → Act → World → Prop} {E : Prop} (hgd : o.guard = none) (s x : Operand)
    (ho : o.op = .call { callee := .builtin .append, args := #[s, x], argTypes := #[22, 22] }) (B : Nat) (v : Value) (ns : List Evt) (hs : a.eval s = v) (hown : EvO W B v ns) (hB : B ≤ W.heap.size)
    (g : Nat) (y : Evt) (hx : a.eval x = .slice (some ⟨g, 0, none⟩) 1 1) (hc : AtC W g 33 (evRow y).toArray) (hl : ns.length ≤ 100000000000)
    (h : ∀ v' w', EvO w' B v' (ns ++ [y]) → W.grownBy w' v.ownBlock → (∀ k, v'.ownBlock = some k → v.ownBlock = some k ∨ W.heap.size ≤ k) → K (a.put o.dst v') w') :
    if Region.wanted o (yielded ops a.tmps) = true then Oper.wp Tryd.prog o a W K Q else E := by
  refine step_append_n W hgd s x 22 ho 33 Tryd.underlying22 _ 5 64 Tryd.i33 rfl (by decide) (by decide) v (ns.map evRow) hs hown.1 g (evRow y) rfl hx ?_ ?_ (by rw [List.length_map]; exact hl) ?_
  · intro j u hj
    rw [hc.cell j]
    simpa using hj
  · intro u hu
    simp only [evRow, List.mem_cons, List.not_mem_nil, or_false] at hu
    rcases hu with rfl | rfl | rfl | rfl | rfl <;> rfl
  · intro v' w' h1 h2 h3
    refine h v' w' ⟨by rw [← map_append1]; exact h1, fun k hk => ?_⟩ h2 h3
    rcases h3 k hk with e | e
    · exact hown.2 k e
    · omega
theorem rsc_of {w : World} {B : Nat} {v : Value} {ps : List ByteArray} (h : ROwns w B 9 v (ps.map Value.string)) : RSc w v ps := by
  refine ⟨rst_of h, ?_⟩
  rcases h.2 with ⟨h1, h2⟩ | ⟨g, cap, cur, h1, h2, h3, h4, h5, h6, h7⟩
  · rw [List.length_map] at h2
    exact ⟨none, 0, by rw [h1, h2], by omega⟩
  · rw [List.length_map] at h1 h4
    exact ⟨_, _, h1, h4⟩
abbrev Ans5 (w w' : World) (v : Value) (A : List Evt × Int) : Prop := EvO w' w.heap.size v A.1 ∧ Below w.heap.size w w'
set_option maxRecDepth 100000 in
set_option maxHeartbeats 12800000 in
theorem implScript_any (s : ByteArray) (w : World) (m : Int) (hm : w.cell? ⟨2, 0, none⟩ = some (.int .i64 m)) (htab : Lib.TabIs Tryd.prog w "strings.asciiSpace" .u8 Lib.asciiSpaceTab) :
    Calls Tryd.prog 5 #[.string s] w fun e w' => ∃ v, e = .returned (.tuple #[v, .int .i64 (ansS s).2]) ∧ EvO w' w.heap.size v (ansS s).1 ∧ Below w.heap.size w w' := by
  by_cases hs : s.size ≤ 3000
  rotate_left
  · have HA : Hid (ansS s = ([], -1)) := hide (by unfold ansS; rw [if_neg (fun h => hs h.1)])
    rw [HA.out]
    go_enter Tryd.func5, Tryd.ntmps5
    go_wp2_with fail
    refine (implLines_long s w (by omega)).mono ?_
    rintro e w1 ⟨rfl, h⟩
    subst h
    go_wp2
    go_ret2
    exact ⟨_, rfl, EvO.nil _ _, Below.refl _ _⟩
  obtain ⟨L, hL⟩ : ∃ L, lns s = L := ⟨_, rfl⟩
  obtain ⟨n, hn⟩ : ∃ n, L.length = n := ⟨_, rfl⟩
  have HL := hide (implLines_any s w m hm hs)
  rw [hL] at HL
  have HTAB := hide htab
  by_cases h80 : n ≤ 80
  rotate_left
  · have HA : Hid (ansS s = ([], -1)) := hide (by unfold ansS; rw [hL, hn, if_neg (fun h => h80 h.2)])
    rw [HA.out]
    rw [hn, decide_eq_false h80] at HL
    clear hL hn
    go_enter Tryd.func5, Tryd.ntmps5
    go_wp2_with fail
    refine HL.out.mono ?_
    rintro e w1 ⟨v1, rfl, R1, B1⟩
    have HB := hide B1
    clear R1 B1
    go_wp2
    go_ret2
    exact ⟨_, rfl, EvO.nil _ _, HB.out⟩
  have HA : Hid (ansS s = readS L 0 []) := hide (by unfold ansS; rw [hL, hn, if_pos ⟨hs, h80⟩])
  rw [HA.out]
  rw [hn, decide_eq_true h80] at HL
  obtain ⟨A, hA⟩ : ∃ A, readS L 0 [] = A := ⟨_, rfl⟩
  have HA0 : Hid (readS (L.drop 0) 0 [] = A) := hide hA
  rw [hA]
  have HN := hide hn
  clear hL hA HA htab hm hn hs
  go_enter Tryd.func5, Tryd.ntmps5
  go_wp2_with fail
  refine HL.out.mono ?_
  rintro e w1 ⟨v1, rfl, R1, B1⟩
  obtain ⟨la, lc, rfl, R1⟩ := R1
  have HB1 := hide B1
  have HR1 := hide R1
  rw [HN.out]
  clear B1 R1
  go_wp2_with fail
  refine (words_any w1).mono ?_
  rintro e w2 ⟨f0, f1, f2, f3, f4, f5, f6, f7, rfl, M2⟩
  have HM2 := hide M2
  have HB2 := hide (HB1.out.trans (M2.bl.mono HB1.out.size))
  clear M2
  go_wp2
  go_loopw [7, 23] (fun ev kv wr => ∃ (k : Nat) (out : List Evt), k ≤ n ∧ kv = .int .i64 k ∧ out.length ≤ 60 ∧ Hid (readS (L.drop k) k out = A) ∧ Hid (EvO wr w2.heap.size ev out) ∧ Hid (Below w2.heap.size w2 wr)) (fun _ kv _ => n - (intOf kv).toNat)
  case atStart => exact ⟨0, [], Nat.zero_le _, rfl, by simp, HA0, hide (EvO.nil _ _), hide (Below.refl _ _)⟩
  case round =>
    obtain ⟨k, out, hk, rfl, hol, HQ, HO, HW⟩ := hrel
    have hsz := HW.out.size
    obtain ⟨oa, oc, e0v⟩ := HO.out.form
    subst e0v
    obtain ⟨ol, holn⟩ : ∃ ol, out.length = ol := ⟨_, rfl⟩
    have HOL := hide holn
    rw [holn] at hol HO ⊢
    by_cases hlt : k < n
    rotate_left
    · have hke : n ≤ k := by omega
      have HF : Hid (A = (out, 0)) := hide (by rw [← HQ.out]; exact readS_end (by rw [HN.out]; exact hke))
      go_wp2
      go_ret2
      rw [HF.out]
      exact ⟨_, rfl, HO.out.mono (by have := HB2.out.size; omega), HB2.out.trans (HW.out.mono HB2.out.size)⟩
    have hkL : k < L.length := by rw [HN.out]; exact hlt
    have HKL := hide hkL
    obtain ⟨g, off, rfl, hg, m0⟩ := HR1.out k hkL
    obtain ⟨x, hx⟩ : ∃ x, L[k] = x := ⟨_, rfl⟩
    have HX : Hid (∀ o, lineE x = o → lineE (L[k]'HKL.out) = o) := hide (fun o h => by rw [← hx] at h; exact h)
    replace m0 : w1.cell? ⟨g, off + k, none⟩ = some (.string x) := by rw [← hx]; exact m0
    have k0 : wr.cell? ⟨g, off + k, none⟩ = some (.string x) := ((HM2.out.bl.trans (HW.out.mono HM2.out.bl.size)).cell (p := ⟨g, off + k, none⟩) hg).trans m0
    have HT : Hid (Lib.TabIs Tryd.prog wr "strings.asciiSpace" .u8 Lib.asciiSpaceTab) := hide (tab_below HTAB.out (HB2.out.trans (HW.out.mono HB2.out.size)))
    have j0 : (0 : Int) ≤ (k : Int) := by omega
    have j1 : (k : Int) < (n : Int) := by omega
    clear hx m0 hkL holn
    go_wp2_with fail
    refine (implParts_any x wr (pl x) (plB x) (ans_pl x) HT.out).mono ?_
    rintro e w4 ⟨v4, rfl, R4, B4⟩
    have HR4 := hide (rsc_of R4)
    have HW4 := hide (HW.out.trans (B4.mono hsz))
    have HO4 := hide (HO.out.below B4)
    have hs4 : wr.heap.size ≤ w4.heap.size := B4.size
    clear R4 B4 k0
    cases hb : plB x with
    | false =>
      have HF : Hid (A = ([], (k : Int) + 1)) := hide (by rw [← HQ.out]; exact readS_none HKL.out (HX.out _ (lineE_bad hb)))
      clear hb
      go_wp2
      go_ret2
      rw [HF.out]
      exact ⟨_, rfl, EvO.nil _ _, HB2.out.trans (HW4.out.mono HB2.out.size)⟩
    | true =>
      cases hp : pl x with
      | nil =>
        rw [hp] at HR4
        have HQ2 : Hid (readS (L.drop (k + 1)) (k + 1) out = A) := hide (by rw [← HQ.out]; exact (readS_pass HKL.out (HX.out _ (lineE_nil hb hp))).symm)
        clear hb hp
        obtain ⟨pa, pc, rfl, -⟩ := HR4.out.2
        go_wp2_with fail
        refine (passedNil_any w4 pa pc).mono ?_
        rintro e w5 ⟨rfl, h⟩
        subst h
        go_wp2
        go_roundw
        case rel => exact ⟨k + 1, out, by omega, by go_num, by rw [HOL.out]; exact hol, HQ2, HO4, HW4⟩
        case measure => simp [intOf]; omega
      | cons x0 r =>
        rw [hp] at HR4
        have HZ : Hid ((∀ y ∈ x0 :: r, y.size ≤ 600) ∧ r.length ≤ 10) := hide ⟨fun y hy => (pl_in x y (by rw [hp]; exact hy)).1, by have := pl_len x; rw [hp] at this; simp at this; omega⟩
        by_cases h35 : x0.data.toList.head? = some 35
        · have HQ2 : Hid (readS (L.drop (k + 1)) (k + 1) out = A) := hide (by rw [← HQ.out]; exact (readS_pass HKL.out (HX.out _ (lineE_rem hb hp h35))).symm)
          have HP := hide (passed_any w4 v4 x0 r HR4.out.1 HZ.out.2)
          rw [decide_eq_true h35] at HP
          clear hb hp h35
          obtain ⟨pa, pc, rfl, -⟩ := HR4.out.2
          go_wp2_with fail
          refine HP.out.mono ?_
          rintro e w5 ⟨rfl, h⟩
          subst h
          go_wp2
          go_roundw
          case rel => exact ⟨k + 1, out, by omega, by go_num, by rw [HOL.out]; exact hol, HQ2, HO4, HW4⟩
          case measure => simp [intOf]; omega
        · have HP := hide (passed_any w4 v4 x0 r HR4.out.1 HZ.out.2)
          rw [decide_eq_false h35] at HP
          have HEV := hide (eventOf_any w1 f0 f1 f2 f3 f4 f5 f6 f7 w4 (HM2.out.over HW4.out) v4 x0 r HR4.out HZ.out.1 HZ.out.2)
          have HL4 := hide (And.intro (lineE_no hb hp h35) (lineE_ev hb hp h35))
          clear hb hp h35
          obtain ⟨pa, pc, rfl, -⟩ := HR4.out.2
          obtain ⟨⟨E, okE⟩, hE⟩ : ∃ E, evP (x0 :: r) = E := ⟨_, rfl⟩
          rw [hE] at HEV HL4
          clear hE
          obtain ⟨x1, x2, x3, x4, x5⟩ := E
          simp only at HEV HL4
          obtain ⟨okB, hokB⟩ : ∃ b, (okE && evOk (x1, x2, x3, x4, x5)) = b := ⟨_, rfl⟩
          rw [hokB] at HEV HL4
          clear hokB
          rw [show (x0 :: r).length = r.length + 1 from rfl] at HP HEV ⊢
          go_wp2_with fail
          refine HP.out.mono ?_
          rintro e w5 ⟨rfl, h⟩
          subst h
          go_wp2_with fail
          refine HEV.out.mono ?_
          rintro e w6 ⟨rfl, B6⟩
          have HW6 := hide (HW4.out.trans (B6.mono (Nat.le_trans hsz hs4)))
          have HO6 := hide (HO4.out.below B6)
          have hs6 : w2.heap.size ≤ w6.heap.size := HW6.out.size
          clear B6
          cases okB with
          | false =>
            have HF : Hid (A = ([], (k : Int) + 1)) := hide (by rw [← HQ.out]; exact readS_none HKL.out (HX.out _ (HL4.out.1 rfl)))
            go_wp2
            go_ret2
            rw [HF.out]
            exact ⟨_, rfl, EvO.nil _ _, HB2.out.trans ((HW6.out.alloc hs6 _).mono HB2.out.size)⟩
          | true =>
            by_cases h60 : ol = 60
            · have HF : Hid (A = ([], (k : Int) + 1)) := hide (by rw [← HQ.out]; exact readS_full HKL.out (HX.out _ (HL4.out.2 rfl)) (HOL.out.trans h60))
              subst h60
              go_wp2
              go_ret2
              rw [HF.out]
              exact ⟨_, rfl, EvO.nil _ _, HB2.out.trans ((HW6.out.alloc hs6 _).mono HB2.out.size)⟩
            · have HQ2 : Hid (readS (L.drop (k + 1)) (k + 1) (out ++ [(x1, x2, x3, x4, x5)]) = A) := hide (by rw [← HQ.out]; exact (readS_more HKL.out (HX.out _ (HL4.out.2 rfl)) (fun e => h60 (HOL.out.symm.trans e))).symm)
              have h61 : ((ol : Int) == 60) = false := by simp; omega
              have hol2 : ol < 60 := by omega
              clear h60
              obtain ⟨X1, hX1⟩ : ∃ X1, w6.alloc (.cells #[.int .i64 x1, .string x2, .string x3, .int .i64 x4, .string x5] 33) = X1 := ⟨_, rfl⟩
              have HX1 : Hid (Below w2.heap.size w2 X1 ∧ EvO X1 w2.heap.size (.slice oa ol oc) out ∧ AtC X1 w6.heap.size 33 #[.int .i64 x1, .string x2, .string x3, .int .i64 x4, .string x5]) := by
                rw [← hX1]
                exact hide ⟨HW6.out.alloc hs6 _, HO6.out.below ((Below.refl _ w6).alloc (Nat.le_refl _) _), AtC.new w6 33 _⟩
              obtain ⟨eb, heb⟩ : ∃ eb, w6.heap.size = eb := ⟨_, rfl⟩
              rw [heb] at HX1
              obtain ⟨y0, y1, y2, y3, y4, yz⟩ := HX1.out.2.2.five
              obtain ⟨X2, hX2⟩ : ∃ X2, X1.alloc (.cells #[.int .i64 x1, .string x2, .string x3, .int .i64 x4, .string x5] 33) = X2 := ⟨_, rfl⟩
              have HX2 : Hid (Below w2.heap.size w2 X2 ∧ EvO X2 w2.heap.size (.slice oa ol oc) out ∧ AtC X2 X1.heap.size 33 (evRow ((x1, x2, x3, x4, x5) : Evt)).toArray ∧ w2.heap.size ≤ X2.heap.size) := by
                rw [← hX2]
                exact hide ⟨HX1.out.1.alloc HX1.out.1.size _, HX1.out.2.1.below ((Below.refl _ X1).alloc (Nat.le_refl _) _), AtC.new X1 33 _, by have := HX1.out.1.size; simp; omega⟩
              obtain ⟨nb, hnb⟩ : ∃ nb, X1.heap.size = nb := ⟨_, rfl⟩
              rw [hnb] at HX2
              have HTL := hide (show out.length ≤ 100000000000 by have := HOL.out; omega)
              go_wp2_with (at_builtin; refine wpList_step fun K' hK' => ?_; refine step_append_ev _ rfl (.tmp 54) (.tmp 56) rfl w2.heap.size (.slice oa ol oc) out rfl HX2.out.2.1 HX2.out.2.2.2 nb (x1, x2, x3, x4, x5) rfl HX2.out.2.2.1 HTL.out ?_; intro v12 w12 T12 G12 V12; refine hK' _ _ ?_; have HR12 := hide (And.intro T12 (And.intro G12 V12)); clear T12 G12 V12 hK')
              have HW12 : Hid (Below w2.heap.size w2 w12) := hide (HX2.out.1.grown HR12.out.2.1 HX2.out.2.2.2 (fun k e => (HX2.out.2.1.lt k e).1))
              go_wp2
              go_roundw
              case rel => exact ⟨k + 1, out ++ [(x1, x2, x3, x4, x5)], by omega, by go_num, by rw [List.length_append, HOL.out]; simp; omega, HQ2, hide HR12.out.1, HW12⟩
              case measure => simp [intOf]; omega
end Go.Proofs.YthfiaihbpnlbjaaDoor
