/- spec.ReadScript by its contract. -/
import Derived.Test.YthfiaihbpnlbjaaDoorRi
namespace Go.Proofs.YthfiaihbpnlbjaaDoor
open Go.RowKit Kit
theorem lns_len (s : ByteArray) : (lns s).length ≤ s.size + 1 := by
  have h1 := sAll_len s
  have h2 := countNl_le s
  unfold lns noE
  split
  · rw [List.length_dropLast]
    omega
  · omega
theorem head35 {x : ByteArray} {c : Nat} (h : 0 < x.size) (hc : (x[0]).toNat = c) : (x.data.toList.head? = some 35) ↔ c = 35 := by
  have e : x.data.toList.head? = some x[0] := by
    rw [List.head?_eq_getElem?, List.getElem?_eq_getElem (by rw [← Lib.size_eq]; exact h)]
    rfl
  rw [e]
  constructor
  · intro h2
    have := Option.some.inj h2
    rw [← hc, this]
    rfl
  · intro h2
    congr 1
    exact UInt8.toNat_inj.1 (by rw [hc, h2]; rfl)
set_option maxRecDepth 100000 in
set_option maxHeartbeats 12800000 in
theorem specScript_any (s : ByteArray) (w : World) (hsz : s.size ≤ 1048576) :
    Calls Tryd.prog 4 #[.string s] w fun e w' => ∃ v, e = .returned (.tuple #[v, .int .i64 (ansS s).2]) ∧ EvO w' w.heap.size v (ansS s).1 ∧ Below w.heap.size w w' := by
  obtain ⟨W0, hW0⟩ : ∃ W0, w.alloc (.cells #[] 33) = W0 := ⟨_, rfl⟩
  have H0 : Hid (EvO W0 w.heap.size (.slice (some ⟨w.heap.size, 0, none⟩) 0 0) [] ∧ Below w.heap.size w W0) := by
    rw [← hW0]
    exact hide ⟨EvO.lit0 w, (Below.refl _ w).alloc (Nat.le_refl _) _⟩
  by_cases hs : s.size ≤ 3000
  rotate_left
  · have HA : Hid (ansS s = ([], -1)) := hide (by unfold ansS; rw [if_neg (fun h => hs h.1)])
    rw [HA.out]
    go_enter Tryd.func4, Tryd.ntmps4
    go_wp2
    go_ret2
    exact ⟨_, rfl, H0.out.1, H0.out.2⟩
  obtain ⟨L, hL⟩ : ∃ L, lns s = L := ⟨_, rfl⟩
  obtain ⟨n, hn⟩ : ∃ n, L.length = n := ⟨_, rfl⟩
  have HL := hide (fun W => specLines_any s W hs)
  rw [hL] at HL
  have HNM : Hid ((L.map Value.string).length = n) := hide (by rw [List.length_map, hn])
  by_cases h80 : n ≤ 80
  rotate_left
  · have HA : Hid (ansS s = ([], -1)) := hide (by unfold ansS; rw [hL, hn, if_neg (fun h => h80 h.2)])
    rw [HA.out]
    have hn3 : n ≤ 3001 := by
      rw [← hn, ← hL]
      have h1 := lns_len s
      omega
    clear hL hn
    go_enter Tryd.func4, Tryd.ntmps4
    go_wp2_with fail
    refine (HL.out _).mono ?_
    rintro e w1 ⟨v1, rfl, R1, B1⟩
    obtain ⟨la, lc, hv1, -⟩ := R1.form
    rw [HNM.out] at hv1
    subst hv1
    have HB := hide (H0.out.2.trans (B1.mono H0.out.2.size))
    have HE := hide (H0.out.1.below B1)
    clear R1 B1
    go_wp2
    go_ret2
    exact ⟨_, rfl, HE.out, HB.out⟩
  have HA : Hid (ansS s = readS L 0 []) := hide (by unfold ansS; rw [hL, hn, if_pos ⟨hs, h80⟩])
  rw [HA.out]
  obtain ⟨A, hA⟩ : ∃ A, readS L 0 [] = A := ⟨_, rfl⟩
  have HA0 : Hid (readS (L.drop 0) 0 [] = A) := hide hA
  rw [hA]
  have HN := hide hn
  clear hL hA HA hn
  go_enter Tryd.func4, Tryd.ntmps4
  go_wp2_with fail
  refine (HL.out _).mono ?_
  rintro e w1 ⟨v1, rfl, R1, B1⟩
  obtain ⟨la, lc, hv1, -⟩ := R1.form
  rw [HNM.out] at hv1
  subst hv1
  have HB1 := hide (H0.out.2.trans (B1.mono H0.out.2.size))
  have HE1 := hide (H0.out.1.below B1)
  clear R1 B1 hs
  go_wp2_with fail
  refine (HL.out _).mono ?_
  rintro e w2 ⟨v2, rfl, R2, B2⟩
  have hr2 := rst_of R2
  obtain ⟨la, lc, rfl, Q2⟩ := hr2
  have HR1 := hide Q2
  rw [HN.out]
  have HB2 := hide (HB1.out.trans (B2.mono HB1.out.size))
  have HE2 := hide (HE1.out.below B2)
  clear B2 R2 Q2 HL
  have HE3 := hide (HE2.out.below ((Below.refl _ w2).alloc (Nat.le_refl _) (.cells #[] 33)))
  have HO3 := hide (EvO.lit0 w2)
  obtain ⟨W3, hW3⟩ : ∃ W3, w2.alloc (.cells #[] 33) = W3 := ⟨_, rfl⟩
  have HB3 : Hid (Below w2.heap.size w2 W3) := by
    rw [← hW3]
    exact hide ((Below.refl _ w2).alloc (Nat.le_refl _) _)
  rw [hW3] at HE3 HO3
  go_wp2
  go_loopw [6, 7] (fun ev kv wr => ∃ (k : Nat) (out : List Evt), k ≤ n ∧ kv = .int .i64 k ∧ out.length ≤ 60 ∧ Hid (readS (L.drop k) k out = A) ∧ Hid (EvO wr w2.heap.size ev out) ∧ Hid (Below w2.heap.size w2 wr)) (fun _ kv _ => n - (intOf kv).toNat)
  case atStart => exact ⟨0, [], Nat.zero_le _, rfl, by simp, HA0, HO3, HB3⟩
  case round =>
    obtain ⟨k, out, hk, rfl, hol, HQ, HO, HW⟩ := hrel
    have hsz := HW.out.size
    obtain ⟨oa, oc, e0v⟩ := HO.out.form
    subst e0v
    obtain ⟨ol, holn⟩ : ∃ ol, out.length = ol := ⟨_, rfl⟩
    have HOL := hide holn
    rw [holn] at hol HO ⊢
    by_cases hlt : k < n
    rotate_left
    · have hke : n ≤ k := by omega
      have HF : Hid (A = (out, 0)) := hide (by rw [← HQ.out]; exact readS_end (by rw [HN.out]; exact hke))
      go_wp2
      go_ret2
      rw [HF.out]
      exact ⟨_, rfl, HO.out.mono (by have := HB2.out.size; omega), HB2.out.trans (HW.out.mono HB2.out.size)⟩
    have hkL : k < L.length := by rw [HN.out]; exact hlt
    have HKL := hide hkL
    obtain ⟨g, off, rfl, hg, m0⟩ := HR1.out k hkL
    obtain ⟨x, hx⟩ : ∃ x, L[k] = x := ⟨_, rfl⟩
    have HX : Hid (∀ o, lineE x = o → lineE (L[k]'HKL.out) = o) := hide (fun o h => by rw [← hx] at h; exact h)
    replace m0 : w2.cell? ⟨g, off + k, none⟩ = some (.string x) := by rw [← hx]; exact m0
    have k0 : wr.cell? ⟨g, off + k, none⟩ = some (.string x) := (HW.out.cell (p := ⟨g, off + k, none⟩) hg).trans m0
    have j0 : (0 : Int) ≤ (k : Int) := by omega
    have j1 : (k : Int) < (n : Int) := by omega
    clear hx m0 hkL holn
    go_wp2_with fail
    refine (specParts_any x wr (pl x) (plB x) (ans_pl x)).mono ?_
    rintro e w4 ⟨v4, rfl, R4, B4⟩
    have HR4 := hide (rsc_of R4)
    have HW4 := hide (HW.out.trans (B4.mono hsz))
    have HO4 := hide (HO.out.below B4)
    have hs4 : wr.heap.size ≤ w4.heap.size := B4.size
    clear R4 B4 k0
    cases hb : plB x with
    | false =>
      have HF : Hid (A = ([], (k : Int) + 1)) := hide (by rw [← HQ.out]; exact readS_none HKL.out (HX.out _ (lineE_bad hb)))
      clear hb
      go_wp2
      go_ret2
      rw [HF.out]
      exact ⟨_, rfl, HE2.out.below HW4.out, HB2.out.trans (HW4.out.mono HB2.out.size)⟩
    | true =>
      cases hp : pl x with
      | nil =>
        rw [hp] at HR4
        have HQ2 : Hid (readS (L.drop (k + 1)) (k + 1) out = A) := hide (by rw [← HQ.out]; exact (readS_pass HKL.out (HX.out _ (lineE_nil hb hp))).symm)
        clear hb hp
        obtain ⟨pa, pc, rfl, -⟩ := HR4.out.2
        go_wp2
        go_roundw
        case rel => exact ⟨k + 1, out, by omega, by go_num, by rw [HOL.out]; exact hol, HQ2, HO4, HW4⟩
        case measure => simp [intOf]; omega
      | cons x0 r =>
        rw [hp] at HR4
        have HZ : Hid ((∀ y ∈ x0 :: r, y.size ≤ 600) ∧ r.length ≤ 10) := hide ⟨fun y hy => (pl_in x y (by rw [hp]; exact hy)).1, by have := pl_len x; rw [hp] at this; simp at this; omega⟩
        have hx0 : 0 < x0.size := (pl_in x x0 (by rw [hp]; simp)).2
        obtain ⟨c, hc⟩ : ∃ c : Nat, (x0[0]).toNat = c := ⟨_, rfl⟩
        have hc1 : c < 256 := by rw [← hc]; exact (x0[0]).toNat_lt
        have H35 := hide (head35 hx0 hc)
        obtain ⟨pa, pc, rfl, hpc⟩ := HR4.out.2
        obtain ⟨pa', pc', e, hq⟩ := HR4.out.1
        simp only [Value.slice.injEq, true_and] at e
        obtain ⟨rfl, rfl⟩ := e
        obtain ⟨pg, po, rfl, hpg, q0⟩ := hq 0 (by simp)
        simp only [Nat.add_zero, List.getElem_cons_zero] at q0
        clear hq
        rw [show (x0 :: r).length = r.length + 1 from rfl] at hpc ⊢
        obtain ⟨rn, hrn⟩ : ∃ rn, r.length = rn := ⟨_, rfl⟩
        have HRN := hide hrn
        have hrl : rn ≤ 10 := by rw [← hrn]; exact HZ.out.2
        rw [hrn] at hpc ⊢
        clear hrn
        have hz1 : ((rn : Int) + 1 == 0) = false := by simp; omega
        by_cases h35 : x0.data.toList.head? = some 35
        · have HQ2 : Hid (readS (L.drop (k + 1)) (k + 1) out = A) := hide (by rw [← HQ.out]; exact (readS_pass HKL.out (HX.out _ (lineE_rem hb hp h35))).symm)
          have hce : ((c : Int) == 35) = true := by have := H35.out.1 h35; simp; omega
          clear hb hp h35
          go_wp2
          go_roundw
          case rel => exact ⟨k + 1, out, by omega, by go_num, by rw [HOL.out]; exact hol, HQ2, HO4, HW4⟩
          case measure => simp [intOf]; omega
        · have hce : ((c : Int) == 35) = false := by have : ¬ c = 35 := fun e => h35 (H35.out.2 e); simp; omega
          have HEV := hide (specEvent_any (.slice (some ⟨pg, po, none⟩) (x0 :: r).length pc) x0 r w4 HR4.out.1 (fun y hy => HZ.out.1 y (List.mem_cons_of_mem _ hy)) HZ.out.2)
          rw [show (x0 :: r).length = r.length + 1 from rfl, HRN.out] at HEV
          have HL4 := hide (And.intro (lineE_no hb hp h35) (lineE_ev hb hp h35))
          have HSZ : Hid (szE (evP (x0 :: r)).1) := hide (evF_sz (p := x0 :: r) (fun y hy => HZ.out.1 y hy) wk 1)
          clear hb hp h35
          obtain ⟨⟨E, okE⟩, hE⟩ : ∃ E, evP (x0 :: r) = E := ⟨_, rfl⟩
          rw [hE] at HEV HL4 HSZ
          clear hE
          obtain ⟨x1, x2, x3, x4, x5⟩ := E
          simp only at HEV HL4 HSZ
          have HOK := hide (fun W => specEv_any x1 x2 x3 x4 x5 W HSZ.out.1 HSZ.out.2.1 HSZ.out.2.2)
          rw [show evOk (x1, x2, x3, x4, x5) = evB x1 x2 x3 x4 x5 from rfl] at HL4
          obtain ⟨okB, hokB⟩ : ∃ b, evB x1 x2 x3 x4 x5 = b := ⟨_, rfl⟩
          rw [hokB] at HOK HL4
          clear hokB
          go_wp2_with fail
          refine HEV.out.mono ?_
          rintro e w6 ⟨rfl, B6⟩
          have HW6 := hide (HW4.out.trans (B6.mono (Nat.le_trans hsz hs4)))
          have HO6 := hide (HO4.out.below B6)
          have hs6 : w2.heap.size ≤ w6.heap.size := HW6.out.size
          clear B6 q0
          obtain ⟨X1, hX1⟩ : ∃ X1, w6.alloc (.cells #[.int .i64 x1, .string x2, .string x3, .int .i64 x4, .string x5] 33) = X1 := ⟨_, rfl⟩
          have HX1 : Hid (Below w2.heap.size w2 X1 ∧ EvO X1 w2.heap.size (.slice oa ol oc) out ∧ AtC X1 w6.heap.size 33 #[.int .i64 x1, .string x2, .string x3, .int .i64 x4, .string x5]) := by
            rw [← hX1]
            exact hide ⟨HW6.out.alloc hs6 _, HO6.out.below ((Below.refl _ w6).alloc (Nat.le_refl _) _), AtC.new w6 33 _⟩
          obtain ⟨eb, heb⟩ : ∃ eb, w6.heap.size = eb := ⟨_, rfl⟩
          rw [heb] at HX1
          obtain ⟨y0, y1, y2, y3, y4, yz⟩ := HX1.out.2.2.five
          cases okE with
          | false =>
            have HF : Hid (A = ([], (k : Int) + 1)) := hide (by rw [← HQ.out]; exact readS_none HKL.out (HX.out _ (HL4.out.1 rfl)))
            go_wp2
            go_ret2
            rw [HF.out]
            exact ⟨_, rfl, HE2.out.below HX1.out.1, HB2.out.trans (HX1.out.1.mono HB2.out.size)⟩
          | true =>
            rw [Bool.true_and] at HL4
            go_wp2_with fail
            refine (HOK.out _).mono ?_
            rintro e w7 ⟨rfl, B7⟩
            have HX7 : Hid (Below w2.heap.size w2 w7 ∧ EvO w7 w2.heap.size (.slice oa ol oc) out ∧ AtC w7 eb 33 #[.int .i64 x1, .string x2, .string x3, .int .i64 x4, .string x5]) := hide ⟨HX1.out.1.trans (B7.mono HX1.out.1.size), HX1.out.2.1.below B7, HX1.out.2.2.over B7⟩
            clear B7 y0 y1 y2 y3 y4 yz
            obtain ⟨y0, y1, y2, y3, y4, yz⟩ := HX7.out.2.2.five
            cases okB with
            | false =>
              have HF : Hid (A = ([], (k : Int) + 1)) := hide (by rw [← HQ.out]; exact readS_none HKL.out (HX.out _ (HL4.out.1 rfl)))
              go_wp2
              go_ret2
              rw [HF.out]
              exact ⟨_, rfl, HE2.out.below HX7.out.1, HB2.out.trans (HX7.out.1.mono HB2.out.size)⟩
            | true =>
              by_cases h60 : ol = 60
              · have HF : Hid (A = ([], (k : Int) + 1)) := hide (by rw [← HQ.out]; exact readS_full HKL.out (HX.out _ (HL4.out.2 rfl)) (HOL.out.trans h60))
                subst h60
                go_wp2
                go_ret2
                rw [HF.out]
                exact ⟨_, rfl, HE2.out.below HX7.out.1, HB2.out.trans (HX7.out.1.mono HB2.out.size)⟩
              · have HQ2 : Hid (readS (L.drop (k + 1)) (k + 1) (out ++ [(x1, x2, x3, x4, x5)]) = A) := hide (by rw [← HQ.out]; exact (readS_more HKL.out (HX.out _ (HL4.out.2 rfl)) (fun e => h60 (HOL.out.symm.trans e))).symm)
                have h61 : ((ol : Int) == 60) = false := by simp; omega
                have hol2 : ol < 60 := by omega
                clear h60
                obtain ⟨X2, hX2⟩ : ∃ X2, w7.alloc (.cells #[.int .i64 x1, .string x2, .string x3, .int .i64 x4, .string x5] 33) = X2 := ⟨_, rfl⟩
                have HX2 : Hid (Below w2.heap.size w2 X2 ∧ EvO X2 w2.heap.size (.slice oa ol oc) out ∧ AtC X2 w7.heap.size 33 (evRow ((x1, x2, x3, x4, x5) : Evt)).toArray ∧ w2.heap.size ≤ X2.heap.size) := by
                  rw [← hX2]
                  exact hide ⟨HX7.out.1.alloc HX7.out.1.size _, HX7.out.2.1.below ((Below.refl _ w7).alloc (Nat.le_refl _) _), AtC.new w7 33 _, by have := HX7.out.1.size; simp; omega⟩
                obtain ⟨nb, hnb⟩ : ∃ nb, w7.heap.size = nb := ⟨_, rfl⟩
                rw [hnb] at HX2
                have HTL := hide (show out.length ≤ 100000000000 by have := HOL.out; omega)
                go_wp2_with (at_builtin; refine wpList_step fun K' hK' => ?_; refine step_append_ev _ rfl (.tmp 78) (.tmp 80) rfl w2.heap.size (.slice oa ol oc) out rfl HX2.out.2.1 HX2.out.2.2.2 nb (x1, x2, x3, x4, x5) rfl HX2.out.2.2.1 HTL.out ?_; intro v12 w12 T12 G12 V12; refine hK' _ _ ?_; have HR12 := hide (And.intro T12 (And.intro G12 V12)); clear T12 G12 V12 hK')
                have HW12 : Hid (Below w2.heap.size w2 w12) := hide (HX2.out.1.grown HR12.out.2.1 HX2.out.2.2.2 (fun k e => (HX2.out.2.1.lt k e).1))
                go_wp2
                go_roundw
                case rel => exact ⟨k + 1, out ++ [(x1, x2, x3, x4, x5)], by omega, by go_num, by rw [List.length_append, HOL.out]; simp; omega, HQ2, hide HR12.out.1, HW12⟩
                case measure => simp [intOf]; omega
end Go.Proofs.YthfiaihbpnlbjaaDoor
