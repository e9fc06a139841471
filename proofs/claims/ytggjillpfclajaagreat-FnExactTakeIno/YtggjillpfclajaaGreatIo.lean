/- The leaners in their order: leaners.inOrder by its contract. -/
import Derived.Test.YtggjillpfclajaaGreatFo
import Derived.Test.YtggjillpfclajaaGreatC8
namespace Go.Proofs.YtggjillpfclajaaGreat
open Go.RowKit Kit Go.Maps
set_option maxRecDepth 100000 in
set_option maxHeartbeats 1600000 in
theorem inOrder_any {N : Nat} (L B : Nat) (E : List Ln) (ps : List Value) (w : World) (h : LEN Tryz.prog w L B E ps N) (hpl : ∀ i j : Fin E.length, i < j → E[i].pl < E[j].pl) (hE : E.length ≤ 1048576) :
    Calls Tryz.prog 75 #[.map (some B)] w fun e w' => ∃ lv ts, e = .returned lv ∧ GN KDep w' (fun k => (∃ (i : Nat) (hi : i < ps.length), ps[i].ownBlock = some k) ∨ w.heap.size ≤ k) lv ts (E.map (·.d)) ∧ Below w.heap.size w w' := by
  have H := hide h
  have HPL := hide hpl
  have HE := hide hE
  obtain ⟨D, hown, hat, hhas⟩ := h.map
  have HAT := hide hat
  have HAS := hide hhas
  clear h hpl hE hat hhas
  go_enter Tryz.func75, Tryz.ntmps75
  go_wp2_with (first | (at_range; refine wpList_range_own (H := Nat) _ rfl _ 78 rfl 3 98 (int_keyed Tryz.u3) Tryz.u78 ptrE B N D rfl hown ?_; intro w0 hrg0 hg0 hs0) | go_in)
  go_frame
  go_loopw [3] (fun fv wr => Hid (∃ left cnt F, wr.ranges Tryz.prog 3 ptrE B w.heap.size N D left cnt ∧ Fo w E wr fv F ∧ ∀ j : Fin E.length, j ∈ F ↔ left (.int .i64 E[j].d.id) = false)) (fun fv wr => wr.rangeLeft B w.heap.size)
  case atStart =>
    refine ⟨_, _, [], hrg0, ⟨NOwns.nil _ _ _, (fun k hk => by cases hk), ?_, by omega, List.nodup_nil⟩, fun j => ?_⟩
    · exact (Below.refl _ w).grown hg0 (Nat.le_refl _) (fun k hk => by cases hk)
    · have e1 := HAS.out E[j].d.id (H.out.wf j j.2)
      have e2 := lastP_some E j j.2
      rw [e1]
      constructor
      · intro e; cases e
      · intro e
        cases e3 : lastP E[j].d.id E with
        | none => exact absurd e3 e2
        | some b => rw [e3] at e; cases e
  case round =>
    obtain ⟨left, cnt, F, hrg, hF, hmem⟩ := hrel.out
    have HF := hide (And.intro hrg (And.intro hF hmem))
    clear hF hmem hrel hrg0 hg0 hs0
    go_wp2_with (at_next; refine wpList_next_ranges (H := Nat) _ rfl _ rfl 3 (int_keyed Tryz.u3) ptrE (Value.int .i64) ptrV (fun key kl hkey => by obtain ⟨x, rfl, _⟩ := Maps.keyOf_int_inv Tryz.u3 hkey; exact ⟨x, rfl⟩) (fun v y hv => by obtain ⟨o, rfl, _⟩ := ptrE_inv hv; exact ⟨o, rfl⟩) B w.heap.size N D left cnt rfl hrg ?_ ?_)
    · intro hc0 hl0
      have hall : ∀ j : Fin E.length, j ∈ F := fun j => (HF.out.2.2 j).2 (hl0 _)
      have hFo := HF.out.2.1
      have hsz := hFo.bel.size
      have HALL := hide hall
      have HFO := hide hFo
      have HCALL : Hid (Calls Tryz.prog 90 #[u3, .func (.func 91) #[] #[]] wr fun e w' => e = .returned (.tuple #[]) ∧ ∃ a c, u3 = .slice a E.length c ∧ (∀ (k : Nat) (h : k < E.length), ∃ g, a = some ⟨g, 0, none⟩ ∧ g < w'.heap.size ∧ w'.cell? ⟨g, k, none⟩ = some (.pointer (some ⟨E[k].b, 0, none⟩))) ∧ Below w.heap.size w w') := by
        have hFl : F.length = E.length := by
          have := ((List.perm_ext_iff_of_nodup hFo.nd (List.nodup_finRange E.length)).2 fun a => ⟨fun _ => List.mem_finRange a, fun _ => hall a⟩).length_eq
          simpa using this
        obtain ⟨a, c, e3, hc, ha0⟩ := hFo.own.form
        rw [List.length_map] at e3 hc
        by_cases e0 : E.length = 0
        · have e00 : u3 = .slice a 0 c := by rw [e3, hFl, e0]
          rw [e00]
          have hcon := AnyF.slices_SortFunc_none { Tryz.sortL with } a c (.func (.func 91) #[] #[]) wr
          change Calls Tryz.prog 90 _ _ _ at hcon
          refine hcon.mono ?_
          rintro e w' ⟨rfl, rfl⟩
          exact ⟨rfl, a, c, by rw [e0], fun k hk => by omega, hFo.bel⟩
        · obtain ⟨g, cap, e4, -, hfr, hg, -⟩ := hFo.own.at 0 (by rw [List.length_map]; omega)
          rw [List.length_map] at e4
          have hlo : w.heap.size < g := hFo.lo g (by rw [e4]; rfl)
          have hLE := H.out.below hFo.bel
          have hb0 : ∀ j : Fin E.length, E[j].b < w.heap.size := fun j => (H.out.cell j j.2 (by have := H.out.len; omega)).lt
          rw [e4]
          refine Calls.mono (sortL_any E F g cap wr (fun j => ?_) (fun j => ?_) (fun j => ?_) HPL.out hFo.nd hall (by omega) HE.out hg (fun k hk => ?_)) ?_
          · exact (hLE.cell j j.2 (by have := H.out.len; omega)).cell 11
          · have := hb0 j; omega
          · have := hb0 j; omega
          · obtain ⟨g2, cap2, e5, hcell, hfr2, -, -⟩ := hFo.own.at k (by rw [List.length_map]; exact hk)
            rw [e4] at e5
            simp only [Value.slice.injEq, Option.some.injEq, Addr.mk.injEq] at e5
            obtain ⟨⟨rfl, -⟩, -⟩ := e5
            refine ⟨?_, hfr2 k⟩
            have := hcell 0 (by decide)
            rw [Nat.mul_one, Nat.add_zero] at this
            rw [this]
            simp
          · rintro e w' ⟨rfl, b1, -, b3⟩
            exact ⟨rfl, _, _, by rw [hFl], fun k hk => ⟨g, rfl, Nat.lt_of_lt_of_le hg b1.size, b3 k hk⟩, hFo.bel.trans (b1.mono (by omega))⟩
      clear hall hFo hsz hl0
      go_wp2_with (go_at_call 90; refine HCALL.out.mono ?_; rintro e w9 ⟨rfl, a9, c9, rfl, C9, B9⟩; have HC9 := hide C9; have HB9 := hide B9; clear C9 B9)
      clear HCALL HF hrg hc0
      go_loopw [29, 6] (fun i lv wr => ∃ j : Nat, j ≤ E.length ∧ i = .int .i64 j ∧ Hid (NOwns wr 52 11 lv ((rowsL E ps).take j) ∧ (∀ k, lv.ownBlock = some k → w9.heap.size ≤ k) ∧ Below w9.heap.size w9 wr)) (fun i lv _ => E.length - (intOf i).toNat)
      case atStart => exact ⟨0, Nat.zero_le _, rfl, NOwns.nil _ _ _, (fun k hk => by cases hk), Below.refl _ _⟩
      case round =>
        obtain ⟨j, hj, rfl, HR⟩ := hrel
        by_cases hlt : j < E.length
        · obtain ⟨hn, hlo, hbl⟩ := HR.out
          obtain ⟨g, rfl, hg, hcj⟩ := HC9.out j hlt
          have hlm := H.out.len
          have hbw : Below w.heap.size w wr := HB9.out.trans (hbl.mono HB9.out.size)
          have cj : wr.cell? ⟨g, j, none⟩ = some (.pointer (some ⟨E[j].b, 0, none⟩)) := (hbl.cell (p := ⟨g, j, none⟩) hg).trans hcj
          have kc := (H.out.below hbw).cell j hlt (by omega)
          have own := (H.out.below hbw).own j hlt (by omega)
          have hrl := rowsL_length hlm
          have htk : (rowsL E ps).take j ++ [E[j].d.row (ps[j]'(by omega))] = (rowsL E ps).take (j + 1) := by
            rw [← rowsL_at j (by omega) hlt (by omega)]
            exact List.take_append_getElem (by omega)
          obtain ⟨X, hX⟩ : ∃ X, E[j].d = X := ⟨_, rfl⟩
          obtain ⟨p, hp⟩ : ∃ p, ps[j]'(by omega) = p := ⟨_, rfl⟩
          rw [hX, hp] at kc own htk
          obtain ⟨id, kd, io, pt, bk, sl, nm, bt, ot, af, bl⟩ := X
          obtain ⟨pa, pc, rfl⟩ := own.rints.form
          simp only [lnRow_mk] at kc
          obtain ⟨eb, heb⟩ : ∃ eb, E[j].b = eb := ⟨_, rfl⟩
          rw [heb] at kc cj
          obtain ⟨a1, c1, e1, hc1, -⟩ := hn.form
          have htl : ((rowsL E ps).take j).length = j := by rw [List.length_take]; omega
          have d0 : wr.cell? ⟨eb, 0, none⟩ = some (.int .i64 id) := kc.cell 0
          have d1 : wr.cell? ⟨eb, 1, none⟩ = some (.int .i64 kd) := kc.cell 1
          have d2 : wr.cell? ⟨eb, 2, none⟩ = some (.int .i64 io) := kc.cell 2
          have d3 : wr.cell? ⟨eb, 3, none⟩ = some (.int .i64 pt) := kc.cell 3
          have d4 : wr.cell? ⟨eb, 4, none⟩ = some (.int .i64 bk) := kc.cell 4
          have d5 : wr.cell? ⟨eb, 5, none⟩ = some (.int .i64 sl) := kc.cell 5
          have d6 : wr.cell? ⟨eb, 6, none⟩ = some (.string nm) := kc.cell 6
          have d7 : wr.cell? ⟨eb, 7, none⟩ = some (.bool bt) := kc.cell 7
          have d8 : wr.cell? ⟨eb, 8, none⟩ = some (.bool ot) := kc.cell 8
          have d9 : wr.cell? ⟨eb, 9, none⟩ = some (.int .i64 af) := kc.cell 9
          have d10 : wr.cell? ⟨eb, 10, none⟩ = some (.slice pa bl.length pc) := kc.cell 10
          have HT : Hid (NOwns (wr.alloc (.cells #[.int .i64 id, .int .i64 kd, .int .i64 io, .int .i64 pt, .int .i64 bk, .int .i64 sl, .string nm, .bool bt, .bool ot, .int .i64 af, .slice pa bl.length pc] 52)) 52 11 u6 ((rowsL E ps).take j)) := hn.of_heap fun k hk => ((Below.refl _ wr).alloc (Nat.le_refl _) _).block k (hn.lt k hk)
          have HTL : Hid (((rowsL E ps).take j).length ≤ 100000000000) := by
            have q2 := HE.out
            show _ ≤ _
            omega
          have HSTEP : Hid (∀ v' w', NOwns w' 52 11 v' ((rowsL E ps).take j ++ [(⟨id, kd, io, pt, bk, sl, nm, bt, ot, af, bl⟩ : Dp).row (.slice pa bl.length pc)]) → (wr.alloc (.cells #[.int .i64 id, .int .i64 kd, .int .i64 io, .int .i64 pt, .int .i64 bk, .int .i64 sl, .string nm, .bool bt, .bool ot, .int .i64 af, .slice pa bl.length pc] 52)).grownBy w' u6.ownBlock → (∀ k, v'.ownBlock = some k → u6.ownBlock = some k ∨ (wr.alloc (.cells #[.int .i64 id, .int .i64 kd, .int .i64 io, .int .i64 pt, .int .i64 bk, .int .i64 sl, .string nm, .bool bt, .bool ot, .int .i64 af, .slice pa bl.length pc] 52)).heap.size ≤ k) → NOwns w' 52 11 v' ((rowsL E ps).take (j + 1)) ∧ (∀ k, v'.ownBlock = some k → w9.heap.size ≤ k) ∧ Below w9.heap.size w9 w') := fun v' w' q1 q2 q3 => by
            have hsz := hbl.size
            refine ⟨by rw [htk] at q1; exact q1, fun k hk => ?_, ?_⟩
            · rcases q3 k hk with e | e
              · exact hlo k e
              · simp at e; omega
            · exact (hbl.alloc hsz _).grown q2 (by simp; omega) (fun k hk => hlo k hk)
          have hE1 : E.length ≤ 1048576 := HE.out
          have j0 : (0 : Int) ≤ (j : Int) := by omega
          have j1 : (j : Int) < (E.length : Int) := by omega
          clear HR hn hlo hbl hcj hbw kc own htk hX hp heb e1 hc1 hg
          go_wp2_with (at_builtin; refine wpList_step fun K' hK' => ?_; refine step_append_n _ rfl (.tmp 33) (.tmp 38) 38 rfl 52 Tryz.u38 _ 11 104 Tryz.i52 rfl (by decide) (by decide) u6 _ rfl HT.out wr.heap.size ((⟨id, kd, io, pt, bk, sl, nm, bt, ot, af, bl⟩ : Dp).row (.slice pa bl.length pc)) rfl rfl (fun i u hu => (AtC.new wr 52 #[.int .i64 id, .int .i64 kd, .int .i64 io, .int .i64 pt, .int .i64 bk, .int .i64 sl, .string nm, .bool bt, .bool ot, .int .i64 af, .slice pa bl.length pc]).at_ i u hu) (by simp [Dp.row, Value.oneCell']) HTL.out ?_; intro v12 w12 T12 G12 V12; refine hK' _ _ ?_; have HR12 := hide (HSTEP.out v12 w12 T12 G12 V12); clear T12 G12 V12 hK')
          go_roundw
          case rel => exact ⟨j + 1, by omega, by go_num, HR12.out⟩
          case measure => simp [intOf]; omega
        · have hj2 : j = E.length := by omega
          subst hj2
          go_wp2
          go_ret
          obtain ⟨hn, hlo, hbl⟩ := HR.out
          have hbw : Below w.heap.size w wr := HB9.out.trans (hbl.mono HB9.out.size)
          have hrl := rowsL_length H.out.len
          rw [← hrl, List.take_length] at hn
          exact ⟨_, _, rfl, H.out.list hn (fun k hk => Nat.le_trans HB9.out.size (hlo k hk)) hbw, hbw⟩
    · intro x c kl ya yb w1 cnt1 hkey hlk hv hzat hrg1 hlt hg1 hs1 hen
      obtain ⟨x', ex, rfl, hwx⟩ := Maps.keyOf_int_inv Tryz.u3 hkey
      cases ex
      have hc : lastP x E = c := by
        have e1 := HAT.out x hwx
        rw [hzat] at e1
        rw [ptrE_mk] at hv
        simp only [Option.some.injEq, Prod.mk.injEq] at hv
        rw [← hv.1] at e1
        exact (datP_inj e1).symm
      subst hc
      have HI := hide (And.intro hrg1 (And.intro (HF.out.2.1.turn hg1) HF.out.2.2))
      have HLK := hide hlk
      have HLT := hide (And.intro hlt hrg)
      clear hkey hv hzat hrg hrg1 hlk hlt hg1 hs1 HF
      go_wp2_with fail
      go_loopw [5, 3] (fun one fv wr => Hid (∃ t F, t ≤ E.length ∧ one = ptrV (lastP x (E.take t)) ∧ wr.ranges Tryz.prog 3 ptrE B w.heap.size N D (fun z => left z && !z.sameKey (.int .i64 x)) cnt1 ∧ Fo w E wr fv F ∧ ∀ j : Fin E.length, j ∈ F ↔ (left (.int .i64 E[j].d.id) = false ∨ (E[j].d.id = x ∧ t ≤ j.1)))) (fun one fv wr => E.length - lenOf fv)
      case atStart => exact ⟨E.length, F, Nat.le_refl _, by rw [List.take_length], HI.out.1, HI.out.2.1, fun j => (HI.out.2.2 j).trans ⟨.inl, fun e => e.elim id fun e => absurd e.2 (by have := j.2; omega)⟩⟩
      case round =>
        obtain ⟨t, F2, ht, e5, hrg2, hF2, hm2⟩ := hrel.out
        clear hrel
        rcases lastP_spec x E t ht with ⟨h1, h2⟩ | ⟨i, hi, hit, h1, h3, h4⟩
        · rw [h1] at e5
          simp only [ptrV] at e5
          subst e5
          go_wp2
          go_roundw
          case rel =>
            refine ⟨_, cnt1, F2, hrg2, hF2, fun j => (hm2 j).trans ⟨fun e => ?_, fun e => ?_⟩⟩
            · rcases e with e | e
              · show (left (.int .i64 E[j].d.id) && !(Lit.int .i64 E[j].d.id).sameKey (.int .i64 x)) = false
                rw [e]; rfl
              · show (left (.int .i64 E[j].d.id) && !(Lit.int .i64 E[j].d.id).sameKey (.int .i64 x)) = false
                rw [sameKey_int, e.1]; simp
            · by_cases e2 : E[j].d.id = x
              · exact .inr ⟨e2, by
                  by_cases q : t ≤ j.1
                  · exact q
                  · exact absurd e2 (h2 j j.2 (by omega))⟩
              · refine .inl ?_
                have e' : (left (.int .i64 E[j].d.id) && !(Lit.int .i64 E[j].d.id).sameKey (.int .i64 x)) = false := e
                rw [sameKey_int, decide_eq_false e2, Bool.not_false, Bool.and_true] at e'
                exact e'
          case measure => rw [hrg2.left_eq, HLT.out.2.left_eq]; exact HLT.out.1
        · rw [h1] at e5
          simp only [ptrV] at e5
          subst e5
          have hlm := H.out.len
          have hni : (⟨i, hi⟩ : Fin E.length) ∉ F2 := fun q => by
            rcases (hm2 ⟨i, hi⟩).1 q with e | e
            · have e' : left (.int .i64 E[i].d.id) = false := e
              rw [h3, HLK.out] at e'
              cases e'
            · have := e.2
              simp only at this
              omega
          have HT : Hid (NOwns (wr.alloc (.cells #[.pointer (some ⟨E[i].b, 0, none⟩)] 98)) 98 1 u3 (F2.map fun j => [Value.pointer (some ⟨E[j].b, 0, none⟩)])) := hF2.own.of_heap fun k hk => ((Below.refl _ wr).alloc (Nat.le_refl _) _).block k (hF2.own.lt k hk)
          have HTL : Hid ((F2.map fun j => [Value.pointer (some ⟨E[j].b, 0, none⟩)]).length ≤ 100000000000) := by
            have q1 := hF2.len
            have q2 := HE.out
            show _ ≤ _
            rw [List.length_map]
            omega
          have HSTEP : Hid (∀ v' w', NOwns w' 98 1 v' ((F2.map fun j => [Value.pointer (some ⟨E[j].b, 0, none⟩)]) ++ [[Value.pointer (some ⟨E[i].b, 0, none⟩)]]) → (wr.alloc (.cells #[.pointer (some ⟨E[i].b, 0, none⟩)] 98)).grownBy w' u3.ownBlock → (∀ k, v'.ownBlock = some k → u3.ownBlock = some k ∨ (wr.alloc (.cells #[.pointer (some ⟨E[i].b, 0, none⟩)] 98)).heap.size ≤ k) → w'.cell? ⟨E[i].b, 12, none⟩ = some (ptrV (lastP x (E.take i))) ∧ lenOf v' = F2.length + 1 ∧ ∃ t F, t ≤ E.length ∧ ptrV (lastP x (E.take i)) = ptrV (lastP x (E.take t)) ∧ w'.ranges Tryz.prog 3 ptrE B w.heap.size N D (fun z => left z && !z.sameKey (.int .i64 x)) cnt1 ∧ Fo w E w' v' F ∧ ∀ j : Fin E.length, j ∈ F ↔ (left (.int .i64 E[j].d.id) = false ∨ (E[j].d.id = x ∧ t ≤ j.1))) := fun v' w' q1 q2 q3 => by
            have hF3 := hF2.app ⟨i, hi⟩ hni q1 q2 q3
            have hsz := hF2.sz
            refine ⟨?_, ?_, i, _, Nat.le_of_lt hi, rfl, ?_, hF3, fun j => ?_⟩
            · have k := ((H.out.below hF3.bel).cell i hi (by omega)).cell 12
              rw [h3] at k
              exact k
            · rw [hF3.lenV, List.length_append]; rfl
            · refine (hrg2.alloc _).kept q2 (fun e => ?_) (fun e => ?_)
              · have := hF2.lo B e.symm
                have := H.out.lt
                omega
              · have := hF2.lo w.heap.size e.symm
                omega
            · rw [List.mem_append, hm2 j]
              constructor
              · rintro ((q | q) | q)
                · exact .inl q
                · exact .inr ⟨q.1, by omega⟩
                · have q' : j = ⟨i, hi⟩ := by simpa using q
                  subst q'
                  exact .inr ⟨h3, Nat.le_refl _⟩
              · rintro (q | q)
                · exact .inl (.inl q)
                · by_cases e : t ≤ j.1
                  · exact .inl (.inr ⟨q.1, e⟩)
                  · by_cases e2 : i = j.1
                    · right
                      rw [List.mem_singleton]
                      exact Fin.ext e2.symm
                    · exact absurd q.1 (h4 j j.2 (by omega) (by omega))
          have hlv := hF2.lenV
          have hlen2 : F2.length + 1 ≤ E.length := by
            have := List.Nodup.length_le_of_subset (l₁ := F2 ++ [⟨i, hi⟩]) (l₂ := List.finRange E.length) (by
              rw [List.nodup_append]
              exact ⟨hF2.nd, by simp, fun a ha b hb => by simp at hb; subst hb; exact fun e => hni (e ▸ ha)⟩) (fun a _ => List.mem_finRange a)
            simpa using this
          have HLV := hide (And.intro hlv hlen2)
          clear hrg2 hF2 hm2 h4 h1 hni hlv hlen2
          generalize E[i].b = eb at *
          go_wp2_with (at_builtin; refine wpList_step fun K' hK' => ?_; refine step_append_n _ rfl (.tmp 21) (.tmp 23) 124 rfl 98 Tryz.u124 _ 1 8 Tryz.i98 rfl (by decide) (by decide) u3 _ rfl HT.out wr.heap.size [.pointer (some ⟨eb, 0, none⟩)] rfl rfl (fun j u hu => (AtC.new wr 98 #[.pointer (some ⟨eb, 0, none⟩)]).at_ j u hu) (by simp [Value.oneCell']) HTL.out ?_; intro v12 w12 T12 G12 V12; refine hK' _ _ ?_; obtain ⟨c12, l12, R12⟩ := HSTEP.out v12 w12 T12 G12 V12; have HR12 := hide R12; clear R12 T12 G12 V12 hK')
          go_roundw
          case rel => exact HR12.out
          case measure =>
            have q := HLV.out
            simp only [l12, q.1]
            omega
end Go.Proofs.YtggjillpfclajaaGreat
