/- spec.ReadBlock by its contract. -/
import Derived.Test.YtfffiboggpjjkaaRb
import Derived.Test.YtfffiboggpjjkaaRdS
import Derived.Test.YtfffiboggpjjkaaTextS
import Derived.Test.YtfffiboggpjjkaaTo
import Derived.Test.YtfffiboggpjjkaaApp
namespace Go.Proofs.Ytfffiboggpjjkaa
open Go.RowKit Kit
/-- What holds while slots are read. -/
structure DirS (w wr : World) (s : ByteArray) (v : Value) (j p : Nat) (ys : List Sl) : Prop where
  res : AtC wr w.heap.size 26 #[.bool false, .slice none 0 0, .string ⟨#[]⟩]
  var : AtC wr (w.heap.size + 1) 26 #[.bool true, v, .string ⟨#[]⟩]
  own : SOwns wr (w.heap.size + 1 + 1) 36 v ys
  bel : Below w.heap.size w wr
  up : Upto s j p ys
theorem DirS.over {w wr w' : World} {s : ByteArray} {v : Value} {j p : Nat} {ys : List Sl} (h : DirS w wr s v j p ys) (hb : Below wr.heap.size wr w') : DirS w w' s v j p ys :=
  ⟨h.res.over hb, h.var.over hb, h.own.below hb (Nat.le_refl _), h.bel.trans (hb.mono h.bel.size), h.up⟩
theorem DirS.next {w wr w' : World} {s t : ByteArray} {v v' : Value} {j p q : Nat} {x : Int} {ys : List Sl} (h : DirS w wr s v j p ys) (O : SOwns w' (w.heap.size + 1 + 1) 36 v' (ys ++ [(t, x)])) (B : Below (w.heap.size + 1 + 1) wr w') (U : Upto s (j + 1) q (ys ++ [(t, x)])) :
    DirS w (w'.setCell ⟨w.heap.size + 1, 1, none⟩ v') s v' (j + 1) q (ys ++ [(t, x)]) :=
  ⟨(h.res.below B (by omega)).other (by omega) _, (h.var.below B (by omega)).set 1 _, O.setCell_low (by omega) _, (h.bel.trans (B.mono (by omega))).setCell (by simp) _, U⟩
theorem specRead_none (s : ByteArray) (w : World) (h : s.size = 0) :
    Calls Try.prog 14 #[.string s] w fun e w' => e = .returned (.tuple #[.agg #[.bool false, .slice none 0 0, .string ⟨#[]⟩], .bool false]) ∧ Below w.heap.size w w' := by
  have he := emp_true h
  go_enter Try.func14, Try.ntmps14
  go_wp2
  refine bodyPost_ret (v := .tuple #[.agg #[.bool false, .slice none 0 0, .string ⟨#[]⟩], .bool false]) (by simp [results, go_sem]) rfl ⟨rfl, by go_grown⟩
set_option linter.unusedSimpArgs false in
set_option maxRecDepth 100000 in
set_option maxHeartbeats 3200000 in
theorem specRead_dir (s : ByteArray) (w : World) (hs : s.size ≤ 1048576) (h0 : 0 < s.size) (hd : s[0] = 100) :
    Calls Try.prog 14 #[.string s] w fun e w' => ∃ v, e = .returned (.tuple #[.agg #[.bool (rD s), v, .string (rT s)], .bool (rOk s)]) ∧ SOwns w' w.heap.size 36 v (rX s) ∧ Below w.heap.size w w' := by
  have he := emp_false h0
  have hx : ((s[0]).toNat : Int) = 100 := by rw [hd]; rfl
  have hi1 : (1 : Int) ≤ (s.size : Int) := by omega
  have hi0 : (0 : Int) < (s.size : Int) := by omega
  go_enter Try.func14, Try.ntmps14
  go_wp2_with fail
  go_loopw [5, 6, 7, 8, 9] (fun a i _ _ _ wr => ∃ (j p : Nat) (v : Value) (ys : List Sl), j ≤ 4 ∧ i = .int .i64 j ∧ a = .int .i64 p ∧ DirS w wr s v j p ys) (fun _ i _ _ _ _ => 4 - (intOf i).toNat)
  case atStart =>
    refine ⟨0, 1, .slice none 0 0, [], Nat.zero_le _, rfl, rfl, (AtC.new w 26 _).alloc _, ?_, SOwns.nil _ _ _, ((Below.refl _ w).alloc (Nat.le_refl _) _).alloc (by simp) _, Upto.start h0⟩
    have := AtC.new (w.alloc (.cells #[.bool false, .slice none 0 0, .string ⟨#[]⟩] 26)) 26 #[.bool true, .slice none 0 0, .string ⟨#[]⟩]
    simpa using this
  case round =>
    obtain ⟨j, p, v, ys, hj, rfl, rfl, hd0⟩ := hrel
    have HD := hide hd0
    have hyl : ys.length = j := hd0.up.1
    have HYL := hide hyl
    have hyl4 : ys.length ≤ 4 := by omega
    clear hyl
    have hps : p ≤ s.size := hd0.up.2.1
    obtain ⟨va, vc, rfl, -⟩ := hd0.own.form
    obtain ⟨c0, c1, c2, cl⟩ := hd0.var.three
    obtain ⟨r0, r1, r2, rl⟩ := hd0.res.three
    obtain ⟨f0, f1, f2⟩ := hd0.res.frz
    clear hd0
    by_cases hgo : j < 4 ∧ p < s.size
    · obtain ⟨hlt, hp⟩ := hgo
      have hp1 : (p : Int) < (s.size : Int) := by omega
      have hp0 : (0 : Int) ≤ (p : Int) := by omega
      have C1 := hide (fun W => specRS_in s (p + 1) W hs (by omega))
      rw [show ((p + 1 : Nat) : Int) = (p : Int) + 1 from rfl] at C1
      cases hr : rsO s (p + 1) with
      | none =>
        obtain ⟨e1, e2, e3, e4⟩ := r_none (readR_dirn h0 hd (HD.out.up.none hlt hp hr))
        rw [rsVal_none' hr] at C1
        have HE := hide (And.intro e1 (And.intro e2 (And.intro e3 e4)))
        clear e1 e2 e3 e4 hr c0 c1 c2
        go_wp2_with (go_at_call 39; refine (C1.out _).mono ?_; rintro e w2 ⟨rfl, B2⟩; obtain ⟨x0, x1, x2, xl⟩ := (HD.out.res.over B2).three; obtain ⟨g0, g1, g2⟩ := (HD.out.res.over B2).frz; have HB2 := hide (HD.out.bel.trans (B2.mono HD.out.bel.size)); clear B2)
        refine bodyPost_ret (v := .tuple #[.agg #[.bool false, .slice none 0 0, .string ⟨#[]⟩], .bool false]) (by simp [results, go_sem, x0, x1, x2]) rfl ?_
        rw [HE.out.1, HE.out.2.1, HE.out.2.2.1, HE.out.2.2.2]
        exact ⟨_, rfl, SOwns.nil _ _ _, ((HB2.out.setCell (Nat.le_refl _) _).setCell (Nat.le_refl _) _).setCell (Nat.le_refl _) _⟩
      | some tq =>
        obtain ⟨t, q⟩ := tq
        have HU := hide (HD.out.up.next hlt hp hr)
        rw [rsVal_some' hr] at C1
        obtain ⟨x, hx2⟩ : ∃ x : Nat, (s[p]).toNat = x := ⟨_, rfl⟩
        rw [hx2] at HU
        have hx3 : x < 256 := by rw [← hx2]; exact (s[p]).toNat_lt
        have hwx : IntKind.i64.wrap (x : Int) = (x : Int) := wrapId (by omega) (by omega)
        clear hr
        clear c0 c1 c2 r0 r1 r2 f0 f1 f2
        go_wp2_with (go_at_call 39; refine (C1.out _).mono ?_; rintro e wz ⟨rfl, B2⟩; have HD2 := hide (HD.out.over B2); clear B2)
        obtain ⟨c0, c1, c2, cl2⟩ := HD2.out.var.three
        have hsz2 : w.heap.size + 1 + 1 ≤ wz.heap.size := by omega
        refine wp_region_held_drew (S := fun _ => True) (by kernel_rfl) trivial (fun hHeld => ?_)
        refine wpAnyH_take (i := 0) (oi := { dst := some 43, op := Op.fieldAddr 26 (Operand.tmp 4) 1, type := _, pos := _, after := _, guard := none }) (v := ?_) rfl (by kernel_rfl) (by kernel_rfl) (by kernel_rfl) (fun _ _ _ h => h) (Or.inl ⟨by rfl, ?_⟩) hHeld ?_
        rotate_left
        · intro W hSw; (try dsimp only at hSw); go_simp; (try with_reducible rfl)
        try simp only [Act.put, List.setIfInBounds_toArray, List.set_cons_zero, List.set_cons_succ]
        refine wpAnyH_take (i := 2) (oi := { dst := some 45, op := Op.move (Operand.tmp 7), type := _, pos := _, after := _, guard := none }) (v := ?_) rfl (by kernel_rfl) (by kernel_rfl) (by kernel_rfl) (fun _ _ _ h => h) (Or.inl ⟨by rfl, ?_⟩) hHeld ?_
        rotate_left
        · intro W hSw; (try dsimp only at hSw); go_simp; (try with_reducible rfl)
        try simp only [Act.put, List.setIfInBounds_toArray, List.set_cons_zero, List.set_cons_succ]
        refine wpAnyH_take (i := 3) (oi := { dst := some 46, op := Op.move (Operand.tmp 0), type := _, pos := _, after := _, guard := none }) (v := ?_) rfl (by kernel_rfl) (by kernel_rfl) (by kernel_rfl) (fun _ _ _ h => h) (Or.inl ⟨by rfl, ?_⟩) hHeld ?_
        rotate_left
        · intro W hSw; (try dsimp only at hSw); go_simp; (try with_reducible rfl)
        try simp only [Act.put, List.setIfInBounds_toArray, List.set_cons_zero, List.set_cons_succ]
        refine wpAnyH_take (i := 4) (oi := { dst := some 47, op := Op.move (Operand.tmp 5), type := _, pos := _, after := _, guard := none }) (v := ?_) rfl (by kernel_rfl) (by kernel_rfl) (by kernel_rfl) (fun _ _ _ h => h) (Or.inl ⟨by rfl, ?_⟩) hHeld ?_
        rotate_left
        · intro W hSw; (try dsimp only at hSw); go_simp; (try with_reducible rfl)
        try simp only [Act.put, List.setIfInBounds_toArray, List.set_cons_zero, List.set_cons_succ]
        refine wpAnyH_take (i := 5) (oi := { dst := some 48, op := Op.index 9 (Operand.tmp 46) (Operand.tmp 47), type := _, pos := _, after := _, guard := none }) (v := ?_) rfl (by kernel_rfl) (by kernel_rfl) (by kernel_rfl) (fun _ _ _ h => h) (Or.inl ⟨by rfl, ?_⟩) hHeld ?_
        rotate_left
        · intro W hSw; (try dsimp only at hSw); go_simp; (try with_reducible rfl)
        try simp only [Act.put, List.setIfInBounds_toArray, List.set_cons_zero, List.set_cons_succ]
        refine wpAnyH_take (i := 6) (oi := { dst := some 49, op := Op.convert 5 3 (Operand.tmp 48), type := _, pos := _, after := _, guard := none }) (v := ?_) rfl (by kernel_rfl) (by kernel_rfl) (by kernel_rfl) (fun _ _ _ h => h) (Or.inl ⟨by rfl, ?_⟩) hHeld ?_
        rotate_left
        · intro W hSw; (try dsimp only at hSw); go_simp; (try with_reducible rfl)
        try simp only [Act.put, List.setIfInBounds_toArray, List.set_cons_zero, List.set_cons_succ]
        refine wpAnyH_take (i := 7) (oi := { dst := some 50, op := Op.build 36 #[(0, Operand.tmp 45), (1, Operand.tmp 49)], type := _, pos := _, after := _, guard := none }) (v := ?_) rfl (by kernel_rfl) (by kernel_rfl) (by kernel_rfl) (fun _ _ _ h => h) (Or.inl ⟨by rfl, ?_⟩) hHeld ?_
        rotate_left
        · intro W hSw; (try dsimp only at hSw); go_simp; (try with_reducible rfl)
        try simp only [Act.put, List.setIfInBounds_toArray, List.set_cons_zero, List.set_cons_succ]
        refine wpAnyH_ready (rs := [1, 8]) (by kernel_rfl) (by simp) ?_
        refine AllReadyH.cons (o := { dst := some 44, op := Op.load 24 (Operand.tmp 43), type := _, pos := _, after := _, guard := none }) rfl (fun K hK => ?_) ?_
        · go_simp
          refine hK.out _ _ (trivial) (fun hHeld => ?_)
          clear hK K
          try simp only [Act.put, List.setIfInBounds_toArray, List.set_cons_zero, List.set_cons_succ]
          refine wpAnyH_ready (rs := [8]) (by kernel_rfl) (by simp) ?_
          refine AllReadyH.cons (o := { dst := some 51, op := Op.buildSlice 24 1 #[(0, Operand.tmp 50)], type := _, pos := _, after := _, guard := none }) rfl (fun K hK => ?_) ?_
          · go_simp
            refine hK.out _ _ (trivial) (fun hHeld => ?_)
            clear hK K
            try simp only [Act.put, List.setIfInBounds_toArray, List.set_cons_zero, List.set_cons_succ]
            refine wpAnyH_ready (rs := [9]) (by kernel_rfl) (by simp) ?_
            refine AllReadyH.cons (o := { dst := some 52, op := Op.call { callee := Callee.builtin Builtin.append, args := #[Operand.tmp 44, Operand.tmp 51], argTypes := #[24, 24] }, type := _, pos := _, after := _, guard := none }) rfl (fun K hK => ?_) ?_
            · refine step_append_slot wz wz ?_ (.tmp 44) (.tmp 51) 24 ?_ (w.heap.size + 1 + 1) 36 Try.u24 _ 24 Try.i36 rfl (by decide) _ ys ?_ HD2.out.own (Below.refl _ _) hsz2 t (x : Int) ?_ ?_ ?_
              · rfl
              · rfl
              · rfl
              · rfl
              · omega
              intro v' w6 O6 B6 K6
              obtain ⟨a6, c6, rfl, -⟩ := O6.form
              obtain ⟨y0, y1, y2, yl⟩ := (HD2.out.var.below B6 (by omega)).three
              obtain ⟨f0, f1, f2⟩ := (HD2.out.var.below B6 (by omega)).frz
              have HD6 := hide (HD2.out.next O6 B6 HU.out)
              rw [show (ys ++ [(t, (x : Int))]).length = ys.length + 1 by simp] at HD6
              clear O6 B6 K6
              refine hK.out _ _ (trivial) (fun hHeld => ?_)
              clear hK K
              try simp only [Act.put, List.setIfInBounds_toArray, List.set_cons_zero, List.set_cons_succ]
              refine wpAnyH_take (i := 10) (oi := { dst := some 53, op := Op.fieldAddr 26 (Operand.tmp 4) 1, type := _, pos := _, after := _, guard := none }) (v := ?_) rfl (by kernel_rfl) (by kernel_rfl) (by kernel_rfl) (fun _ _ _ h => h) (Or.inl ⟨by rfl, ?_⟩) hHeld ?_
              rotate_left
              · intro W hSw; (try dsimp only at hSw); go_simp; (try with_reducible rfl)
              try simp only [Act.put, List.setIfInBounds_toArray, List.set_cons_zero, List.set_cons_succ]
              refine wpAnyH_ready (rs := [11]) (by kernel_rfl) (by simp) ?_
              refine AllReadyH.cons (o := { dst := none, op := Op.store 24 (Operand.tmp 53) (Operand.tmp 52), type := _, pos := _, after := _, guard := none }) rfl (fun K hK => ?_) ?_
              · go_simp
                refine hK.out _ _ (trivial) (fun hHeld => ?_)
                clear hK K
                try simp only [Act.put, List.setIfInBounds_toArray, List.set_cons_zero, List.set_cons_succ]
                refine wpAnyH_done (by kernel_rfl) ?_ _
                clear y0 y1 y2 f0 f1 f2 hHeld
                go_wp2
                go_roundw
                case rel => exact ⟨j + 1, q, _, _, by omega, by go_num, rfl, HD6.out⟩
                case measure => simp [intOf]; omega
              · exact AllReadyH.nil
            · exact AllReadyH.nil
          · exact AllReadyH.nil
        refine AllReadyH.cons (o := { dst := some 51, op := Op.buildSlice 24 1 #[(0, Operand.tmp 50)], type := _, pos := _, after := _, guard := none }) rfl (fun K hK => ?_) ?_
        · go_simp
          refine hK.out _ _ (trivial) (fun hHeld => ?_)
          clear hK K
          try simp only [Act.put, List.setIfInBounds_toArray, List.set_cons_zero, List.set_cons_succ]
          refine wpAnyH_ready (rs := [1]) (by kernel_rfl) (by simp) ?_
          refine AllReadyH.cons (o := { dst := some 44, op := Op.load 24 (Operand.tmp 43), type := _, pos := _, after := _, guard := none }) rfl (fun K hK => ?_) ?_
          · go_simp
            refine hK.out _ _ (trivial) (fun hHeld => ?_)
            clear hK K
            try simp only [Act.put, List.setIfInBounds_toArray, List.set_cons_zero, List.set_cons_succ]
            refine wpAnyH_ready (rs := [9]) (by kernel_rfl) (by simp) ?_
            refine AllReadyH.cons (o := { dst := some 52, op := Op.call { callee := Callee.builtin Builtin.append, args := #[Operand.tmp 44, Operand.tmp 51], argTypes := #[24, 24] }, type := _, pos := _, after := _, guard := none }) rfl (fun K hK => ?_) ?_
            · refine step_append_slot wz wz ?_ (.tmp 44) (.tmp 51) 24 ?_ (w.heap.size + 1 + 1) 36 Try.u24 _ 24 Try.i36 rfl (by decide) _ ys ?_ HD2.out.own (Below.refl _ _) hsz2 t (x : Int) ?_ ?_ ?_
              · rfl
              · rfl
              · rfl
              · rfl
              · omega
              intro v' w6 O6 B6 K6
              obtain ⟨a6, c6, rfl, -⟩ := O6.form
              obtain ⟨y0, y1, y2, yl⟩ := (HD2.out.var.below B6 (by omega)).three
              obtain ⟨f0, f1, f2⟩ := (HD2.out.var.below B6 (by omega)).frz
              have HD6 := hide (HD2.out.next O6 B6 HU.out)
              rw [show (ys ++ [(t, (x : Int))]).length = ys.length + 1 by simp] at HD6
              clear O6 B6 K6
              refine hK.out _ _ (trivial) (fun hHeld => ?_)
              clear hK K
              try simp only [Act.put, List.setIfInBounds_toArray, List.set_cons_zero, List.set_cons_succ]
              refine wpAnyH_take (i := 10) (oi := { dst := some 53, op := Op.fieldAddr 26 (Operand.tmp 4) 1, type := _, pos := _, after := _, guard := none }) (v := ?_) rfl (by kernel_rfl) (by kernel_rfl) (by kernel_rfl) (fun _ _ _ h => h) (Or.inl ⟨by rfl, ?_⟩) hHeld ?_
              rotate_left
              · intro W hSw; (try dsimp only at hSw); go_simp; (try with_reducible rfl)
              try simp only [Act.put, List.setIfInBounds_toArray, List.set_cons_zero, List.set_cons_succ]
              refine wpAnyH_ready (rs := [11]) (by kernel_rfl) (by simp) ?_
              refine AllReadyH.cons (o := { dst := none, op := Op.store 24 (Operand.tmp 53) (Operand.tmp 52), type := _, pos := _, after := _, guard := none }) rfl (fun K hK => ?_) ?_
              · go_simp
                refine hK.out _ _ (trivial) (fun hHeld => ?_)
                clear hK K
                try simp only [Act.put, List.setIfInBounds_toArray, List.set_cons_zero, List.set_cons_succ]
                refine wpAnyH_done (by kernel_rfl) ?_ _
                clear y0 y1 y2 f0 f1 f2 hHeld
                go_wp2
                go_roundw
                case rel => exact ⟨j + 1, q, _, _, by omega, by go_num, rfl, HD6.out⟩
                case measure => simp [intOf]; omega
              · exact AllReadyH.nil
            · exact AllReadyH.nil
          · exact AllReadyH.nil
        · exact AllReadyH.nil
    · have hstop : j = 4 ∨ (j < 4 ∧ ¬ p < s.size) := by omega
      have HST := hide hstop
      have hbig : ∀ (i : Nat) (h : i < ys.length), ys[i].1.size ≤ 1048576 := fun i hi => by have := HD.out.up.2.2.2.2 _ (List.getElem_mem hi); omega
      have C4 := hide (fun W h => specText_any true (.slice va ys.length vc) ⟨#[]⟩ ys W h hbig)
      have HC0 : Hid (∀ w', Below wr.heap.size wr w' → AtC w' (w.heap.size + 1) 26 #[.bool true, .slice va ys.length vc, .string ⟨#[]⟩] ∧ AtC w' w.heap.size 26 #[.bool false, .slice none 0 0, .string ⟨#[]⟩] ∧ SOwns w' (w.heap.size + 1 + 1) 36 (.slice va ys.length vc) ys ∧ Below w.heap.size w w') := fun w' h => ⟨HD.out.var.over h, HD.out.res.over h, HD.out.own.below h (Nat.le_refl _), HD.out.bel.trans (h.mono HD.out.bel.size)⟩
      have key : (blockOk true ys ⟨#[]⟩ = true ∧ blockB true ys ⟨#[]⟩ = s ∧ readR s = some (true, ys, ⟨#[]⟩)) ∨ ((blockOk true ys ⟨#[]⟩ = false ∨ (blockOk true ys ⟨#[]⟩ = true ∧ ¬ blockB true ys ⟨#[]⟩ = s)) ∧ readR s = none) := by
        rw [blockOk_dir ys ⟨#[]⟩ rfl]
        by_cases hj4 : j = 4
        · subst hj4
          have hdn := HD.out.up.done
          have hw := HD.out.up.whole h0 hd
          rw [readR_dir h0 hd hdn]
          cases hok : slotsOk ys with
          | false => right; exact ⟨.inl rfl, by simp⟩
          | true =>
            have eb : blockB true ys ⟨#[]⟩ = accB (100 :: encs ys) := by unfold blockB; rw [blockOk_dir ys ⟨#[]⟩ rfl, hok]; rfl
            by_cases hpp : p = s.size
            · left; exact ⟨rfl, by rw [eb]; exact hw.2 hpp, by simp [hpp]⟩
            · right; exact ⟨.inr ⟨rfl, by rw [eb]; exact fun h => hpp (hw.1 h)⟩, by simp [hpp]⟩
        · right
          refine ⟨.inl ?_, readR_dirn h0 hd (HD.out.up.short (by omega) (by omega))⟩
          rw [ok_other (by have := HYL.out; omega)]
      have HKEY := hide key
      obtain ⟨k, hk⟩ : ∃ k, blockOk true ys ⟨#[]⟩ = k := ⟨_, rfl⟩
      obtain ⟨bk, hbk⟩ : ∃ bk, blockB true ys ⟨#[]⟩ = bk := ⟨_, rfl⟩
      rw [hk, hbk] at C4 HKEY
      clear key hk hbk hbig hstop hgo
      rcases HKEY.out with ⟨rfl, hbs, hrd⟩ | ⟨hno, hrd⟩
      · obtain ⟨e1, e2, e3, e4⟩ := r_some hrd
        have HE := hide (And.intro e1 (And.intro e2 (And.intro e3 e4)))
        have hq := beq_true hbs
        clear e1 e2 e3 e4 hrd HKEY hbs
        rcases HST.out with hj4 | ⟨hj4, hj5⟩
        all_goals
          go_wp2_with (go_at_call 32; refine (C4.out _ HD.out.own.rsl).mono ?_; rintro e w2 ⟨rfl, B2⟩; obtain ⟨y0, y1, y2, yl⟩ := (HC0.out _ B2).1.three; obtain ⟨x0, x1, x2, xl⟩ := (HC0.out _ B2).2.1.three; obtain ⟨g0, g1, g2⟩ := (HC0.out _ B2).2.1.frz; have HO2 := hide (HC0.out _ B2).2.2.1; have HB2 := hide (HC0.out _ B2).2.2.2; clear B2)
          refine bodyPost_ret (v := .tuple #[.agg #[.bool true, .slice va ys.length vc, .string ⟨#[]⟩], .bool true]) (by simp [results, go_sem, x0, x1, x2]) rfl ?_
          rw [HE.out.1, HE.out.2.1, HE.out.2.2.1, HE.out.2.2.2]
          exact ⟨_, rfl, (((HO2.out.setCell_low (by omega) _).setCell_low (by omega) _).setCell_low (by omega) _).base_le (by omega), ((HB2.out.setCell (Nat.le_refl _) _).setCell (Nat.le_refl _) _).setCell (Nat.le_refl _) _⟩
      · obtain ⟨e1, e2, e3, e4⟩ := r_none hrd
        have HE := hide (And.intro e1 (And.intro e2 (And.intro e3 e4)))
        clear e1 e2 e3 e4 hrd HKEY
        rcases hno with rfl | ⟨rfl, hne⟩
        · rcases HST.out with hj4 | ⟨hj4, hj5⟩
          all_goals
            go_wp2_with (go_at_call 32; refine (C4.out _ HD.out.own.rsl).mono ?_; rintro e w2 ⟨rfl, B2⟩; obtain ⟨x0, x1, x2, xl⟩ := (HC0.out _ B2).2.1.three; obtain ⟨g0, g1, g2⟩ := (HC0.out _ B2).2.1.frz; have HB2 := hide (HC0.out _ B2).2.2.2; clear B2)
            refine bodyPost_ret (v := .tuple #[.agg #[.bool false, .slice none 0 0, .string ⟨#[]⟩], .bool false]) (by simp [results, go_sem, x0, x1, x2]) rfl ?_
            rw [HE.out.1, HE.out.2.1, HE.out.2.2.1, HE.out.2.2.2]
            exact ⟨_, rfl, SOwns.nil _ _ _, ((HB2.out.setCell (Nat.le_refl _) _).setCell (Nat.le_refl _) _).setCell (Nat.le_refl _) _⟩
        · have hq := beq_false hne
          clear hne
          rcases HST.out with hj4 | ⟨hj4, hj5⟩
          all_goals
            go_wp2_with (go_at_call 32; refine (C4.out _ HD.out.own.rsl).mono ?_; rintro e w2 ⟨rfl, B2⟩; obtain ⟨x0, x1, x2, xl⟩ := (HC0.out _ B2).2.1.three; obtain ⟨g0, g1, g2⟩ := (HC0.out _ B2).2.1.frz; have HB2 := hide (HC0.out _ B2).2.2.2; clear B2)
            refine bodyPost_ret (v := .tuple #[.agg #[.bool false, .slice none 0 0, .string ⟨#[]⟩], .bool false]) (by simp [results, go_sem, x0, x1, x2]) rfl ?_
            rw [HE.out.1, HE.out.2.1, HE.out.2.2.1, HE.out.2.2.2]
            exact ⟨_, rfl, SOwns.nil _ _ _, ((HB2.out.setCell (Nat.le_refl _) _).setCell (Nat.le_refl _) _).setCell (Nat.le_refl _) _⟩
end Go.Proofs.Ytfffiboggpjjkaa
