
/- spec.BlockText by its contract. -/
import Derived.Test.YtajollmmpdkhbaaCom
import Derived.Test.YtajollmmpdkhbaaKTxt
namespace Go.Proofs.Ytajollmmpdkhbaa
open Go.RowKit Kit
theorem joinS (p : List UInt8) (b : UInt8) (n : Nat) (t : ByteArray) : accB p ++ oneB b ++ headOf n ++ t = accB ((p ++ [b]) ++ (vb n ++ t.data.toList)) := by
  have e1 : oneB b = accB [b] := rfl
  have e2 : headOf n = accB (vb n) := rfl
  have e3 := accB_data t
  rw [e1, e2, accB_append, accB_append]
  conv => lhs; rw [← e3]
  rw [accB_append]
  simp
/-- One byte in a block of its own, as a string. -/
theorem conv_at (b : UInt8) (z : Int) (hz : z = (b.toNat : Int)) (W : World) (g : Nat) (h : W.cell? ⟨g, 0, none⟩ = some (.int .u8 z)) : (convert 106 9 (.slice (some ⟨g, 0, none⟩) 1 1)).run Try.prog W = .ok (.string (oneB b)) W := by
  refine run_convert_bytes_back W 106 9 5 ⟨g, 0, none⟩ 1 [b] Try.underlying106 Try.underlying5 Try.underlying9 ?_
  intro j hj
  match j, hj with
  | 0, _ => simpa [Addr.add, hz] using h
theorem specText_not (d : Bool) (v : Value) (t : ByteArray) (xs : List Sl) (w : World) (hv : RSl w v xs) (hbig : ∀ (j : Nat) (h : j < xs.length), xs[j].1.size ≤ 1048576) (hno : blockOk d xs t = false) :
    Calls Try.prog 79 #[.agg #[.bool d, v, .string t]] w fun e w' => e = .returned (.tuple #[.string (blockB d xs t), .bool (blockOk d xs t)]) ∧ Below w.heap.size w w' := by
  have HV := hide hv
  have C := hide (fun W h => specOk_anyK d v t xs W h hbig)
  obtain ⟨a, c, rfl, -⟩ := hv
  have e1 : blockB d xs t = ⟨#[]⟩ := by simp [blockB, hno]
  rw [e1, hno]
  rw [hno] at C
  clear e1 hno hbig
  go_enter Try.func79, Try.ntmps79
  go_wp2_with (go_at_call 38; refine (C.out _ (HV.out.alloc _)).mono ?_; rintro e w1 ⟨rfl, hb1⟩)
  go_ret2
  exact ⟨rfl, ((Below.refl _ w).alloc (Nat.le_refl _) _).trans (hb1.mono (by simp))⟩
theorem specText_t (v : Value) (t : ByteArray) (xs : List Sl) (w : World) (hv : RSl w v xs) (hbig : ∀ (j : Nat) (h : j < xs.length), xs[j].1.size ≤ 1048576) (hok : blockOk false xs t = true) :
    Calls Try.prog 79 #[.agg #[.bool false, v, .string t]] w fun e w' => e = .returned (.tuple #[.string (blockB false xs t), .bool (blockOk false xs t)]) ∧ Below w.heap.size w w' := by
  have HV := hide hv
  have C := hide (fun W h => specOk_anyK false v t xs W h hbig)
  obtain ⟨a, c, rfl, -⟩ := hv
  have e1 : blockB false xs t = oneB 116 ++ t := by simp [blockB, hok]
  have ht : t.size ≤ 16 := by rw [blockOk_text] at hok; exact (of_decide_eq_true hok).2
  rw [e1, hok]
  rw [hok] at C
  have m116 : (⟨#[116]⟩ : ByteArray) = oneB 116 := rfl
  have hs1 := oneB_size 116
  clear e1 hok hbig
  go_enter Try.func79, Try.ntmps79
  go_wp2_with (go_at_call 38; refine (C.out _ (HV.out.alloc _)).mono ?_; rintro e w1 ⟨rfl, hb1⟩; obtain ⟨q0, q1, q2, -⟩ := ((AtC.new w 65 #[.bool false, .slice a xs.length c, .string t]).over hb1).three)
  go_ret2
  exact ⟨rfl, ((Below.refl _ w).alloc (Nat.le_refl _) _).trans (hb1.mono (by simp))⟩
set_option linter.unusedSimpArgs false in
set_option maxRecDepth 100000 in
set_option maxHeartbeats 3200000 in
theorem specText_d (v : Value) (t0 : ByteArray) (xs : List Sl) (w : World) (hv : RSl w v xs) (hbig : ∀ (j : Nat) (h : j < xs.length), xs[j].1.size ≤ 1048576) (hok : blockOk true xs t0 = true) :
    Calls Try.prog 79 #[.agg #[.bool true, v, .string t0]] w fun e w' => e = .returned (.tuple #[.string (blockB true xs t0), .bool (blockOk true xs t0)]) ∧ Below w.heap.size w w' := by
  have HV := hide hv
  have C := hide (fun W h => specOk_anyK true v t0 xs W h hbig)
  obtain ⟨a, c, rfl, hcap, hc⟩ := hv
  have HC := hide hc
  have e1 : blockB true xs t0 = accB (100 :: encs xs) := by simp [blockB, hok]
  have hsl : slotsOk xs = true := by
    by_cases h : t0.size = 0
    · rw [blockOk_dir _ _ h] at hok; exact hok
    · rw [blockOk_dirt _ _ h] at hok; cases hok
  obtain ⟨hl4, hbd⟩ := slots_bounds hsl
  have HL := hide hl4
  have HBD := hide hbd
  have HPL := hide (pre_length hsl)
  rw [e1, hok]
  rw [hok] at C
  rw [hl4] at HV C hcap ⊢
  have m100 : (⟨#[100]⟩ : ByteArray) = accB [100] := rfl
  clear e1 hok hbig hc hsl hl4 hbd
  go_enter Try.func79, Try.ntmps79
  go_wp2_with (go_at_call 38; refine (C.out _ (HV.out.alloc _)).mono ?_; rintro e w1 ⟨rfl, hb1⟩; obtain ⟨q0, q1, q2, -⟩ := ((AtC.new w 65 #[.bool true, .slice a 4 c, .string t0]).over hb1).three)
  have hA1 := (AtC.new w 65 #[.bool true, .slice a 4 c, .string t0]).over hb1
  have hB1 : Below w.heap.size w w1 := ((Below.refl _ w).alloc (Nat.le_refl _) _).trans (hb1.mono (by simp))
  have HA1 := hide hA1
  have HB1 := hide hB1
  clear hA1 hB1 hb1 q0 q1 q2
  go_loopw [4, 5] (fun s i wr => ∃ j : Nat, j ≤ 4 ∧ i = .int .i64 j ∧ s = .string (accB (pre xs j)) ∧ Below w1.heap.size w1 wr) (fun _ i _ => 4 - (intOf i).toNat)
  case atStart => exact ⟨0, Nat.zero_le _, rfl, rfl, Below.refl _ _⟩
  case round =>
    obtain ⟨j, hj, rfl, rfl, hb⟩ := hrel
    by_cases hlt : j < 4
    · have hlx : j < xs.length := by rw [HL.out]; exact hlt
      obtain ⟨g, off, rfl, hg, m1, m2⟩ := HC.out j hlx
      have hsz1 := HB1.out.size
      have hbw : Below w.heap.size w wr := HB1.out.trans (hb.mono hsz1)
      have HS : Hid (∀ w', Below wr.heap.size wr w' → w'.cell? ⟨w.heap.size, 1, none⟩ = some (.slice (some ⟨g, off, none⟩) 4 c) ∧ w'.cell? ⟨g, off + j * 2, none⟩ = some (.string xs[j].1) ∧ w'.cell? ⟨g, off + j * 2 + 1, none⟩ = some (.int .i64 xs[j].2)) := fun w' h =>
        ⟨(((HA1.out.over hb).over h).three).2.1, ((hbw.trans (h.mono hbw.size)).cell (p := ⟨g, off + j * 2, none⟩) hg).trans m1, ((hbw.trans (h.mono hbw.size)).cell (p := ⟨g, off + j * 2 + 1, none⟩) hg).trans m2⟩
      obtain ⟨b1, b2, b3⟩ := HBD.out j hlx
      have HN := hide (pre_next xs j hlx)
      obtain ⟨t, ht⟩ : ∃ t, xs[j].1 = t := ⟨_, rfl⟩
      obtain ⟨z, hz⟩ : ∃ z : Nat, xs[j].2 = (z : Int) := ⟨xs[j].2.toNat, by omega⟩
      rw [ht, hz] at HS HN
      rw [ht] at b3
      rw [hz] at b1 b2
      have hp := HPL.out j
      have HB := hide hb
      clear m1 m2 ht hz hb hbw hlx
      obtain ⟨r1, r2, r3⟩ := HS.out _ (Below.refl _ _)
      obtain ⟨P0, hP0⟩ : ∃ p, pre xs j = p := ⟨_, rfl⟩
      rw [hP0] at hp HN ⊢
      have hpz := accB_size P0
      have hoz := oneB_size (loB z)
      have hhz := headOf_size t.size
      have hcv := conv_at (loB z) (z : Int) (byte_small z (by omega))
      have hwz : IntKind.u8.wrap (z : Int) = (z : Int) := by simp [IntKind.wrap, IntKind.signed, IntKind.bits]; omega
      have n1 : ¬ 9223372036854775807 < P0.length + 1 := by omega
      have n2 : ¬ 9223372036854775807 < P0.length + 1 + (headOf t.size).size := by omega
      have n3 : ¬ 9223372036854775807 < P0.length + 1 + (headOf t.size).size + t.size := by omega
      have j0 : (0 : Int) ≤ (j : Int) := by omega
      have j1 : (j : Int) < 4 := by omega
      rw [Int.toNat_natCast] at HN
      clear hP0
      go_wp2_with fail
      refine wp_region_held_drew (S := (fun w' => w'.cell? ⟨w.heap.size, 1, none⟩ = some (.slice (some ⟨g, off, none⟩) 4 c) ∧ w'.cell? ⟨g, off + j * 2, none⟩ = some (.string t) ∧ w'.cell? ⟨g, off + j * 2 + 1, none⟩ = some (.int .i64 (z : Int)))) (by kernel_rfl) (HS.out _ (Below.refl _ _).drew) (fun hHeld => ?_)
      refine wpAnyH_take (i := 0) (oi := { dst := some 19, op := Op.move (Operand.tmp 4), type := _, pos := _, after := _, guard := none }) (v := ?_) rfl (by kernel_rfl) (by kernel_rfl) (by kernel_rfl) (fun _ _ _ h => h) (Or.inl ⟨by rfl, ?_⟩) hHeld ?_
      rotate_left
      · intro W hSw; (try dsimp only at hSw); go_simp; (try with_reducible rfl)
      try simp only [Act.put, List.setIfInBounds_toArray, List.set_cons_zero, List.set_cons_succ]
      refine wpAnyH_take (i := 1) (oi := { dst := some 20, op := Op.fieldAddr 65 (Operand.tmp 1) 1, type := _, pos := _, after := _, guard := none }) (v := ?_) rfl (by kernel_rfl) (by kernel_rfl) (by kernel_rfl) (fun _ _ _ h => h) (Or.inl ⟨by rfl, ?_⟩) hHeld ?_
      rotate_left
      · intro W hSw; (try dsimp only at hSw); go_simp; (try with_reducible rfl)
      try simp only [Act.put, List.setIfInBounds_toArray, List.set_cons_zero, List.set_cons_succ]
      refine wpAnyH_take (i := 2) (oi := { dst := some 21, op := Op.load 63 (Operand.tmp 20), type := _, pos := _, after := _, guard := none }) (v := ?_) rfl (by kernel_rfl) (by kernel_rfl) (by kernel_rfl) (fun _ _ _ h => h) (Or.inl ⟨by rfl, ?_⟩) hHeld ?_
      rotate_left
      · intro W hSw; (try dsimp only at hSw); go_simp; (try with_reducible rfl)
      try simp only [Act.put, List.setIfInBounds_toArray, List.set_cons_zero, List.set_cons_succ]
      refine wpAnyH_take (i := 3) (oi := { dst := some 22, op := Op.move (Operand.tmp 5), type := _, pos := _, after := _, guard := none }) (v := ?_) rfl (by kernel_rfl) (by kernel_rfl) (by kernel_rfl) (fun _ _ _ h => h) (Or.inl ⟨by rfl, ?_⟩) hHeld ?_
      rotate_left
      · intro W hSw; (try dsimp only at hSw); go_simp; (try with_reducible rfl)
      try simp only [Act.put, List.setIfInBounds_toArray, List.set_cons_zero, List.set_cons_succ]
      refine wpAnyH_take (i := 4) (oi := { dst := some 23, op := Op.indexAddr 63 (Operand.tmp 21) (Operand.tmp 22), type := _, pos := _, after := _, guard := none }) (v := ?_) rfl (by kernel_rfl) (by kernel_rfl) (by kernel_rfl) (fun _ _ _ h => h) (Or.inl ⟨by rfl, ?_⟩) hHeld ?_
      rotate_left
      · intro W hSw; (try dsimp only at hSw); go_simp; (try with_reducible rfl)
      try simp only [Act.put, List.setIfInBounds_toArray, List.set_cons_zero, List.set_cons_succ]
      refine wpAnyH_take (i := 5) (oi := { dst := some 24, op := Op.fieldAddr 94 (Operand.tmp 23) 1, type := _, pos := _, after := _, guard := none }) (v := ?_) rfl (by kernel_rfl) (by kernel_rfl) (by kernel_rfl) (fun _ _ _ h => h) (Or.inl ⟨by rfl, ?_⟩) hHeld ?_
      rotate_left
      · intro W hSw; (try dsimp only at hSw); go_simp; (try with_reducible rfl)
      try simp only [Act.put, List.setIfInBounds_toArray, List.set_cons_zero, List.set_cons_succ]
      refine wpAnyH_take (i := 6) (oi := { dst := some 25, op := Op.load 3 (Operand.tmp 24), type := _, pos := _, after := _, guard := none }) (v := ?_) rfl (by kernel_rfl) (by kernel_rfl) (by kernel_rfl) (fun _ _ _ h => h) (Or.inl ⟨by rfl, ?_⟩) hHeld ?_
      rotate_left
      · intro W hSw; (try dsimp only at hSw); go_simp; (try with_reducible rfl)
      try simp only [Act.put, List.setIfInBounds_toArray, List.set_cons_zero, List.set_cons_succ]
      refine wpAnyH_take (i := 7) (oi := { dst := some 26, op := Op.convert 3 5 (Operand.tmp 25), type := _, pos := _, after := _, guard := none }) (v := ?_) rfl (by kernel_rfl) (by kernel_rfl) (by kernel_rfl) (fun _ _ _ h => h) (Or.inl ⟨by rfl, ?_⟩) hHeld ?_
      rotate_left
      · intro W hSw; (try dsimp only at hSw); go_simp; (try with_reducible rfl)
      try simp only [Act.put, List.setIfInBounds_toArray, List.set_cons_zero, List.set_cons_succ]
      refine wpAnyH_take (i := 11) (oi := { dst := some 30, op := Op.fieldAddr 65 (Operand.tmp 1) 1, type := _, pos := _, after := _, guard := none }) (v := ?_) rfl (by kernel_rfl) (by kernel_rfl) (by kernel_rfl) (fun _ _ _ h => h) (Or.inl ⟨by rfl, ?_⟩) hHeld ?_
      rotate_left
      · intro W hSw; (try dsimp only at hSw); go_simp; (try with_reducible rfl)
      try simp only [Act.put, List.setIfInBounds_toArray, List.set_cons_zero, List.set_cons_succ]
      refine wpAnyH_take (i := 12) (oi := { dst := some 31, op := Op.load 63 (Operand.tmp 30), type := _, pos := _, after := _, guard := none }) (v := ?_) rfl (by kernel_rfl) (by kernel_rfl) (by kernel_rfl) (fun _ _ _ h => h) (Or.inl ⟨by rfl, ?_⟩) hHeld ?_
      rotate_left
      · intro W hSw; (try dsimp only at hSw); go_simp; (try with_reducible rfl)
      try simp only [Act.put, List.setIfInBounds_toArray, List.set_cons_zero, List.set_cons_succ]
      refine wpAnyH_take (i := 13) (oi := { dst := some 32, op := Op.move (Operand.tmp 5), type := _, pos := _, after := _, guard := none }) (v := ?_) rfl (by kernel_rfl) (by kernel_rfl) (by kernel_rfl) (fun _ _ _ h => h) (Or.inl ⟨by rfl, ?_⟩) hHeld ?_
      rotate_left
      · intro W hSw; (try dsimp only at hSw); go_simp; (try with_reducible rfl)
      try simp only [Act.put, List.setIfInBounds_toArray, List.set_cons_zero, List.set_cons_succ]
      refine wpAnyH_take (i := 14) (oi := { dst := some 33, op := Op.indexAddr 63 (Operand.tmp 31) (Operand.tmp 32), type := _, pos := _, after := _, guard := none }) (v := ?_) rfl (by kernel_rfl) (by kernel_rfl) (by kernel_rfl) (fun _ _ _ h => h) (Or.inl ⟨by rfl, ?_⟩) hHeld ?_
      rotate_left
      · intro W hSw; (try dsimp only at hSw); go_simp; (try with_reducible rfl)
      try simp only [Act.put, List.setIfInBounds_toArray, List.set_cons_zero, List.set_cons_succ]
      refine wpAnyH_take (i := 15) (oi := { dst := some 34, op := Op.fieldAddr 94 (Operand.tmp 33) 0, type := _, pos := _, after := _, guard := none }) (v := ?_) rfl (by kernel_rfl) (by kernel_rfl) (by kernel_rfl) (fun _ _ _ h => h) (Or.inl ⟨by rfl, ?_⟩) hHeld ?_
      rotate_left
      · intro W hSw; (try dsimp only at hSw); go_simp; (try with_reducible rfl)
      try simp only [Act.put, List.setIfInBounds_toArray, List.set_cons_zero, List.set_cons_succ]
      refine wpAnyH_take (i := 16) (oi := { dst := some 35, op := Op.load 9 (Operand.tmp 34), type := _, pos := _, after := _, guard := none }) (v := ?_) rfl (by kernel_rfl) (by kernel_rfl) (by kernel_rfl) (fun _ _ _ h => h) (Or.inl ⟨by rfl, ?_⟩) hHeld ?_
      rotate_left
      · intro W hSw; (try dsimp only at hSw); go_simp; (try with_reducible rfl)
      try simp only [Act.put, List.setIfInBounds_toArray, List.set_cons_zero, List.set_cons_succ]
      refine wpAnyH_take (i := 17) (oi := { dst := some 36, op := Op.call { callee := Callee.builtin Builtin.len, args := #[Operand.tmp 35], argTypes := #[9] }, type := _, pos := _, after := _, guard := none }) (v := ?_) rfl (by kernel_rfl) (by kernel_rfl) (by kernel_rfl) (fun _ _ _ h => h) (Or.inl ⟨by rfl, ?_⟩) hHeld ?_
      rotate_left
      · intro W hSw; (try dsimp only at hSw); go_simp; (try with_reducible rfl)
      try simp only [Act.put, List.setIfInBounds_toArray, List.set_cons_zero, List.set_cons_succ]
      refine wpAnyH_take (i := 20) (oi := { dst := some 39, op := Op.fieldAddr 65 (Operand.tmp 1) 1, type := _, pos := _, after := _, guard := none }) (v := ?_) rfl (by kernel_rfl) (by kernel_rfl) (by kernel_rfl) (fun _ _ _ h => h) (Or.inl ⟨by rfl, ?_⟩) hHeld ?_
      rotate_left
      · intro W hSw; (try dsimp only at hSw); go_simp; (try with_reducible rfl)
      try simp only [Act.put, List.setIfInBounds_toArray, List.set_cons_zero, List.set_cons_succ]
      refine wpAnyH_take (i := 21) (oi := { dst := some 40, op := Op.load 63 (Operand.tmp 39), type := _, pos := _, after := _, guard := none }) (v := ?_) rfl (by kernel_rfl) (by kernel_rfl) (by kernel_rfl) (fun _ _ _ h => h) (Or.inl ⟨by rfl, ?_⟩) hHeld ?_
      rotate_left
      · intro W hSw; (try dsimp only at hSw); go_simp; (try with_reducible rfl)
      try simp only [Act.put, List.setIfInBounds_toArray, List.set_cons_zero, List.set_cons_succ]
      refine wpAnyH_take (i := 22) (oi := { dst := some 41, op := Op.move (Operand.tmp 5), type := _, pos := _, after := _, guard := none }) (v := ?_) rfl (by kernel_rfl) (by kernel_rfl) (by kernel_rfl) (fun _ _ _ h => h) (Or.inl ⟨by rfl, ?_⟩) hHeld ?_
      rotate_left
      · intro W hSw; (try dsimp only at hSw); go_simp; (try with_reducible rfl)
      try simp only [Act.put, List.setIfInBounds_toArray, List.set_cons_zero, List.set_cons_succ]
      refine wpAnyH_take (i := 23) (oi := { dst := some 42, op := Op.indexAddr 63 (Operand.tmp 40) (Operand.tmp 41), type := _, pos := _, after := _, guard := none }) (v := ?_) rfl (by kernel_rfl) (by kernel_rfl) (by kernel_rfl) (fun _ _ _ h => h) (Or.inl ⟨by rfl, ?_⟩) hHeld ?_
      rotate_left
      · intro W hSw; (try dsimp only at hSw); go_simp; (try with_reducible rfl)
      try simp only [Act.put, List.setIfInBounds_toArray, List.set_cons_zero, List.set_cons_succ]
      refine wpAnyH_take (i := 24) (oi := { dst := some 43, op := Op.fieldAddr 94 (Operand.tmp 42) 0, type := _, pos := _, after := _, guard := none }) (v := ?_) rfl (by kernel_rfl) (by kernel_rfl) (by kernel_rfl) (fun _ _ _ h => h) (Or.inl ⟨by rfl, ?_⟩) hHeld ?_
      rotate_left
      · intro W hSw; (try dsimp only at hSw); go_simp; (try with_reducible rfl)
      try simp only [Act.put, List.setIfInBounds_toArray, List.set_cons_zero, List.set_cons_succ]
      refine wpAnyH_take (i := 25) (oi := { dst := some 44, op := Op.load 9 (Operand.tmp 43), type := _, pos := _, after := _, guard := none }) (v := ?_) rfl (by kernel_rfl) (by kernel_rfl) (by kernel_rfl) (fun _ _ _ h => h) (Or.inl ⟨by rfl, ?_⟩) hHeld ?_
      rotate_left
      · intro W hSw; (try dsimp only at hSw); go_simp; (try with_reducible rfl)
      try simp only [Act.put, List.setIfInBounds_toArray, List.set_cons_zero, List.set_cons_succ]
      refine wpAnyH_ready (rs := [8, 18]) (by kernel_rfl) (by simp) ?_
      refine AllReadyH.cons (o := { dst := some 27, op := Op.buildSlice 106 1 #[(0, Operand.tmp 26)], type := _, pos := _, after := _, guard := none }) rfl (fun K hK => ?_) ?_
      · go_simp
        refine hK.out _ _ (HS.out _ ((Below.refl _ _).alloc (Nat.le_refl _) _).drew) (fun hHeld => ?_)
        clear hK K
        try simp only [Act.put, List.setIfInBounds_toArray, List.set_cons_zero, List.set_cons_succ]
        refine wpAnyH_ready (rs := [9, 18]) (by kernel_rfl) (by simp) ?_
        refine AllReadyH.cons (o := { dst := some 28, op := Op.convert 106 9 (Operand.tmp 27), type := _, pos := _, after := _, guard := none }) rfl (fun K hK => ?_) ?_
        · go_simp
          refine hK.out _ _ (HS.out _ ((Below.refl _ _).alloc (Nat.le_refl _) _).drew) (fun hHeld => ?_)
          clear hK K
          try simp only [Act.put, List.setIfInBounds_toArray, List.set_cons_zero, List.set_cons_succ]
          refine wpAnyH_take (i := 10) (oi := { dst := some 29, op := Op.binOp BinOp.add 9 (Operand.tmp 19) (Operand.tmp 28) 9, type := _, pos := _, after := _, guard := none }) (v := ?_) rfl (by kernel_rfl) (by kernel_rfl) (by kernel_rfl) (fun _ _ _ h => h) (Or.inl ⟨by rfl, ?_⟩) hHeld ?_
          rotate_left
          · intro W hSw; (try dsimp only at hSw); go_simp; (try with_reducible rfl)
          try simp only [Act.put, List.setIfInBounds_toArray, List.set_cons_zero, List.set_cons_succ]
          refine wpAnyH_ready (rs := [18]) (by kernel_rfl) (by simp) ?_
          refine AllReadyH.cons (o := { dst := some 37, op := Op.call { callee := Callee.value (Operand.func 98), args := #[Operand.tmp 36], argTypes := #[3] }, type := _, pos := _, after := _, guard := none }) rfl (fun K hK => ?_) ?_
          · go_simp
            refine (l01Var_head _ _ (by omega) (by omega)).mono ?_
            rintro e w6 ⟨rfl, B6⟩
            go_wp2_with fail
            have B7 := ((Below.refl _ wr).alloc (Nat.le_refl _) (.cells #[.int .u8 (z : Int)] 5)).trans ((of_drew B6).mono (by simp))
            refine hK.out _ _ (HS.out _ B7) (fun hHeld => ?_)
            clear hK K
            try simp only [Act.put, List.setIfInBounds_toArray, List.set_cons_zero, List.set_cons_succ]
            refine wpAnyH_take (i := 19) (oi := { dst := some 38, op := Op.binOp BinOp.add 9 (Operand.tmp 29) (Operand.tmp 37) 9, type := _, pos := _, after := _, guard := none }) (v := ?_) rfl (by kernel_rfl) (by kernel_rfl) (by kernel_rfl) (fun _ _ _ h => h) (Or.inl ⟨by rfl, ?_⟩) hHeld ?_
            rotate_left
            · intro W hSw; (try dsimp only at hSw); go_simp; (try with_reducible rfl)
            try simp only [Act.put, List.setIfInBounds_toArray, List.set_cons_zero, List.set_cons_succ]
            refine wpAnyH_take (i := 26) (oi := { dst := some 45, op := Op.binOp BinOp.add 9 (Operand.tmp 38) (Operand.tmp 44) 9, type := _, pos := _, after := _, guard := none }) (v := ?_) rfl (by kernel_rfl) (by kernel_rfl) (by kernel_rfl) (fun _ _ _ h => h) (Or.inl ⟨by rfl, ?_⟩) hHeld ?_
            rotate_left
            · intro W hSw; (try dsimp only at hSw); go_simp; (try with_reducible rfl)
            try simp only [Act.put, List.setIfInBounds_toArray, List.set_cons_zero, List.set_cons_succ]
            refine wpAnyH_take (i := 27) (oi := { dst := some 4, op := Op.assign (Operand.tmp 45), type := _, pos := _, after := _, guard := none }) (v := ?_) rfl (by kernel_rfl) (by kernel_rfl) (by kernel_rfl) (fun _ _ _ h => h) (Or.inl ⟨by rfl, ?_⟩) hHeld ?_
            rotate_left
            · intro W hSw; (try dsimp only at hSw); go_simp; (try with_reducible rfl)
            try simp only [Act.put, List.setIfInBounds_toArray, List.set_cons_zero, List.set_cons_succ]
            refine wpAnyH_done (by kernel_rfl) ?_ _
            have HZ := hide (HB.out.trans (B7.mono HB.out.size))
            clear hHeld
            go_wp2
            go_roundw
            case rel => exact ⟨j + 1, by omega, by go_num, by (rw [HN.out, ← joinS]; try rfl), HZ.out⟩
            case measure => simp [intOf]; omega
          · exact AllReadyH.nil
        refine AllReadyH.cons (o := { dst := some 37, op := Op.call { callee := Callee.value (Operand.func 98), args := #[Operand.tmp 36], argTypes := #[3] }, type := _, pos := _, after := _, guard := none }) rfl (fun K hK => ?_) ?_
        · go_simp
          refine (l01Var_head _ _ (by omega) (by omega)).mono ?_
          rintro e w6 ⟨rfl, B6⟩
          go_wp2_with fail
          have B7 := ((Below.refl _ wr).alloc (Nat.le_refl _) (.cells #[.int .u8 (z : Int)] 5)).trans ((of_drew B6).mono (by simp))
          have cx : w6.cell? ⟨wr.heap.size, 0, none⟩ = some (.int .u8 (z : Int)) := ((AtC.new wr 5 #[.int .u8 (z : Int)]).over (of_drew B6)).cell 0
          refine hK.out _ _ (HS.out _ B7) (fun hHeld => ?_)
          clear hK K
          try simp only [Act.put, List.setIfInBounds_toArray, List.set_cons_zero, List.set_cons_succ]
          refine wpAnyH_ready (rs := [9]) (by kernel_rfl) (by simp) ?_
          refine AllReadyH.cons (o := { dst := some 28, op := Op.convert 106 9 (Operand.tmp 27), type := _, pos := _, after := _, guard := none }) rfl (fun K hK => ?_) ?_
          · go_simp
            refine hK.out _ _ (HS.out _ B7) (fun hHeld => ?_)
            clear hK K
            try simp only [Act.put, List.setIfInBounds_toArray, List.set_cons_zero, List.set_cons_succ]
            refine wpAnyH_take (i := 10) (oi := { dst := some 29, op := Op.binOp BinOp.add 9 (Operand.tmp 19) (Operand.tmp 28) 9, type := _, pos := _, after := _, guard := none }) (v := ?_) rfl (by kernel_rfl) (by kernel_rfl) (by kernel_rfl) (fun _ _ _ h => h) (Or.inl ⟨by rfl, ?_⟩) hHeld ?_
            rotate_left
            · intro W hSw; (try dsimp only at hSw); go_simp; (try with_reducible rfl)
            try simp only [Act.put, List.setIfInBounds_toArray, List.set_cons_zero, List.set_cons_succ]
            refine wpAnyH_take (i := 19) (oi := { dst := some 38, op := Op.binOp BinOp.add 9 (Operand.tmp 29) (Operand.tmp 37) 9, type := _, pos := _, after := _, guard := none }) (v := ?_) rfl (by kernel_rfl) (by kernel_rfl) (by kernel_rfl) (fun _ _ _ h => h) (Or.inl ⟨by rfl, ?_⟩) hHeld ?_
            rotate_left
            · intro W hSw; (try dsimp only at hSw); go_simp; (try with_reducible rfl)
            try simp only [Act.put, List.setIfInBounds_toArray, List.set_cons_zero, List.set_cons_succ]
            refine wpAnyH_take (i := 26) (oi := { dst := some 45, op := Op.binOp BinOp.add 9 (Operand.tmp 38) (Operand.tmp 44) 9, type := _, pos := _, after := _, guard := none }) (v := ?_) rfl (by kernel_rfl) (by kernel_rfl) (by kernel_rfl) (fun _ _ _ h => h) (Or.inl ⟨by rfl, ?_⟩) hHeld ?_
            rotate_left
            · intro W hSw; (try dsimp only at hSw); go_simp; (try with_reducible rfl)
            try simp only [Act.put, List.setIfInBounds_toArray, List.set_cons_zero, List.set_cons_succ]
            refine wpAnyH_take (i := 27) (oi := { dst := some 4, op := Op.assign (Operand.tmp 45), type := _, pos := _, after := _, guard := none }) (v := ?_) rfl (by kernel_rfl) (by kernel_rfl) (by kernel_rfl) (fun _ _ _ h => h) (Or.inl ⟨by rfl, ?_⟩) hHeld ?_
            rotate_left
            · intro W hSw; (try dsimp only at hSw); go_simp; (try with_reducible rfl)
            try simp only [Act.put, List.setIfInBounds_toArray, List.set_cons_zero, List.set_cons_succ]
            refine wpAnyH_done (by kernel_rfl) ?_ _
            have HZ := hide (HB.out.trans (B7.mono HB.out.size))
            clear hHeld
            go_wp2
            go_roundw
            case rel => exact ⟨j + 1, by omega, by go_num, by (rw [HN.out, ← joinS]; try rfl), HZ.out⟩
            case measure => simp [intOf]; omega
          · exact AllReadyH.nil
        · exact AllReadyH.nil
      refine AllReadyH.cons (o := { dst := some 37, op := Op.call { callee := Callee.value (Operand.func 98), args := #[Operand.tmp 36], argTypes := #[3] }, type := _, pos := _, after := _, guard := none }) rfl (fun K hK => ?_) ?_
      · go_simp
        refine (l01Var_head _ _ (by omega) (by omega)).mono ?_
        rintro e w6 ⟨rfl, B6⟩
        go_wp2_with fail
        refine hK.out _ _ (HS.out _ (of_drew B6)) (fun hHeld => ?_)
        clear hK K
        try simp only [Act.put, List.setIfInBounds_toArray, List.set_cons_zero, List.set_cons_succ]
        refine wpAnyH_ready (rs := [8]) (by kernel_rfl) (by simp) ?_
        refine AllReadyH.cons (o := { dst := some 27, op := Op.buildSlice 106 1 #[(0, Operand.tmp 26)], type := _, pos := _, after := _, guard := none }) rfl (fun K hK => ?_) ?_
        · go_simp
          refine hK.out _ _ (HS.out _ ((of_drew B6).alloc (of_drew B6).size _)) (fun hHeld => ?_)
          clear hK K
          try simp only [Act.put, List.setIfInBounds_toArray, List.set_cons_zero, List.set_cons_succ]
          refine wpAnyH_ready (rs := [9]) (by kernel_rfl) (by simp) ?_
          refine AllReadyH.cons (o := { dst := some 28, op := Op.convert 106 9 (Operand.tmp 27), type := _, pos := _, after := _, guard := none }) rfl (fun K hK => ?_) ?_
          · go_simp
            refine hK.out _ _ (HS.out _ ((of_drew B6).alloc (of_drew B6).size _)) (fun hHeld => ?_)
            clear hK K
            try simp only [Act.put, List.setIfInBounds_toArray, List.set_cons_zero, List.set_cons_succ]
            refine wpAnyH_take (i := 10) (oi := { dst := some 29, op := Op.binOp BinOp.add 9 (Operand.tmp 19) (Operand.tmp 28) 9, type := _, pos := _, after := _, guard := none }) (v := ?_) rfl (by kernel_rfl) (by kernel_rfl) (by kernel_rfl) (fun _ _ _ h => h) (Or.inl ⟨by rfl, ?_⟩) hHeld ?_
            rotate_left
            · intro W hSw; (try dsimp only at hSw); go_simp; (try with_reducible rfl)
            try simp only [Act.put, List.setIfInBounds_toArray, List.set_cons_zero, List.set_cons_succ]
            refine wpAnyH_take (i := 19) (oi := { dst := some 38, op := Op.binOp BinOp.add 9 (Operand.tmp 29) (Operand.tmp 37) 9, type := _, pos := _, after := _, guard := none }) (v := ?_) rfl (by kernel_rfl) (by kernel_rfl) (by kernel_rfl) (fun _ _ _ h => h) (Or.inl ⟨by rfl, ?_⟩) hHeld ?_
            rotate_left
            · intro W hSw; (try dsimp only at hSw); go_simp; (try with_reducible rfl)
            try simp only [Act.put, List.setIfInBounds_toArray, List.set_cons_zero, List.set_cons_succ]
            refine wpAnyH_take (i := 26) (oi := { dst := some 45, op := Op.binOp BinOp.add 9 (Operand.tmp 38) (Operand.tmp 44) 9, type := _, pos := _, after := _, guard := none }) (v := ?_) rfl (by kernel_rfl) (by kernel_rfl) (by kernel_rfl) (fun _ _ _ h => h) (Or.inl ⟨by rfl, ?_⟩) hHeld ?_
            rotate_left
            · intro W hSw; (try dsimp only at hSw); go_simp; (try with_reducible rfl)
            try simp only [Act.put, List.setIfInBounds_toArray, List.set_cons_zero, List.set_cons_succ]
            refine wpAnyH_take (i := 27) (oi := { dst := some 4, op := Op.assign (Operand.tmp 45), type := _, pos := _, after := _, guard := none }) (v := ?_) rfl (by kernel_rfl) (by kernel_rfl) (by kernel_rfl) (fun _ _ _ h => h) (Or.inl ⟨by rfl, ?_⟩) hHeld ?_
            rotate_left
            · intro W hSw; (try dsimp only at hSw); go_simp; (try with_reducible rfl)
            try simp only [Act.put, List.setIfInBounds_toArray, List.set_cons_zero, List.set_cons_succ]
            refine wpAnyH_done (by kernel_rfl) ?_ _
            have HZ := hide (HB.out.trans (((of_drew B6).alloc (of_drew B6).size (.cells #[.int .u8 (z : Int)] 5)).mono HB.out.size))
            clear hHeld
            go_wp2
            go_roundw
            case rel => exact ⟨j + 1, by omega, by go_num, by (rw [HN.out, ← joinS]; try rfl), HZ.out⟩
            case measure => simp [intOf]; omega
          · exact AllReadyH.nil
        · exact AllReadyH.nil
      · exact AllReadyH.nil
    · have HF := hide (pre_all xs j (by rw [HL.out]; omega))
      have HZ := hide (HB1.out.trans (hb.mono HB1.out.size))
      clear hb
      go_wp2
      go_ret2
      exact ⟨by rw [HF.out]; rfl, HZ.out⟩
theorem specText_anyK (d : Bool) (v : Value) (t : ByteArray) (xs : List Sl) (w : World) (hv : RSl w v xs) (hbig : ∀ (j : Nat) (h : j < xs.length), xs[j].1.size ≤ 1048576) :
    Calls Try.prog 79 #[.agg #[.bool d, v, .string t]] w fun e w' => e = .returned (.tuple #[.string (blockB d xs t), .bool (blockOk d xs t)]) ∧ Below w.heap.size w w' := by
  cases hok : blockOk d xs t with
  | false => rw [← hok]; exact specText_not d v t xs w hv hbig hok
  | true =>
    rw [← hok]
    cases d with
    | true => exact specText_d v t xs w hv hbig hok
    | false => exact specText_t v t xs w hv hbig hok
end Go.Proofs.Ytajollmmpdkhbaa
