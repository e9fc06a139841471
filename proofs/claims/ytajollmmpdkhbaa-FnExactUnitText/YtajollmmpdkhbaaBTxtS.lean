
/- spec.BitsText by its contract. -/
import Derived.Test.YtajollmmpdkhbaaCom
import Derived.Test.YtajollmmpdkhbaaBTxt
namespace Go.Proofs.Ytajollmmpdkhbaa.Kit
open Go.RowKit
theorem rfl_take {w : World} {g off n c c' k : Nat} {xs : List Bool} (h : RFl w (.slice (some ⟨g, off, none⟩) n c) xs) (hk : k ≤ n) : RFl w (.slice (some ⟨g, off, none⟩) k c') (xs.take k) := by
  obtain ⟨a, cap, e, h⟩ := h
  simp only [Value.slice.injEq] at e
  obtain ⟨rfl, rfl, -⟩ := e
  refine ⟨some ⟨g, off, none⟩, c', by rw [List.length_take, Nat.min_eq_left hk], fun j hj => ?_⟩
  have hj' : j < xs.length := by simp at hj; omega
  obtain ⟨g', off', e1, e2, e3⟩ := h j hj'
  exact ⟨g', off', e1, e2, by rw [e3]; simp⟩
theorem rfl_drop {w : World} {g off n c c' k : Nat} {xs : List Bool} (h : RFl w (.slice (some ⟨g, off, none⟩) n c) xs) (hk : k ≤ n) : RFl w (.slice (some ⟨g, off + k, none⟩) (n - k) c') (xs.drop k) := by
  obtain ⟨a, cap, e, h⟩ := h
  simp only [Value.slice.injEq] at e
  obtain ⟨rfl, rfl, -⟩ := e
  refine ⟨some ⟨g, off + k, none⟩, c', by rw [List.length_drop], fun j hj => ?_⟩
  have hj' : k + j < xs.length := by simp at hj; omega
  obtain ⟨g', off', e1, e2, e3⟩ := h (k + j) hj'
  simp only [Option.some.injEq, Addr.mk.injEq] at e1
  obtain ⟨rfl, rfl, -⟩ := e1
  refine ⟨g, off + k, rfl, e2, ?_⟩
  rw [Nat.add_assoc, e3]
  simp
end Go.Proofs.Ytajollmmpdkhbaa.Kit
namespace Go.Proofs.Ytajollmmpdkhbaa
open Go.RowKit Kit

theorem conv_three (p q r : UInt8) (W : World) : (convert 106 9 (.slice (some ⟨W.heap.size, 0, none⟩) 3 3)).run Try.prog (W.alloc (.cells #[.int .u8 (p.toNat : Int), .int .u8 (q.toNat : Int), .int .u8 (r.toNat : Int)] 5)).drew = .ok (.string ⟨#[p, q, r]⟩) (W.alloc (.cells #[.int .u8 (p.toNat : Int), .int .u8 (q.toNat : Int), .int .u8 (r.toNat : Int)] 5)).drew := by
  refine run_convert_bytes_back _ 106 9 5 ⟨W.heap.size, 0, none⟩ 3 [p, q, r] Try.underlying106 Try.underlying5 Try.underlying9 ?_
  intro j hj
  match j, hj with
  | 0, _ => simp [Addr.add]
  | 1, _ => simp [Addr.add]
  | 2, _ => simp [Addr.add]

set_option maxHeartbeats 800000 in
theorem specText_noB (a1 a2 : Option Addr) (n m c1 c2 : Nat) (w : World) (h : okB n m = false) :
    Calls Try.prog 77 #[.agg #[.slice a1 n c1, .slice a2 m c2]] w fun e w' => e = .returned (.tuple #[.string ⟨#[]⟩, .bool false]) ∧ Below w.heap.size w w' := by
  have C := hide (specOk_anyB a1 a2 n m c1 c2)
  rw [h] at C
  clear h
  go_enter Try.func77, Try.ntmps77
  go_wp2_with fail
  refine (C.out _).mono ?_
  rintro e w1 ⟨rfl, B1⟩
  have HB := hide (((Below.refl _ w).alloc (Nat.le_refl _) _).trans (B1.mono (by simp)))
  clear B1
  go_wp2
  refine bodyPost_ret (v := .tuple #[.string ⟨#[]⟩, .bool false]) (by simp [results, go_sem]) rfl ⟨rfl, HB.out⟩

set_option linter.unusedSimpArgs false in
set_option maxRecDepth 100000 in
set_option maxHeartbeats 3200000 in
theorem specText_yesB (g1 g2 c1 c2 : Nat) (xs ys : List Bool) (w : World) (hu : RFl w (.slice (some ⟨g1, 0, none⟩) 16 c1) xs) (hv : RFl w (.slice (some ⟨g2, 0, none⟩) 8 c2) ys) (h1 : 16 ≤ c1) (h3 : c1 ≤ maxLen) :
    Calls Try.prog 77 #[.agg #[.slice (some ⟨g1, 0, none⟩) 16 c1, .slice (some ⟨g2, 0, none⟩) 8 c2]] w fun e w' => e = .returned (.tuple #[.string (textB xs ys), .bool true]) ∧ Below w.heap.size w w' := by
  have hlx : xs.length = 16 := by obtain ⟨a, c, e, -⟩ := hu; simp at e; omega
  have hly : ys.length = 8 := by obtain ⟨a, c, e, -⟩ := hv; simp at e; omega
  have HT := hide (rfl_take (c' := c1) (k := 8) hu (by decide))
  have HD : Hid (RFl w (.slice (some ⟨g1, 8, none⟩) 8 (c1 - 8)) (xs.drop 8)) := rfl_drop (c' := c1 - 8) (k := 8) hu (by decide)
  have HV := hide hv
  obtain ⟨p, hp⟩ : ∃ p, bB (xs.take 8) = p := ⟨_, rfl⟩
  obtain ⟨q, hq⟩ : ∃ q, bB (xs.drop 8) = q := ⟨_, rfl⟩
  obtain ⟨r, hr⟩ : ∃ r, bB ys = r := ⟨_, rfl⟩
  have R1 := hide (fun w hv => l05Byte_any (.slice (some ⟨g1, 0, none⟩) 8 c1) (xs.take 8) w hv (by simp; omega))
  have R2 := hide (fun w hv => l05Byte_any (.slice (some ⟨g1, 8, none⟩) 8 (c1 - 8)) (xs.drop 8) w hv (by simp; omega))
  have R3 := hide (fun w hv => l05Byte_any (.slice (some ⟨g2, 0, none⟩) 8 c2) ys w hv (by omega))
  have HX : Hid (textB xs ys = ⟨#[p, q, r]⟩) := by show textB xs ys = _; rw [textB, hp, hq, hr]
  rw [hp] at R1
  rw [hq] at R2
  rw [hr] at R3
  have C := hide (specOk_anyB (some ⟨g1, 0, none⟩) (some ⟨g2, 0, none⟩) 16 8 c1 c2)
  rw [show okB 16 8 = true from rfl] at C
  rw [HX.out]
  clear hp hq hr hu hv hlx hly HX
  have i1 : (8 : Int) ≤ (c1 : Int) := by omega
  have i2 : (16 : Int) ≤ (c1 : Int) := by omega
  have i3 : c1 ≤ 9223372036854775807 := h3
  have i4 : ¬ c1 = 8 := by omega
  go_enter Try.func77, Try.ntmps77
  go_wp2_with fail
  refine (C.out _).mono ?_
  rintro e w1 ⟨rfl, B1⟩
  have X1 : AtP 24 w1 w.heap.size (.slice (some ⟨g1, 0, none⟩) 16 c1) (.slice (some ⟨g2, 0, none⟩) 8 c2) := (AtP.new 24 w _ _).below B1 (by simp)
  have b1 : Below w.heap.size w w1 := ((Below.refl _ w).alloc (Nat.le_refl _) _).trans (B1.mono (by simp))
  have U1 := HT.out.below b1 (Nat.le_refl _)
  have V1 := HD.out.below b1 (Nat.le_refl _)
  have W1 := HV.out.below b1 (Nat.le_refl _)
  have H1 := hide (And.intro X1 (And.intro U1 (And.intro V1 (And.intro W1 b1))))
  obtain ⟨d0, d1⟩ := X1.cells
  have m1 := X1.lt
  have hcv := conv_three p q r w1
  clear B1 X1 U1 V1 W1 b1 C HT HD HV
  go_wp2_with fail
  refine wp_region_held_drew (S := (fun w' => w'.cell? ⟨w.heap.size, 0, none⟩ = some (.slice (some ⟨g1, 0, none⟩) 16 c1) ∧ w'.cell? ⟨w.heap.size, 1, none⟩ = some (.slice (some ⟨g2, 0, none⟩) 8 c2))) (by kernel_rfl) ⟨d0, d1⟩ (fun hHeld => ?_)
  refine wpAnyH_take (i := 0) (oi := { dst := some 7, op := Op.fieldAddr 24 (Operand.tmp 1) 0, type := _, pos := _, after := _, guard := none }) (v := ?_) rfl (by kernel_rfl) (by kernel_rfl) (by kernel_rfl) (fun _ _ _ h => h) (Or.inl ⟨by rfl, ?_⟩) hHeld ?_
  rotate_left
  · intro W hSw; (try dsimp only at hSw); go_simp; (try with_reducible rfl)
  try simp only [Act.put, List.setIfInBounds_toArray, List.set_cons_zero, List.set_cons_succ]
  refine wpAnyH_take (i := 1) (oi := { dst := some 8, op := Op.load 22 (Operand.tmp 7), type := _, pos := _, after := _, guard := none }) (v := ?_) rfl (by kernel_rfl) (by kernel_rfl) (by kernel_rfl) (fun _ _ _ h => h) (Or.inl ⟨by rfl, ?_⟩) hHeld ?_
  rotate_left
  · intro W hSw; (try dsimp only at hSw); go_simp; (try with_reducible rfl)
  try simp only [Act.put, List.setIfInBounds_toArray, List.set_cons_zero, List.set_cons_succ]
  refine wpAnyH_take (i := 2) (oi := { dst := some 9, op := Op.slice 22 (Operand.tmp 8) none (some (Operand.const (Value.int IntKind.i64 8))) none, type := _, pos := _, after := _, guard := none }) (v := ?_) rfl (by kernel_rfl) (by kernel_rfl) (by kernel_rfl) (fun _ _ _ h => h) (Or.inl ⟨by rfl, ?_⟩) hHeld ?_
  rotate_left
  · intro W hSw; (try dsimp only at hSw); go_simp; (try with_reducible rfl)
  try simp only [Act.put, List.setIfInBounds_toArray, List.set_cons_zero, List.set_cons_succ]
  refine wpAnyH_take (i := 4) (oi := { dst := some 11, op := Op.fieldAddr 24 (Operand.tmp 1) 0, type := _, pos := _, after := _, guard := none }) (v := ?_) rfl (by kernel_rfl) (by kernel_rfl) (by kernel_rfl) (fun _ _ _ h => h) (Or.inl ⟨by rfl, ?_⟩) hHeld ?_
  rotate_left
  · intro W hSw; (try dsimp only at hSw); go_simp; (try with_reducible rfl)
  try simp only [Act.put, List.setIfInBounds_toArray, List.set_cons_zero, List.set_cons_succ]
  refine wpAnyH_take (i := 5) (oi := { dst := some 12, op := Op.load 22 (Operand.tmp 11), type := _, pos := _, after := _, guard := none }) (v := ?_) rfl (by kernel_rfl) (by kernel_rfl) (by kernel_rfl) (fun _ _ _ h => h) (Or.inl ⟨by rfl, ?_⟩) hHeld ?_
  rotate_left
  · intro W hSw; (try dsimp only at hSw); go_simp; (try with_reducible rfl)
  try simp only [Act.put, List.setIfInBounds_toArray, List.set_cons_zero, List.set_cons_succ]
  refine wpAnyH_take (i := 6) (oi := { dst := some 13, op := Op.slice 22 (Operand.tmp 12) (some (Operand.const (Value.int IntKind.i64 8))) none none, type := _, pos := _, after := _, guard := none }) (v := ?_) rfl (by kernel_rfl) (by kernel_rfl) (by kernel_rfl) (fun _ _ _ h => h) (Or.inl ⟨by rfl, ?_⟩) hHeld ?_
  rotate_left
  · intro W hSw; (try dsimp only at hSw); go_simp; (try with_reducible rfl)
  try simp only [Act.put, List.setIfInBounds_toArray, List.set_cons_zero, List.set_cons_succ]
  refine wpAnyH_take (i := 8) (oi := { dst := some 15, op := Op.fieldAddr 24 (Operand.tmp 1) 1, type := _, pos := _, after := _, guard := none }) (v := ?_) rfl (by kernel_rfl) (by kernel_rfl) (by kernel_rfl) (fun _ _ _ h => h) (Or.inl ⟨by rfl, ?_⟩) hHeld ?_
  rotate_left
  · intro W hSw; (try dsimp only at hSw); go_simp; (try with_reducible rfl)
  try simp only [Act.put, List.setIfInBounds_toArray, List.set_cons_zero, List.set_cons_succ]
  refine wpAnyH_take (i := 9) (oi := { dst := some 16, op := Op.load 22 (Operand.tmp 15), type := _, pos := _, after := _, guard := none }) (v := ?_) rfl (by kernel_rfl) (by kernel_rfl) (by kernel_rfl) (fun _ _ _ h => h) (Or.inl ⟨by rfl, ?_⟩) hHeld ?_
  rotate_left
  · intro W hSw; (try dsimp only at hSw); go_simp; (try with_reducible rfl)
  try simp only [Act.put, List.setIfInBounds_toArray, List.set_cons_zero, List.set_cons_succ]
  refine wpAnyH_ready (rs := [3]) (by kernel_rfl) (by simp) ?_
  refine AllReadyH.cons (o := { dst := some 10, op := Op.call { callee := Callee.value (Operand.func 97), args := #[Operand.tmp 9], argTypes := #[22] }, type := _, pos := _, after := _, guard := none }) rfl (fun K hK => ?_) ?_
  · go_simp
    refine (R1.out _ H1.out.2.1.drew).mono ?_
    rintro e w2 ⟨rfl, rfl⟩
    go_wp2_with fail
    refine hK.out _ _ (⟨d0, d1⟩) (fun hHeld => ?_)
    clear hK K
    try simp only [Act.put, List.setIfInBounds_toArray, List.set_cons_zero, List.set_cons_succ]
    refine wpAnyH_ready (rs := [7]) (by kernel_rfl) (by simp) ?_
    refine AllReadyH.cons (o := { dst := some 14, op := Op.call { callee := Callee.value (Operand.func 97), args := #[Operand.tmp 13], argTypes := #[22] }, type := _, pos := _, after := _, guard := none }) rfl (fun K hK => ?_) ?_
    · go_simp
      refine (R2.out _ H1.out.2.2.1.drew).mono ?_
      rintro e w2 ⟨rfl, rfl⟩
      go_wp2_with fail
      refine hK.out _ _ (⟨d0, d1⟩) (fun hHeld => ?_)
      clear hK K
      try simp only [Act.put, List.setIfInBounds_toArray, List.set_cons_zero, List.set_cons_succ]
      refine wpAnyH_ready (rs := [10]) (by kernel_rfl) (by simp) ?_
      refine AllReadyH.cons (o := { dst := some 17, op := Op.call { callee := Callee.value (Operand.func 97), args := #[Operand.tmp 16], argTypes := #[22] }, type := _, pos := _, after := _, guard := none }) rfl (fun K hK => ?_) ?_
      · go_simp
        refine (R3.out _ H1.out.2.2.2.1.drew).mono ?_
        rintro e w2 ⟨rfl, rfl⟩
        go_wp2_with fail
        refine hK.out _ _ (⟨d0, d1⟩) (fun hHeld => ?_)
        clear hK K
        try simp only [Act.put, List.setIfInBounds_toArray, List.set_cons_zero, List.set_cons_succ]
        refine wpAnyH_ready (rs := [11]) (by kernel_rfl) (by simp) ?_
        refine AllReadyH.cons (o := { dst := some 18, op := Op.buildSlice 106 3 #[(0, Operand.tmp 10), (1, Operand.tmp 14), (2, Operand.tmp 17)], type := _, pos := _, after := _, guard := none }) rfl (fun K hK => ?_) ?_
        · go_simp
          refine hK.out _ _ ((H1.out.1.alloc _).drew.cells) (fun hHeld => ?_)
          clear hK K
          try simp only [Act.put, List.setIfInBounds_toArray, List.set_cons_zero, List.set_cons_succ]
          refine wpAnyH_ready (rs := [12]) (by kernel_rfl) (by simp) ?_
          refine AllReadyH.cons (o := { dst := some 19, op := Op.convert 106 9 (Operand.tmp 18), type := _, pos := _, after := _, guard := none }) rfl (fun K hK => ?_) ?_
          · go_simp
            refine hK.out _ _ ((H1.out.1.alloc _).drew.cells) (fun hHeld => ?_)
            clear hK K
            try simp only [Act.put, List.setIfInBounds_toArray, List.set_cons_zero, List.set_cons_succ]
            refine wpAnyH_take (i := 13) (oi := { dst := some 2, op := Op.assign (Operand.tmp 19), type := _, pos := _, after := _, guard := none }) (v := ?_) rfl (by kernel_rfl) (by kernel_rfl) (by kernel_rfl) (fun _ _ _ h => h) (Or.inl ⟨by rfl, ?_⟩) hHeld ?_
            rotate_left
            · intro W hSw; (try dsimp only at hSw); go_simp; (try with_reducible rfl)
            try simp only [Act.put, List.setIfInBounds_toArray, List.set_cons_zero, List.set_cons_succ]
            refine wpAnyH_take (i := 14) (oi := { dst := some 3, op := Op.assign (Operand.const (Value.bool true)), type := _, pos := _, after := _, guard := none }) (v := ?_) rfl (by kernel_rfl) (by kernel_rfl) (by kernel_rfl) (fun _ _ _ h => h) (Or.inl ⟨by rfl, ?_⟩) hHeld ?_
            rotate_left
            · intro W hSw; (try dsimp only at hSw); go_simp; (try with_reducible rfl)
            try simp only [Act.put, List.setIfInBounds_toArray, List.set_cons_zero, List.set_cons_succ]
            refine wpAnyH_done (by kernel_rfl) ?_ _
            have HZ := hide (((H1.out.2.2.2.2.alloc H1.out.2.2.2.2.size (.cells #[.int .u8 (p.toNat : Int), .int .u8 (q.toNat : Int), .int .u8 (r.toNat : Int)] 5))).drew)
            clear H1 hcv hHeld
            go_wp2
            refine bodyPost_ret (v := .tuple #[.string ⟨#[p, q, r]⟩, .bool true]) (by simp [results, go_sem]) rfl ⟨rfl, HZ.out⟩
          · exact AllReadyH.nil
        · exact AllReadyH.nil
      · exact AllReadyH.nil
    · exact AllReadyH.nil
  · exact AllReadyH.nil
/-- The bytes of bits, nothing where they are not right. -/
def textA (xs ys : List Bool) : ByteArray := if okB xs.length ys.length then textB xs ys else ⟨#[]⟩
theorem specText_anyB (u v : Value) (xs ys : List Bool) (base : Nat) (w : World) (h : Two w base u v xs ys) :
    Calls Try.prog 77 #[.agg #[u, v]] w fun e w' => e = .returned (.tuple #[.string (textA xs ys), .bool (okB xs.length ys.length)]) ∧ Below w.heap.size w w' := by
  cases hok : okB xs.length ys.length with
  | false =>
    obtain ⟨a1, c1, a2, c2, rfl, rfl⟩ := h.form
    have e : textA xs ys = ⟨#[]⟩ := by simp [textA, hok]
    rw [e]
    exact specText_noB a1 a2 xs.length ys.length c1 c2 w hok
  | true =>
    obtain ⟨h1, h2⟩ := okB_true hok
    have e : textA xs ys = textB xs ys := by simp [textA, hok]
    rw [e]
    obtain ⟨g1, c1, e1, -, -, -, -, k1⟩ := h.a.at 0 (by rw [fc_length]; omega)
    obtain ⟨g2, c2, e2, -, -, -, -, k2⟩ := h.b.at 0 (by rw [fc_length]; omega)
    rw [fc_length, h1] at e1 k1
    rw [fc_length, h2] at e2 k2
    have hm : c1 ≤ maxLen := by
      rcases h.a.2 with ⟨h3, -⟩ | ⟨g, cap, cur, h3, -, -, -, h4, -⟩
      · rw [h3] at e1; cases e1
      · rw [e1] at h3; simp only [Value.slice.injEq] at h3; rw [h3.2.2]; exact h4
    have ha := h.a.rfl
    have hb := h.b.rfl
    rw [e1] at ha ⊢
    rw [e2] at hb ⊢
    exact specText_yesB g1 g2 c1 c2 xs ys w ha hb k1 hm
theorem implText_anyB (u v : Value) (xs ys : List Bool) (w : World) (hu : RFl w u xs) (hv : RFl w v ys) :
    Calls Try.prog 80 #[.agg #[u, v]] w fun e w' => e = .returned (.tuple #[.string (textA xs ys), .bool (okB xs.length ys.length)]) ∧ Below w.heap.size w w' := by
  cases hok : okB xs.length ys.length with
  | false =>
    obtain ⟨a1, c1, rfl⟩ := hu.form
    obtain ⟨a2, c2, rfl⟩ := hv.form
    have e : textA xs ys = ⟨#[]⟩ := by simp [textA, hok]
    rw [e]
    exact implText_noB a1 a2 xs.length ys.length c1 c2 w hok
  | true =>
    obtain ⟨h1, h2⟩ := okB_true hok
    have e : textA xs ys = textB xs ys := by simp [textA, hok]
    rw [e]
    exact implText_yesB u v xs ys w hu hv h1 h2
end Go.Proofs.Ytajollmmpdkhbaa
