/- The walk of laws.FnBlocks: it returns true at every code. -/
import Derived.Test.YtfffiboggpjjkaaDrawT
import Derived.Test.YtfffiboggpjjkaaRdE
import Derived.Test.YtfffiboggpjjkaaTextI
namespace Go.Proofs.Ytfffiboggpjjkaa.fnBlocks
open Go.RowKit Kit
theorem big_no (a : Option Addr) (len cap : Nat) (w : World) (h : len ≤ 1048576) : Calls Try.prog 9 #[.slice a len cap] w fun e w' => e = .returned (.bool false) ∧ w = w' := by
  have b0 : decide ((1048576 : Int) < (len : Int)) = false := by simp; omega
  go_enter Try.func9, Try.ntmps9
  go_wp2
  go_ret
  exact ⟨rfl, rfl⟩
theorem big_yes (a : Option Addr) (len cap : Nat) (w : World) (h : ¬ len ≤ 1048576) : Calls Try.prog 9 #[.slice a len cap] w fun e w' => e = .returned (.bool true) ∧ w = w' := by
  have b0 : decide ((1048576 : Int) < (len : Int)) = true := by simp; omega
  go_enter Try.func9, Try.ntmps9
  go_wp2
  go_ret
  exact ⟨rfl, rfl⟩
theorem rX_length (s : ByteArray) : (rX s).length ≤ 4 := by
  cases h : readR s with
  | none => rw [(r_none h).2.2.1]; simp
  | some x =>
    obtain ⟨d, xs, t⟩ := x
    rw [(r_some h).2.2.1]
    unfold readR at h
    split at h
    · split at h
      · split at h
        · cases h
        · split at h
          · rename_i hc
            simp only [Option.some.injEq, Prod.mk.injEq] at h
            obtain ⟨_, rfl, _⟩ := h
            have := (slots_bounds hc.2).1
            omega
          · cases h
      · split at h
        · simp only [Option.some.injEq, Prod.mk.injEq] at h
          obtain ⟨_, rfl, _⟩ := h
          simp
        · cases h
    · cases h
/-- What is read of the bytes of a block: itself, where it is right. -/
theorem back_ex (d : Bool) (xs : List Sl) (t : ByteArray) : ∃ r' k' l' xs', rOk (blockB d xs t) = r' ∧ rD (blockB d xs t) = k' ∧ rT (blockB d xs t) = l' ∧ rX (blockB d xs t) = xs' ∧ xs'.length ≤ 4 ∧ (blockOk d xs t = true → r' = true ∧ k' = d ∧ l' = t ∧ xs' = xs) :=
  ⟨_, _, _, _, rfl, rfl, rfl, rfl, rX_length _, fun h => by
    obtain ⟨e1, e2, e3, e4⟩ := r_some (text_rd h)
    exact ⟨e1, e2, e4, e3⟩⟩
theorem again {s : ByteArray} (h : rOk s = true) : blockB (rD s) (rX s) (rT s) = s := by
  cases hr : readR s with
  | none => rw [(r_none hr).1] at h; cases h
  | some x =>
    obtain ⟨d, xs, t⟩ := x
    obtain ⟨_, e2, e3, e4⟩ := r_some hr
    rw [e2, e3, e4]
    exact rd_text hr

set_option maxHeartbeats 3200000 in
theorem walk (a : Option Addr) (len cap : Nat) (w : World) (hcode : CodeIs w a len) (_hl : len ≤ maxLen) :
    Calls Try.prog 3 #[.slice a len cap] w fun e w' => e = .returned (.bool true) ∧ Below w.heap.size w w' := by
  have HO := hide hcode
  clear hcode
  by_cases hlen : len ≤ 1048576
  · go_enter Try.func3, Try.ntmps3
    go_wp2_with fail
    refine (big_no a len cap w hlen).mono ?_
    rintro e w1 ⟨rfl, rfl⟩
    go_wp2_with fail
    refine (drawBT_any w a len cap HO.out hlen).mono ?_
    rintro e w1 ⟨k, v, l, xs, rfl, O1, M1, B1⟩
    obtain ⟨s1, t1, rfl, -⟩ := O1.form
    have R1 := O1.rsl
    have hx := M1.len
    have HR1 := hide R1
    have HB1 := hide B1
    obtain ⟨r', k', l', xs', e1, e2, e3, e4, hx', hback⟩ := back_ex k xs l
    have hts := blockB_size (d := k) (xs := xs) M1.1
    have C1 := hide (fun v W => implText_any k v l xs W)
    have C2 := hide (fun w => implRead_any (blockB k xs l) w (by omega))
    rw [e1, e2, e3, e4] at C2
    have C3 := hide (fun v W h => specOk_any k v l xs W h M1.big)
    have C4 := hide (fun v W => implOk_any k v l xs W)
    have HBK := hide hback
    clear hback e1 e2 e3 e4 hts R1 O1 M1 B1
    generalize blockB k xs l = s at *
    generalize blockOk k xs l = r at *
    go_wp2_with fail
    refine (C1.out _ _ (HR1.out.alloc _)).mono ?_
    rintro e w2 ⟨rfl, B2⟩
    have X2 : AtC w2 w1.heap.size 26 #[.bool k, .slice s1 xs.length t1, .string l] := (AtC.new w1 26 _).below B2 (by simp)
    have R2 := (HR1.out.alloc _).below B2 (Nat.le_refl _)
    have b2 := (HB1.out.alloc HB1.out.size _).trans (B2.mono (by have := HB1.out.size; simp; omega))
    have H2 := hide (And.intro X2 (And.intro R2 b2))
    clear X2 R2 b2 B2 HR1 HB1 C1
    go_wp2_with fail
    refine (C2.out _).mono ?_
    rintro e w3 ⟨v3, rfl, O3, B3⟩
    obtain ⟨s3, t3, rfl⟩ := O3.rsl.form
    have X3 := H2.out.1.below B3 H2.out.1.lt
    have R3 := H2.out.2.1.below B3 (Nat.le_refl _)
    have b3 := H2.out.2.2.trans (B3.mono H2.out.2.2.size)
    have H3 := hide (And.intro X3 (And.intro R3 (And.intro b3 O3.rsl)))
    clear X3 R3 b3 B3 O3 H2 C2
    go_wp2_with fail
    refine (drawRB_any _ a len cap (code_below HO.out (H3.out.2.2.1.alloc H3.out.2.2.1.size _)) hlen).mono ?_
    rintro e w4 ⟨t, ht, rfl, B4⟩
    have X4 := (H3.out.1.alloc _).below B4 (by have := H3.out.1.lt; simp; omega)
    have Y4 : AtC w4 w3.heap.size 26 #[.bool k', .slice s3 xs'.length t3, .string l'] := (AtC.new w3 26 _).below B4 (by simp)
    have R4 := (H3.out.2.1.alloc _).below B4 (Nat.le_refl _)
    have S4 := (H3.out.2.2.2.alloc _).below B4 (Nat.le_refl _)
    have b4 := (H3.out.2.2.1.alloc H3.out.2.2.1.size _).trans (B4.mono (by have := H3.out.2.2.1.size; simp; omega))
    have H4 := hide (And.intro X4 (And.intro R4 (And.intro b4 (And.intro Y4 S4))))
    clear X4 Y4 R4 S4 b4 B4 H3
    have hag := fun h => again (s := t) h
    have C5 := hide (fun w => implRead_any t w (by omega))
    have C6 := hide (fun w => specRead_any t w (by omega))
    generalize rOk t = r2 at *
    generalize rD t = k2 at *
    generalize rT t = l2 at *
    generalize rX t = xs2 at *
    have C7 := hide (fun v W => implText_any k2 v l2 xs2 W)
    have HT := hide hag
    clear hag
    generalize blockB k2 xs2 l2 = t2 at *
    generalize blockOk k2 xs2 l2 = ok2 at *
    go_wp2_with fail
    refine (C5.out _).mono ?_
    rintro e w5 ⟨v5, rfl, O5, B5⟩
    obtain ⟨s5, u5, rfl⟩ := O5.rsl.form
    have X5 := H4.out.1.below B5 H4.out.1.lt
    have R5 := H4.out.2.1.below B5 (Nat.le_refl _)
    have b5 := H4.out.2.2.1.trans (B5.mono H4.out.2.2.1.size)
    have Y5 := H4.out.2.2.2.1.below B5 H4.out.2.2.2.1.lt
    have S5 := H4.out.2.2.2.2.below B5 (Nat.le_refl _)
    have H5 := hide (And.intro X5 (And.intro R5 (And.intro b5 (And.intro Y5 (And.intro S5 O5.rsl)))))
    clear X5 R5 b5 Y5 S5 O5 B5 H4 C5
    go_wp2_with fail
    refine (C6.out _).mono ?_
    rintro e w6 ⟨v6, rfl, O6, B6⟩
    obtain ⟨s6, u6, rfl⟩ := O6.rsl.form
    have X6 := (H5.out.1.alloc _).below B6 (by have := H5.out.1.lt; simp; omega)
    have R6 := (H5.out.2.1.alloc _).below B6 (Nat.le_refl _)
    have b6 := (H5.out.2.2.1.alloc H5.out.2.2.1.size _).trans (B6.mono (by have := H5.out.2.2.1.size; simp; omega))
    have Y6 := (H5.out.2.2.2.1.alloc _).below B6 (by have := H5.out.2.2.2.1.lt; simp; omega)
    have S6 := (H5.out.2.2.2.2.1.alloc _).below B6 (Nat.le_refl _)
    have Z6 : AtC w6 w5.heap.size 26 #[.bool k2, .slice s5 xs2.length u5, .string l2] := (AtC.new w5 26 _).below B6 (by simp)
    have T6 := (H5.out.2.2.2.2.2.alloc _).below B6 (Nat.le_refl _)
    obtain ⟨c0, c1, c2, -⟩ := Z6.three
    have m6 := Z6.lt
    have H6 := hide (And.intro X6 (And.intro R6 (And.intro b6 (And.intro Y6 (And.intro S6 T6)))))
    clear X6 R6 b6 Y6 S6 T6 Z6 O6 B6 H5 C6
    go_wp2_with fail
    refine (C7.out _ _ (H6.out.2.2.2.2.2.alloc _)).mono ?_
    rintro e w7 ⟨rfl, B7⟩
    have X7 := (H6.out.1.alloc _).below B7 (by have := H6.out.1.lt; simp; omega)
    have R7 := (H6.out.2.1.alloc _).below B7 (Nat.le_refl _)
    have b7 := (H6.out.2.2.1.alloc H6.out.2.2.1.size _).trans (B7.mono (by have := H6.out.2.2.1.size; simp; omega))
    have Y7 := (H6.out.2.2.2.1.alloc _).below B7 (by have := H6.out.2.2.2.1.lt; simp; omega)
    have S7 := (H6.out.2.2.2.2.1.alloc _).below B7 (Nat.le_refl _)
    obtain ⟨d0, d1, d2, -⟩ := X7.three
    have H7 := hide (And.intro X7 (And.intro R7 (And.intro b7 (And.intro Y7 S7))))
    clear X7 R7 b7 Y7 S7 B7 H6 C7 c0 c1 c2 m6
    go_wp2_with fail
    refine (C3.out _ w7 H7.out.2.1).mono ?_
    rintro e w8 ⟨rfl, B8⟩
    have X8 := H7.out.1.below B8 H7.out.1.lt
    have R8 := H7.out.2.1.below B8 (Nat.le_refl _)
    have b8 := H7.out.2.2.1.trans (B8.mono H7.out.2.2.1.size)
    have Y8 := H7.out.2.2.2.1.below B8 H7.out.2.2.2.1.lt
    have S8 := H7.out.2.2.2.2.below B8 (Nat.le_refl _)
    obtain ⟨c0, c1, c2, -⟩ := X8.three
    have H8 := hide (And.intro X8 (And.intro R8 (And.intro b8 (And.intro Y8 S8))))
    clear X8 R8 b8 Y8 S8 B8 H7 C3 d0 d1 d2
    go_wp2_with fail
    refine (C4.out _ w8 H8.out.2.1).mono ?_
    rintro e w9 ⟨rfl, B9⟩
    have X9 := H8.out.1.below B9 H8.out.1.lt
    have R9 := H8.out.2.1.below B9 (Nat.le_refl _)
    have b9 := H8.out.2.2.1.trans (B9.mono H8.out.2.2.1.size)
    have Y9 := H8.out.2.2.2.1.below B9 H8.out.2.2.2.1.lt
    have S9 := H8.out.2.2.2.2.below B9 (Nat.le_refl _)
    have H9 := hide (And.intro R9 (And.intro b9 S9))
    have HX9 := hide X9
    have HY9 := hide Y9
    clear X9 R9 b9 Y9 S9 B9 H8 C4 c0 c1 c2
    cases r with
    | true =>
      obtain ⟨rfl, rfl, rfl, rfl⟩ := HBK.out rfl
      obtain ⟨d0, d1, d2, -⟩ := HX9.out.three
      obtain ⟨f0, f1, f2, -⟩ := HY9.out.three
      clear HBK HX9 HY9
      go_wp2_with fail
      refine (sameB_same k' _ _ l' xs' w9 H9.out.2.2 H9.out.1 (by omega)).mono ?_
      rintro e w10 ⟨rfl, B10⟩
      have HB := hide (H9.out.2.1.trans (B10.mono H9.out.2.1.size))
      clear B10 H9 d0 d1 d2 f0 f1 f2
      cases r2 with
      | true =>
        have e := HT.out rfl
        subst e
        clear HT
        go_wp2
        go_ret
        exact ⟨rfl, HB.out⟩
      | false =>
        clear HT
        go_wp2
        go_ret
        exact ⟨rfl, HB.out⟩
    | false =>
      have HB := hide H9.out.2.1
      clear HBK H9 HX9 HY9
      cases r2 with
      | true =>
        have e := HT.out rfl
        subst e
        clear HT
        go_wp2
        go_ret
        exact ⟨rfl, HB.out⟩
      | false =>
        clear HT
        go_wp2
        go_ret
        exact ⟨rfl, HB.out⟩
  · go_enter Try.func3, Try.ntmps3
    go_wp2_with fail
    refine (big_yes a len cap w hlen).mono ?_
    rintro e w1 ⟨rfl, rfl⟩
    go_wp2
    go_ret
    exact ⟨rfl, Below.refl _ _⟩
end Go.Proofs.Ytfffiboggpjjkaa.fnBlocks
