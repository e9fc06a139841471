/- The walk of laws.FnBits: it returns true at every code. -/
import Derived.Test.YtakkdfbcipbbjaaDrawT
import Derived.Test.YtakkdfbcipbbjaaLawFree
namespace Go.Proofs.Ytakkdfbcipbbjaa.fnBits
open Go.RowKit Kit
/-- What is kept of the drawn bits. -/
structure S1 (w w' : World) (V : Nat) (u v : Value) (xs ys : List Bool) (a : Option Addr) (len : Nat) : Prop where
  at1 : AtP 26 w' V u v
  fu : RFl w' u xs
  fv : RFl w' v ys
  code : CodeIs w' a len
  bel : Below w.heap.size w w'
theorem S1.below {w w' w2 : World} {V : Nat} {u v : Value} {xs ys : List Bool} {a : Option Addr} {len : Nat} (h : S1 w w' V u v xs ys a len) (hb : Below w'.heap.size w' w2) : S1 w w2 V u v xs ys a len :=
  ⟨h.at1.below hb h.at1.lt, h.fu.below hb (Nat.le_refl _), h.fv.below hb (Nat.le_refl _), code_below h.code hb, h.bel.trans (hb.mono h.bel.size)⟩
theorem S1.alloc {w w' : World} {V : Nat} {u v : Value} {xs ys : List Bool} {a : Option Addr} {len : Nat} (h : S1 w w' V u v xs ys a len) (o : Obj) : S1 w (w'.alloc o) V u v xs ys a len := h.below ((Below.refl _ w').alloc (Nat.le_refl _) o)
/-- And of the bits read back. -/
structure S2 (w' : World) (V : Nat) (u v : Value) (xs : List Bool) : Prop where
  at2 : AtP 26 w' V u v
  fu : RFl w' u xs
theorem S2.below {w' w2 : World} {V : Nat} {u v : Value} {xs : List Bool} (h : S2 w' V u v xs) (hb : Below w'.heap.size w' w2) : S2 w2 V u v xs := ⟨h.at2.below hb h.at2.lt, h.fu.below hb (Nat.le_refl _)⟩
theorem S2.alloc {w' : World} {V : Nat} {u v : Value} {xs : List Bool} (h : S2 w' V u v xs) (o : Obj) : S2 (w'.alloc o) V u v xs := h.below ((Below.refl _ w').alloc (Nat.le_refl _) o)

theorem nine {w wr w9 : World} {u v : Value} (T : Two w9 wr.heap.size u v newX newY) (hb : Below w.heap.size w wr) (B : Below wr.heap.size wr w9) : ∃ g1 c1 g2 c2, u = .slice (some ⟨g1, 0, none⟩) 16 c1 ∧ v = .slice (some ⟨g2, 0, none⟩) 8 c2 ∧
    ∀ w10, Below (w9.alloc (.cells #[.slice (some ⟨g1, 0, none⟩) 16 c1, .slice (some ⟨g2, 0, none⟩) 8 c2] 26)).heap.size (w9.alloc (.cells #[.slice (some ⟨g1, 0, none⟩) 16 c1, .slice (some ⟨g2, 0, none⟩) 8 c2] 26)) w10 →
      w10.cell? ⟨w9.heap.size, 0, none⟩ = some (.slice (some ⟨g1, 0, none⟩) 16 c1) ∧ w10.cell? ⟨w9.heap.size, 1, none⟩ = some (.slice (some ⟨g2, 0, none⟩) 8 c2) ∧ w10.cell? ⟨g2, 0, none⟩ = some (.bool true) ∧ w10.cell? ⟨g2, 1, none⟩ = some (.bool false) ∧ w10.cell? ⟨g1, 0, none⟩ = some (.bool false) ∧ Below w.heap.size w w10 := by
  obtain ⟨g1, c1, g2, c2, rfl, rfl, -, -⟩ := Kit.Two.slices T rfl rfl
  refine ⟨g1, c1, g2, c2, rfl, rfl, fun w10 h10 => ?_⟩
  have X := (AtP.new 26 w9 (.slice (some ⟨g1, 0, none⟩) 16 c1) (.slice (some ⟨g2, 0, none⟩) 8 c2)).below h10 (by simp)
  have T2 := (T.alloc (.cells #[.slice (some ⟨g1, 0, none⟩) 16 c1, .slice (some ⟨g2, 0, none⟩) 8 c2] 26)).below h10 (Nat.le_refl _)
  have at1 : ∀ {base : Nat} {g n c : Nat} {l : List Bool} (_ : ROwns w10 base 4 (.slice (some ⟨g, 0, none⟩) n c) (fc l)) (k : Nat) (hk : k < l.length), w10.cell? ⟨g, k, none⟩ = some (.bool l[k]) := fun h k hk => by
    obtain ⟨g', c', e1, k1, _⟩ := h.at k (by rw [fc_length]; exact hk)
    simp only [Value.slice.injEq, Option.some.injEq, Addr.mk.injEq] at e1
    obtain ⟨⟨rfl, -, -⟩, -, -⟩ := e1
    rw [k1]
    simp [fc, hk]
  have b9 := hb.trans (B.mono hb.size)
  exact ⟨X.cells.1, X.cells.2, at1 T2.b 0 (by decide), at1 T2.b 1 (by decide), at1 T2.a 0 (by decide), (b9.alloc b9.size _).trans (h10.mono (by have := b9.size; simp; omega))⟩

set_option maxRecDepth 100000 in
set_option maxHeartbeats 3200000 in
theorem walk (a : Option Addr) (len cap : Nat) (w : World) (hcode : CodeIs w a len) (_hl : len ≤ maxLen) :
    Calls Try.prog 3 #[.slice a len cap] w fun e w' => e = .returned (.bool true) ∧ Below w.heap.size w w' := by
  have HO := hide hcode
  clear hcode
  by_cases hlen : len ≤ 1048576
  · go_enter Try.func3, Try.ntmps3
    go_wp2_with fail
    refine (big_no a len cap w hlen).mono ?_
    rintro e w1 ⟨rfl, rfl⟩
    go_wp2_with fail
    refine (drawBT_any w a len cap HO.out hlen).mono ?_
    rintro e w1 ⟨u, v, xs, ys, rfl, U1, V1, hx, hy, B1⟩
    obtain ⟨s1, t1, rfl⟩ := U1.form
    obtain ⟨s1', t1', rfl⟩ := V1.form
    obtain ⟨VB, hVB⟩ : ∃ V, w1.heap.size = V := ⟨_, rfl⟩
    obtain ⟨W1, hW1⟩ : ∃ W, w1.alloc (.cells #[.slice s1 xs.length t1, .slice s1' ys.length t1'] 26) = W := ⟨_, rfl⟩
    have K1 : S1 w W1 VB (.slice s1 xs.length t1) (.slice s1' ys.length t1') xs ys a len := by
      rw [← hW1, ← hVB]
      exact ⟨AtP.new 26 w1 _ _, U1.alloc _, V1.alloc _, code_below (code_below HO.out B1) ((Below.refl _ w1).alloc (Nat.le_refl _) _), B1.alloc B1.size _⟩
    have HK1 := hide K1
    obtain ⟨c0, c1⟩ := K1.at1.cells
    have cl := K1.at1.lt
    -- the letters
    obtain ⟨ok, hok⟩ : ∃ b, okB xs.length ys.length = b := ⟨_, rfl⟩
    obtain ⟨tx, htx⟩ : ∃ t, textA xs ys = t := ⟨_, rfl⟩
    have hts : tx.size ≤ 3 := by rw [← htx, textA]; split; exact Nat.le_refl _; exact Nat.zero_le _
    have C1 := hide (fun w' (h : S1 w w' VB (.slice s1 xs.length t1) (.slice s1' ys.length t1') xs ys a len) => implText_any (.slice s1 xs.length t1) (.slice s1' ys.length t1') xs ys w' h.fu h.fv)
    have C2 := hide (fun w' => implRead_any tx w' (by omega))
    have C3 := hide (fun w' => specOk_any s1 s1' xs.length ys.length t1 t1' w')
    have C4 := hide (fun w' => implOk_any s1 s1' xs.length ys.length t1 t1' w')
    have HRB : Hid (ok = true → rdR tx = true ∧ rdX tx = xs) := fun h => by
      rw [h] at hok
      have h2 := okB_true hok
      have e : textA xs ys = textB xs ys := by rw [textA, if_pos hok]
      rw [← htx, e]
      exact ⟨(text_back xs ys h2.1 h2.2).1, (text_back xs ys h2.1 h2.2).2.1⟩
    rw [hok, htx] at C1
    rw [hok] at C3 C4
    obtain ⟨ri, hri⟩ : ∃ r, rdR tx = r := ⟨_, rfl⟩
    obtain ⟨X3, hX3⟩ : ∃ x, rdX tx = x := ⟨_, rfl⟩
    obtain ⟨Y3, hY3⟩ : ∃ x, rdY tx = x := ⟨_, rfl⟩
    rw [hri, hX3, hY3] at C2
    rw [hri, hX3] at HRB
    clear hok htx hts hri hX3 hY3 K1 U1 V1 B1
    go_wp2_with fail
    refine (C1.out W1 HK1.out).mono ?_
    rintro e w2 ⟨rfl, B2⟩
    have HK2 := hide (HK1.out.below B2)
    clear B2 HK1 C1 c0 c1 cl hVB hW1
    go_wp2_with fail
    refine (C2.out w2).mono ?_
    rintro e w3 ⟨u3, v3, rfl, T3, B3⟩
    obtain ⟨s3, t3, s3', t3', rfl, rfl⟩ := T3.form
    obtain ⟨VX, hVX⟩ : ∃ V, w3.heap.size = V := ⟨_, rfl⟩
    obtain ⟨W3, hW3⟩ : ∃ W, w3.alloc (.cells #[.slice s3 X3.length t3, .slice s3' Y3.length t3'] 26) = W := ⟨_, rfl⟩
    have K3 : S1 w W3 VB (.slice s1 xs.length t1) (.slice s1' ys.length t1') xs ys a len := by rw [← hW3]; exact (HK2.out.below B3).alloc _
    have L3 : S2 W3 VX (.slice s3 X3.length t3) (.slice s3' Y3.length t3') X3 := by rw [← hW3, ← hVX]; exact ⟨AtP.new 26 w3 _ _, T3.a.rfl.alloc _⟩
    have HK3 := hide K3
    have HL3 := hide L3
    clear T3 B3 K3 L3 HK2 C2
    go_wp2_with fail
    refine (drawR_any W3 a len cap HK3.out.code hlen).mono ?_
    rintro e w4 ⟨t, ht, rfl, B4⟩
    have HK4 := hide (HK3.out.below B4)
    have HL4 := hide (HL3.out.below B4)
    have C5 := hide (fun w' => implRead_any t w' (by omega))
    have HTB : Hid ((rdR t = true ∧ ((t.size : Int) == 3) = true ∧ okB (rdX t).length (rdY t).length = true ∧ textA (rdX t) (rdY t) = t) ∨ (rdR t = false ∧ ((t.size : Int) == 3) = false)) := by
      by_cases h3 : t.size = 3
      · left; exact ⟨by simp [rdR, h3], by simp [h3], (read_back t h3).1, (read_back t h3).2⟩
      · right; exact ⟨(read_none t h3).1, by simp; omega⟩
    obtain ⟨r, hr⟩ : ∃ r, rdR t = r := ⟨_, rfl⟩
    obtain ⟨X5, hX5⟩ : ∃ x, rdX t = x := ⟨_, rfl⟩
    obtain ⟨Y5, hY5⟩ : ∃ x, rdY t = x := ⟨_, rfl⟩
    rw [hr, hX5, hY5] at C5 HTB
    clear hr hX5 hY5 B4 HK3 HL3 hVX hW3
    go_wp2_with fail
    refine (C5.out w4).mono ?_
    rintro e w5 ⟨u5, v5, rfl, T5, B5⟩
    obtain ⟨s5, t5, s5', t5', rfl, rfl⟩ := T5.form
    have K5 := (HK4.out.below B5).alloc (.cells #[.slice s5 X5.length t5, .slice s5' Y5.length t5'] 26)
    have L5 := (HL4.out.below B5).alloc (.cells #[.slice s5 X5.length t5, .slice s5' Y5.length t5'] 26)
    have HK5 := hide K5
    have HL5 := hide L5
    have C6 := hide (implText_any (.slice s5 X5.length t5) (.slice s5' Y5.length t5') X5 Y5 _ (T5.a.rfl.alloc (.cells #[.slice s5 X5.length t5, .slice s5' Y5.length t5'] 26)) (T5.b.rfl.alloc _))
    obtain ⟨bk, hbk⟩ : ∃ b, okB X5.length Y5.length = b := ⟨_, rfl⟩
    obtain ⟨ag, hag⟩ : ∃ b, textA X5 Y5 = b := ⟨_, rfl⟩
    rw [hbk, hag] at HTB C6
    clear hbk hag T5 B5 K5 L5 HK4 HL4 C5
    go_wp2_with fail
    refine C6.out.mono ?_
    rintro e w6 ⟨rfl, B6⟩
    have HK6 := hide (HK5.out.below B6)
    have HL6 := hide (HL5.out.below B6)
    obtain ⟨c0, c1⟩ := HK6.out.at1.cells
    have cl := HK6.out.at1.lt
    clear B6 HK5 HL5 C6
    go_wp2_with fail
    refine (C3.out w6).mono ?_
    rintro e w7 ⟨rfl, B7⟩
    have HK7 := hide (HK6.out.below B7)
    have HL7 := hide (HL6.out.below B7)
    clear c0 c1 cl
    obtain ⟨c0, c1⟩ := HK7.out.at1.cells
    have cl := HK7.out.at1.lt
    clear B7 HK6 HL6 C3
    go_wp2_with fail
    refine (C4.out w7).mono ?_
    rintro e w8 ⟨rfl, B8⟩
    have HK8 := hide (HK7.out.below B8)
    have HL8 := hide (HL7.out.below B8)
    clear B8 HK7 HL7 C4 c0 c1 cl
    rcases HTB.out with ⟨rfl, hq, rfl, rfl⟩ | ⟨rfl, hq⟩
    · clear HTB
      go_wp2
      go_loopw [13] (fun i wr => ∃ j : Nat, j ≤ xs.length ∧ i = .int .i64 j ∧ Below w8.heap.size w8 wr) (fun i _ => xs.length - (intOf i).toNat)
      case atStart => exact ⟨0, Nat.zero_le _, rfl, Below.refl _ _⟩
      case round =>
        obtain ⟨j, hj, rfl, hb⟩ := hrel
        have HJ := hide (HK8.out.below hb)
        have HM := hide (HL8.out.below hb)
        have HB := hide hb
        obtain ⟨b0, b1⟩ := HJ.out.at1.cells
        have bl := HJ.out.at1.lt
        obtain ⟨x0, x1⟩ := HM.out.at2.cells
        have xl := HM.out.at2.lt
        clear hb
        by_cases hlt : j < xs.length
        · have j0 : (0 : Int) ≤ (j : Int) := by omega
          have j1 : (j : Int) < (xs.length : Int) := by omega
          cases ok with
          | true =>
            obtain ⟨rfl, rfl⟩ := HRB.out rfl
            obtain ⟨aa, cc, eaa, hcc⟩ := HJ.out.fu
            simp only [Value.slice.injEq] at eaa
            obtain ⟨rfl, -, rfl⟩ := eaa
            obtain ⟨g1, o1, rfl, _, k1⟩ := hcc j hlt
            obtain ⟨aa, cc, eaa, hcc⟩ := HM.out.fu
            simp only [Value.slice.injEq] at eaa
            obtain ⟨rfl, -, rfl⟩ := eaa
            obtain ⟨g3, o3, rfl, _, k3⟩ := hcc j hlt
            obtain ⟨tt, htt⟩ : ∃ t, X3[j] = t := ⟨_, rfl⟩
            rw [htt] at k1 k3
            clear hcc htt
            go_wp2
            go_quiet (fail)
            go_wp2
            go_roundw
            case rel => exact ⟨j + 1, by omega, by go_num, below_drewN HB.out _⟩
            case measure => simp [intOf]; omega
          | false =>
            go_wp2_with fail
            refine (implNew_any wr).mono ?_
            rintro e w9 ⟨u9, v9, rfl, T9, B9⟩
            have N9 := nine T9 HJ.out.bel B9
            obtain ⟨g1, c1, g2, c2, rfl, rfl, N9⟩ := N9
            have HN9 := hide N9
            clear N9 T9 B9
            go_wp2_with fail
            refine (implOk_any _ _ 16 8 _ _ _).mono ?_
            rintro e w10 ⟨rfl, B10⟩
            obtain ⟨z1, z2, z3, z4, z5, z6⟩ := HN9.out w10 B10
            have HZ := hide z6
            rw [show okB 16 8 = true from rfl]
            clear z6 B10 HN9
            go_wp2
            go_ret
            exact ⟨rfl, HZ.out⟩
        · have j1 : ¬ (j : Int) < (xs.length : Int) := by omega
          go_wp2_with fail
          refine (implNew_any wr).mono ?_
          rintro e w9 ⟨u9, v9, rfl, T9, B9⟩
          have N9 := nine T9 HJ.out.bel B9
          obtain ⟨g1, c1, g2, c2, rfl, rfl, N9⟩ := N9
          have HN9 := hide N9
          clear N9 T9 B9
          go_wp2_with fail
          refine (implOk_any _ _ 16 8 _ _ _).mono ?_
          rintro e w10 ⟨rfl, B10⟩
          obtain ⟨z1, z2, z3, z4, z5, z6⟩ := HN9.out w10 B10
          have HZ := hide z6
          rw [show okB 16 8 = true from rfl]
          clear z6 B10 HN9
          go_wp2
          go_ret
          exact ⟨rfl, HZ.out⟩
    · clear HTB
      go_wp2
      go_loopw [13] (fun i wr => ∃ j : Nat, j ≤ xs.length ∧ i = .int .i64 j ∧ Below w8.heap.size w8 wr) (fun i _ => xs.length - (intOf i).toNat)
      case atStart => exact ⟨0, Nat.zero_le _, rfl, Below.refl _ _⟩
      case round =>
        obtain ⟨j, hj, rfl, hb⟩ := hrel
        have HJ := hide (HK8.out.below hb)
        have HM := hide (HL8.out.below hb)
        have HB := hide hb
        obtain ⟨b0, b1⟩ := HJ.out.at1.cells
        have bl := HJ.out.at1.lt
        obtain ⟨x0, x1⟩ := HM.out.at2.cells
        have xl := HM.out.at2.lt
        clear hb
        by_cases hlt : j < xs.length
        · have j0 : (0 : Int) ≤ (j : Int) := by omega
          have j1 : (j : Int) < (xs.length : Int) := by omega
          cases ok with
          | true =>
            obtain ⟨rfl, rfl⟩ := HRB.out rfl
            obtain ⟨aa, cc, eaa, hcc⟩ := HJ.out.fu
            simp only [Value.slice.injEq] at eaa
            obtain ⟨rfl, -, rfl⟩ := eaa
            obtain ⟨g1, o1, rfl, _, k1⟩ := hcc j hlt
            obtain ⟨aa, cc, eaa, hcc⟩ := HM.out.fu
            simp only [Value.slice.injEq] at eaa
            obtain ⟨rfl, -, rfl⟩ := eaa
            obtain ⟨g3, o3, rfl, _, k3⟩ := hcc j hlt
            obtain ⟨tt, htt⟩ : ∃ t, X3[j] = t := ⟨_, rfl⟩
            rw [htt] at k1 k3
            clear hcc htt
            go_wp2
            go_quiet (fail)
            go_wp2
            go_roundw
            case rel => exact ⟨j + 1, by omega, by go_num, below_drewN HB.out _⟩
            case measure => simp [intOf]; omega
          | false =>
            go_wp2_with fail
            refine (implNew_any wr).mono ?_
            rintro e w9 ⟨u9, v9, rfl, T9, B9⟩
            have N9 := nine T9 HJ.out.bel B9
            obtain ⟨g1, c1, g2, c2, rfl, rfl, N9⟩ := N9
            have HN9 := hide N9
            clear N9 T9 B9
            go_wp2_with fail
            refine (implOk_any _ _ 16 8 _ _ _).mono ?_
            rintro e w10 ⟨rfl, B10⟩
            obtain ⟨z1, z2, z3, z4, z5, z6⟩ := HN9.out w10 B10
            have HZ := hide z6
            rw [show okB 16 8 = true from rfl]
            clear z6 B10 HN9
            go_wp2
            go_ret
            exact ⟨rfl, HZ.out⟩
        · have j1 : ¬ (j : Int) < (xs.length : Int) := by omega
          go_wp2_with fail
          refine (implNew_any wr).mono ?_
          rintro e w9 ⟨u9, v9, rfl, T9, B9⟩
          have N9 := nine T9 HJ.out.bel B9
          obtain ⟨g1, c1, g2, c2, rfl, rfl, N9⟩ := N9
          have HN9 := hide N9
          clear N9 T9 B9
          go_wp2_with fail
          refine (implOk_any _ _ 16 8 _ _ _).mono ?_
          rintro e w10 ⟨rfl, B10⟩
          obtain ⟨z1, z2, z3, z4, z5, z6⟩ := HN9.out w10 B10
          have HZ := hide z6
          rw [show okB 16 8 = true from rfl]
          clear z6 B10 HN9
          go_wp2
          go_ret
          exact ⟨rfl, HZ.out⟩
  · go_enter Try.func3, Try.ntmps3
    go_wp2_with fail
    refine (big_yes a len cap w hlen).mono ?_
    rintro e w1 ⟨rfl, rfl⟩
    go_wp2
    go_ret
    exact ⟨rfl, Below.refl _ _⟩
end Go.Proofs.Ytakkdfbcipbbjaa.fnBits
