
/- impl.BlockText by its contract. -/
import Derived.Test.YtajollmmpdkhbaaCom
import Derived.Test.YtajollmmpdkhbaaKTxt
namespace Go.Proofs.Ytajollmmpdkhbaa.Kit
open Go.RowKit
theorem Owns.one (w : World) (base : Nat) (e : TypeId) (b : UInt8) (hb : base ≤ w.heap.size) : Owns (w.alloc (.cells #[.int .u8 (b.toNat : Int)] e)) base e (.slice (some ⟨w.heap.size, 0, none⟩) 1 1) [b] :=
  World.ownsRow_lit w #[.int .u8 (b.toNat : Int)] 1 hb (by unfold maxLen; omega) rfl
theorem Owns.below {w w' : World} {base B : Nat} {e : TypeId} {v : Value} {l : List UInt8} (h : Owns w base e v l) (hb : Below B w w') (hB : w.heap.size ≤ B) : Owns w' base e v l := by
  refine ⟨h.1, ?_⟩
  rcases h.2 with h1 | ⟨g, cap, cur, h1, h2, h3, h4⟩
  · exact .inl h1
  · have hlt := (Array.getElem?_eq_some_iff.1 h3).1
    exact .inr ⟨g, cap, cur, h1, h2, by rw [hb.block g (by omega), h3], h4⟩
theorem Owns.accB {w : World} {base : Nat} {e : TypeId} {v : Value} {l : List UInt8} (h : Owns w base e v l) {P : Program} (src dst : TypeId) (hs : P.underlying src = some (.slice e)) (he : P.underlying e = some (.int .u8)) (hd : P.underlying dst = some .string) : (convert src dst v).run P w = .ok (.string (Kit.accB l)) w :=
  conv_own src dst e hs he hd h
end Go.Proofs.Ytajollmmpdkhbaa.Kit
namespace Go.Proofs.Ytajollmmpdkhbaa
open Go.RowKit Kit
theorem implText_not (d : Bool) (v : Value) (t : ByteArray) (xs : List Sl) (w : World) (hv : RSl w v xs) (hno : blockOk d xs t = false) :
    Calls Try.prog 83 #[.agg #[.bool d, v, .string t]] w fun e w' => e = .returned (.tuple #[.string (blockB d xs t), .bool (blockOk d xs t)]) ∧ Below w.heap.size w w' := by
  have HV := hide hv
  have C := hide (fun W h => implOk_anyK d v t xs W h)
  obtain ⟨a, c, rfl, -⟩ := hv
  have e1 : blockB d xs t = ⟨#[]⟩ := by simp [blockB, hno]
  rw [e1, hno]
  rw [hno] at C
  clear e1 hno
  go_enter Try.func83, Try.ntmps83
  go_wp2_with (go_at_call 76; refine (C.out _ (HV.out.alloc _)).mono ?_; rintro e w1 ⟨rfl, hb1⟩)
  go_ret2
  exact ⟨rfl, ((Below.refl _ w).alloc (Nat.le_refl _) _).trans (hb1.mono (by simp))⟩
set_option maxHeartbeats 800000 in
theorem implText_t (v : Value) (t : ByteArray) (xs : List Sl) (w : World) (hv : RSl w v xs) (hok : blockOk false xs t = true) :
    Calls Try.prog 83 #[.agg #[.bool false, v, .string t]] w fun e w' => e = .returned (.tuple #[.string (blockB false xs t), .bool (blockOk false xs t)]) ∧ Below w.heap.size w w' := by
  have HV := hide hv
  have C := hide (fun W h => implOk_anyK false v t xs W h)
  obtain ⟨a, c, rfl, -⟩ := hv
  have e1 : blockB false xs t = accB (116 :: t.data.toList) := by
    simp [blockB, hok]
    rw [← accB_cons, accB_data]
  have ht : t.size ≤ 16 := by rw [blockOk_text] at hok; exact (of_decide_eq_true hok).2
  rw [e1, hok]
  rw [hok] at C
  clear e1 hok
  go_enter Try.func83, Try.ntmps83
  go_wp2_with fail
  refine (C.out _ (HV.out.alloc _)).mono ?_
  rintro e w1 ⟨rfl, hb1⟩
  obtain ⟨q0, q1, q2, q3⟩ := ((AtC.new w 65 #[.bool false, .slice a xs.length c, .string t]).over hb1).three
  have hB1 : Below w.heap.size w w1 := ((Below.refl _ w).alloc (Nat.le_refl _) _).trans (hb1.mono (by simp))
  have hsz := hB1.size
  have HB1 := hide hB1
  clear hb1 hB1
  go_wp2_with (at_builtin; refine wpList_append_str w rfl _ _ 106 9 rfl w.heap.size 5 Try.underlying106 Try.underlying9 Try.info5 _ [116] rfl (Owns.one w1 w.heap.size 5 116 hsz) (HB1.out.alloc hsz _) (by simp; omega) t rfl (by simp; omega) ?_)
  intro v' w2 R1 R2
  have hcv := R1.accB (P := Try.prog) 106 9 Try.underlying106 Try.underlying5 Try.underlying9
  have HR2 := hide R2
  clear R1 R2
  go_wp2
  go_ret2
  exact ⟨rfl, HR2.out⟩
set_option maxRecDepth 100000 in
set_option maxHeartbeats 3200000 in
theorem implText_d (v : Value) (t0 : ByteArray) (xs : List Sl) (w : World) (hv : RSl w v xs) (hok : blockOk true xs t0 = true) :
    Calls Try.prog 83 #[.agg #[.bool true, v, .string t0]] w fun e w' => e = .returned (.tuple #[.string (blockB true xs t0), .bool (blockOk true xs t0)]) ∧ Below w.heap.size w w' := by
  have HV := hide hv
  have C := hide (fun W h => implOk_anyK true v t0 xs W h)
  obtain ⟨a, c, rfl, hcap, hc⟩ := hv
  have HC := hide hc
  have e1 : blockB true xs t0 = accB (100 :: encs xs) := by simp [blockB, hok]
  have hsl : slotsOk xs = true := by
    by_cases h : t0.size = 0
    · rw [blockOk_dir _ _ h] at hok; exact hok
    · rw [blockOk_dirt _ _ h] at hok; cases hok
  obtain ⟨hl4, hbd⟩ := slots_bounds hsl
  have HL := hide hl4
  have HBD := hide hbd
  have HPL := hide (pre_length hsl)
  rw [e1, hok]
  rw [hok] at C
  rw [hl4] at HV C hcap ⊢
  clear e1 hok hc hsl hl4 hbd
  go_enter Try.func83, Try.ntmps83
  go_wp2_with fail
  refine (C.out _ (HV.out.alloc _)).mono ?_
  rintro e w1 ⟨rfl, hb1⟩
  obtain ⟨q0, q1, q2, q3⟩ := ((AtC.new w 65 #[.bool true, .slice a 4 c, .string t0]).over hb1).three
  have hB1 : Below w.heap.size w w1 := ((Below.refl _ w).alloc (Nat.le_refl _) _).trans (hb1.mono (by simp))
  have hsz := hB1.size
  have HB1 := hide hB1
  clear hb1 hB1
  go_wp2_with fail
  go_loopw [4, 6, 7, 8, 24] (fun v _ _ _ i wr => ∃ j : Nat, j ≤ 4 ∧ i = .int .i64 j ∧ Owns wr w.heap.size 5 v (pre xs j) ∧ Below w.heap.size w wr) (fun _ _ _ _ i _ => 4 - (intOf i).toNat)
  case atStart => exact ⟨0, Nat.zero_le _, rfl, Owns.one w1 w.heap.size 5 100 hsz, HB1.out.alloc hsz _⟩
  case round =>
    obtain ⟨j, hj, rfl, hown, hb⟩ := hrel
    by_cases hlt : j < 4
    · have hlx : j < xs.length := by rw [HL.out]; exact hlt
      obtain ⟨g, off, rfl, hg, m1, m2⟩ := HC.out j hlx
      have r1 := (hb.cell (p := ⟨g, off + j * 2, none⟩) hg).trans m1
      have r2 := (hb.cell (p := ⟨g, off + j * 2 + 1, none⟩) hg).trans m2
      obtain ⟨b1, b2, b3⟩ := HBD.out j hlx
      have HN := hide (pre_next xs j hlx)
      obtain ⟨t, ht⟩ : ∃ t, xs[j].1 = t := ⟨_, rfl⟩
      obtain ⟨z, hz⟩ : ∃ z : Nat, xs[j].2 = (z : Int) := ⟨xs[j].2.toNat, by omega⟩
      rw [ht, hz, Int.toNat_natCast] at HN
      rw [ht] at b3 r1
      rw [hz] at b1 b2 r2
      have hp := HPL.out j
      obtain ⟨P0, hP0⟩ : ∃ p, pre xs j = p := ⟨_, rfl⟩
      rw [hP0] at hp HN hown
      have hsr := hb.size
      have HB := hide hb
      have HO := hide hown
      have hwz : IntKind.u8.wrap (z : Int) = (z : Int) := by simp [IntKind.wrap, IntKind.signed, IntKind.bits]; omega
      have hhz := headOf_size t.size
      have j0 : (0 : Int) ≤ (j : Int) := by omega
      have j1 : (j : Int) < 4 := by omega
      clear m1 m2 ht hz hb hown hlx hP0 q0 q1 q2
      go_wp2_with fail
      refine (implShort_yes _ _ (by omega)).mono ?_
      rintro e w2 ⟨rfl, B2⟩
      obtain ⟨s0, s1, s2⟩ := ((AtC.new wr 94 #[.string t, .int .i64 (z : Int)]).over B2).two
      have O2 := (HO.out.alloc (.cells #[.string t, .int .i64 (z : Int)] 94)).below B2 (Nat.le_refl _)
      have hB2 := (HB.out.alloc hsr (.cells #[.string t, .int .i64 (z : Int)] 94)).trans (B2.mono (by simp; omega))
      have hs2 := hB2.size
      have HO2 := hide O2
      have HB2 := hide hB2
      clear B2 O2 hB2
      go_wp2_with (at_builtin; refine wpList_append_byte w rfl _ _ 106 rfl w.heap.size 5 Try.underlying106 Try.info5 _ P0 rfl (HO2.out.alloc _) (HB2.out.alloc hs2 _) ?c1 w2.heap.size rfl (loB z) (z : Int) (byte_small z (by omega)) ?c2 ?c3 ?_)
      case c1 => simp; omega
      case c2 => simp
      case c3 => omega
      intro v' w3 R1 R2 _
      have HR1 := hide R1
      have HR2 := hide R2
      have hs3 := R2.size
      clear R1 R2
      go_wp2_with (at_builtin; refine wpList_append_str w rfl _ _ 106 9 rfl w.heap.size 5 Try.underlying106 Try.underlying9 Try.info5 _ (P0 ++ [loB z]) rfl HR1.out HR2.out hs3 (headOf t.size ++ t) rfl ?c4 ?_)
      case c4 => rw [List.length_append, ByteArray.size_append]; simp; omega
      intro v'' w4 R3 R4
      have HR3 := hide R3
      have HR4 := hide R4
      clear R3 R4
      go_wp2
      go_roundw
      case rel => exact ⟨j + 1, by omega, by go_num, by rw [HN.out, List.append_assoc]; exact HR3.out, HR4.out⟩
      case measure => simp [intOf]; omega
    · have HF := hide (pre_all xs j (by rw [HL.out]; omega))
      have hcv := hown.accB (P := Try.prog) 106 9 Try.underlying106 Try.underlying5 Try.underlying9
      rw [HF.out] at hcv
      have HZ := hide hb
      clear hb hown
      go_wp2
      go_ret2
      exact ⟨rfl, HZ.out⟩
theorem implText_anyK (d : Bool) (v : Value) (t : ByteArray) (xs : List Sl) (w : World) (hv : RSl w v xs) :
    Calls Try.prog 83 #[.agg #[.bool d, v, .string t]] w fun e w' => e = .returned (.tuple #[.string (blockB d xs t), .bool (blockOk d xs t)]) ∧ Below w.heap.size w w' := by
  cases hok : blockOk d xs t with
  | false => rw [← hok]; exact implText_not d v t xs w hv hok
  | true =>
    rw [← hok]
    cases d with
    | true => exact implText_d v t xs w hv hok
    | false => exact implText_t v t xs w hv hok
end Go.Proofs.Ytajollmmpdkhbaa
