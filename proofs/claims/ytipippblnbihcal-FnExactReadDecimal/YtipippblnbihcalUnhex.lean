/- spec.l01Value, spec.Unhex and impl.Unhex by their contracts, and the walk of laws.FnExactUnhex: it returns true at every text. -/
import Derived.Test.YtipippblnbihcalRows
import Derived.Test.YtipippblnbihcalUh
import Derived.WalkMore
namespace Go.Proofs.Ytipippblnbihcal
open Go.RowKit Kit
theorem Try.info5 : (Try.prog.info? 5).map (fun i => (i.zero, i.size, i.bytes)) = some (some (.int .u8 0), 1, 1) := by kernel_rfl

theorem ret_int {k : IntKind} {a b : Int} (h : a = b) : Ending.returned (.int k a) = .returned (.int k b) := by rw [h]
theorem value_any (c : Nat) (w : World) (hc : c < 256) :
    Calls Try.prog 9 #[.int .u8 c] w fun e w' => e = .returned (.int .i64 (fvI c)) ∧ w = w' := by
  rcases fv_cases c with ⟨h1, h2, hf⟩ | ⟨h1, h2, hf⟩ | ⟨h1, h2, hf⟩
  · have HV := hide (fvI_some hf)
    clear hf
    go_enter Try.func9, Try.ntmps9
    go_wp2
    go_ret
    exact ⟨ret_int (by rw [HV.out]; omega), rfl⟩
  · have HV := hide (fvI_some hf)
    clear hf
    go_enter Try.func9, Try.ntmps9
    go_wp2
    go_ret
    exact ⟨ret_int (by rw [HV.out]; omega), rfl⟩
  · have HV := hide (fvI_none hf)
    clear hf
    go_enter Try.func9, Try.ntmps9
    go_wp2
    all_goals
      first
        | omega
        | (go_ret
           exact ⟨ret_int (by rw [HV.out]), rfl⟩)

theorem byte_join {x y : Nat} (hx : x < 16) (hy : y < 16) : (16 * (x : Int) + (y : Int)) = ((joinB x y).toNat : Int) := by
  simp [joinB, UInt8.toNat_ofNat']; omega

set_option maxRecDepth 100000 in
set_option maxHeartbeats 800000 in
theorem specUnhex_in (s : ByteArray) (w : World) (h1 : s.size ≤ 40000) (h2 : s.size % 2 = 0) :
    Calls Try.prog 5 #[.string s] w fun e w' => e = .returned (uhVal s) ∧ Below w.heap.size w w' := by
  have b0 : decide ((40000 : Int) < (s.size : Int)) = false := by simp; omega
  have b1 : ((s.size : Int) % 2 != 0) = false := by simp; omega
  go_enter Try.func5, Try.ntmps5
  go_wp2
  go_loopw [4, 5] (fun v i wr => ∃ (j : Nat) (pre : List UInt8), 2 * j ≤ s.size ∧ i = .int .i64 (2 * j : Nat) ∧ pre.length = j ∧ UAt s (2 * j) none pre ∧ Owns wr w.heap.size 5 v pre ∧ Below w.heap.size w wr) (fun _ i _ => s.size - (intOf i).toNat)
  case atStart => exact ⟨0, [], Nat.zero_le _, rfl, rfl, UAt.start s, Owns.lit0 w _ 5 (Nat.le_refl _), (Below.refl _ _).alloc (Nat.le_refl _) _⟩
  case round =>
    obtain ⟨j, pre, hj, rfl, hl, hat, hown, hb⟩ := hrel
    have HL := hide hl
    have hl2 : pre.length ≤ 1000000000000 := by omega
    clear hl
    have hsz := hb.size
    by_cases hlt : 2 * j < s.size
    · have hlt2 : 2 * j + 1 < s.size := by omega
      obtain ⟨c, hc⟩ : ∃ c : Nat, (s[2 * j]).toNat = c := ⟨_, rfl⟩
      have hc1 : c < 256 := by rw [← hc]; exact (s[2 * j]).toNat_lt
      obtain ⟨d, hd⟩ : ∃ d : Nat, (s[2 * j + 1]).toNat = d := ⟨_, rfl⟩
      have hd1 : d < 256 := by rw [← hd]; exact (s[2 * j + 1]).toNat_lt
      have HC := hide hc
      have HD := hide hd
      cases hf : fv c with
      | none =>
        have f1 := fvI_none hf
        have HV := hide (uhVal_none (hat.bad hlt (by rw [hc]; exact hf)))
        clear hf
        go_wp2_with (go_at_call 9; refine (value_any _ _ ?_).mono ?_; assumption; rintro e w' ⟨rfl, rfl⟩)
        go_ret2
        exact ⟨ret_of HV.out, hb⟩
      | some x =>
        have f1 := fvI_some hf
        have hx := fv_lt hf
        have hat1 := hat.first hlt (by rw [hc]; exact hf)
        clear hf
        cases hg : fv d with
        | none =>
          have f2 := fvI_none hg
          have HV := hide (uhVal_none (hat1.bad hlt2 (by rw [hd]; exact hg)))
          clear hg hat hat1
          go_wp2_with (go_at_call 9; refine (value_any _ _ ?_).mono ?_; assumption; rintro e w' ⟨rfl, rfl⟩)
          go_ret2
          exact ⟨ret_of HV.out, hb⟩
        | some y =>
          have f2 := fvI_some hg
          have hy := fv_lt hg
          have HA := hide (hat1.second hlt2 (by rw [hd]; exact hg))
          have HJ := hide (byte_join hx hy)
          clear hg hat hat1
          go_wp2_with (first | (go_at_call 9; refine (value_any _ _ ?_).mono ?_; assumption; rintro e w' ⟨rfl, rfl⟩) | (at_builtin; refine wpList_append_byte w rfl _ _ 27 rfl w.heap.size 5 Try.underlying27 Try.info5 _ pre rfl (hown.alloc _) (hb.alloc hsz _) ?c1 wr.heap.size rfl (joinB x y) (16 * (x : Int) + (y : Int)) HJ.out ?c2 hl2 ?_))
          case c1 => simp; omega
          case c2 => simp
          intro v' w1 R1 R2 _
          clear hown
          go_wp2
          go_roundw
          case rel => exact ⟨j + 1, _, by omega, by go_num, by have := HL.out; simp; omega, HA.out, R1, R2⟩
          case measure => simp [intOf]; omega
    · have HV := hide (uhVal_some (hat.done (by omega)))
      have hcv := conv_own (P := Try.prog) 27 9 5 Try.underlying27 Try.underlying5 Try.underlying9 hown
      clear hown
      go_wp2
      go_ret2
      exact ⟨ret_of HV.out, hb⟩

theorem or_val {x y : Nat} (hx : x < 16) (hy : y < 16) {z : Int} (hz : z = (y : Int)) : bits BinOp.or IntKind.u8 ((x : Int) * 16) z = ((joinB x y).toNat : Int) := by
  subst hz
  rw [u8_or _ _ (by omega) (by omega) (by omega) (by omega)]
  have e1 : ((x : Int) * 16).toNat = x * 16 := by omega
  have e2 : (y : Int).toNat = y := by omega
  rw [e1, e2, or_join x hx y hy]
  have := byte_join hx hy
  omega
theorem own_form {w : World} {base : Nat} {e : TypeId} {v : Value} {l : List UInt8} (h : Owns w base e v l) : ∃ a cap, v = .slice a l.length cap := by
  rcases h.2 with ⟨rfl, h0⟩ | ⟨g, cap, cur, rfl, _⟩
  · exact ⟨none, 0, by rw [h0]⟩
  · exact ⟨_, _, rfl⟩

set_option maxRecDepth 100000 in
set_option maxHeartbeats 1600000 in
theorem implUnhex_in (s : ByteArray) (w : World) (h1 : s.size ≤ 40000) (h2 : s.size % 2 = 0) :
    Calls Try.prog 6 #[.string s] w fun e w' => e = .returned (uhVal s) ∧ Below w.heap.size w w' := by
  have b0 : decide ((40000 : Int) < (s.size : Int)) = false := by simp; omega
  have b1 : ((s.size : Int) % 2 != 0) = false := by simp; omega
  obtain ⟨i0, hi, hz0, hz1, hz2⟩ := info_parts Try.info5
  have hbs := fun W => run_bytes_of_string (P := Try.prog) W 9 27 5 s Try.underlying9 Try.underlying27 Try.underlying5
  go_enter Try.func6, Try.ntmps6
  go_wp2
  go_step3
  go_wp2_with (at_make; refine wpList_make_own _ rfl _ _ 27 rfl w.heap.size 5 i0 (.int .u8 0) 1 Try.underlying27 hi hz0 hz1 .i64 .i64 _ (s.size / 2) rfl rfl ?c1 ?c2 ?c3 ?c4 ?_)
  case c1 => omega
  case c2 => rw [hz2]; omega
  case c3 => unfold maxLen; omega
  case c4 => omega
  intro w1 hown1 hgrow1
  have hlt1 : w.heap.size < w1.heap.size := (hown1.lt w.heap.size rfl).2
  have O1 : Owns w1 w.heap.size 5 (.slice (some ⟨w.heap.size, 0, none⟩) 0 (s.size / 2)) [] := hown1
  have B1 : Below w.heap.size w w1 := (Below.refl _ w).grown hgrow1 (Nat.le_refl _) (fun k hk => by cases hk)
  clear hown1 hgrow1
  go_wp2
  go_step3
  go_wp2
  go_loopw [4, 5, 25] (fun v h i wr => ∃ (k : Nat) (p : Option Nat) (pre : List UInt8), k ≤ s.size ∧ i = .int .i64 k ∧ pre.length = k / 2 ∧ UAt s k p pre ∧ (k % 2 = 0 → p = none) ∧ (k % 2 = 1 → ∃ x : Nat, x < 16 ∧ p = some x ∧ h = .int .u8 x) ∧ Owns wr w.heap.size 5 v pre ∧ Below w.heap.size w wr ∧ Lies wr w1.heap.size s ∧ v.ownBlock ≠ some w1.heap.size) (fun _ _ i _ => s.size - (intOf i).toNat)
  case atStart =>
    refine ⟨0, none, [], Nat.zero_le _, rfl, rfl, UAt.start s, fun _ => rfl, fun h => absurd h (by decide), (O1.alloc _).drew, (B1.alloc (by omega) _).drew, (lies_new w1 s _ _ _).of_heap rfl, ?_⟩
    intro h
    simp only [Value.ownBlock, Option.some.injEq] at h
    omega
  case round =>
    obtain ⟨k, p, pre, hk, rfl, hl, hat, hev, hod, hown, hb, hlies, hne⟩ := hrel
    have HL := hide hl
    have hl2 : pre.length ≤ 1000000000000 := by omega
    have hsz := hb.size
    clear hl
    by_cases hlt : k < s.size
    · obtain ⟨c, hc⟩ : ∃ c : Nat, (s[k]).toNat = c := ⟨_, rfl⟩
      have hc1 : c < 256 := by rw [← hc]; exact (s[k]).toNat_lt
      have hcell := hlies.cell k hlt
      rw [hc] at hcell
      have HC := hide hc
      clear hc
      have HLi := hide hlies
      have HNE := hide hne
      clear hlies hne
      by_cases hpar : k % 2 = 0
      · have e0 := hev hpar
        subst e0
        clear hev hod
        have bp : ((k : Int) % 2 == 0) = true := by simp; omega
        rcases fv_cases c with ⟨g1, g2, hf⟩ | ⟨g1, g2, hf⟩ | ⟨g1, g2, hf⟩
        · have HA := hide (hat.first hlt (by rw [HC.out]; exact hf))
          have hx := fv_lt hf
          clear hf hat
          go_wp2
          go_roundw
          case rel => exact ⟨k + 1, some (c - 48), pre, by omega, by go_num, by have := HL.out; omega, HA.out, by omega, fun _ => ⟨c - 48, hx, rfl, by go_num⟩, hown, hb, HLi.out, HNE.out⟩
          case measure => simp [intOf]; omega
        · have HA := hide (hat.first hlt (by rw [HC.out]; exact hf))
          have hx := fv_lt hf
          clear hf hat
          go_wp2
          go_roundw
          case rel => exact ⟨k + 1, some (c - 87), pre, by omega, by go_num, by have := HL.out; omega, HA.out, by omega, fun _ => ⟨c - 87, hx, rfl, by go_num⟩, hown, hb, HLi.out, HNE.out⟩
          case measure => simp [intOf]; omega
        · have HV := hide (uhVal_none (hat.bad hlt (by rw [HC.out]; exact hf)))
          obtain ⟨ad, cap, hv⟩ := own_form hown
          subst hv
          have hsm : (pre.length : Int) < (s.size : Int) / 2 := by have := HL.out; omega
          clear hf hat hown
          go_wp2
          all_goals
            try omega
            try rw [Exit.noGoto_ret]
            go_ret2
            exact ⟨ret_of HV.out, hb⟩
      · obtain ⟨x, hx, e0, e1⟩ := hod (by omega)
        subst e0
        subst e1
        clear hev hod
        have bp : ((k : Int) % 2 == 0) = false := by simp; omega
        rcases fv_cases c with ⟨g1, g2, hf⟩ | ⟨g1, g2, hf⟩ | ⟨g1, g2, hf⟩
        · have HA := hide (hat.second hlt (by rw [HC.out]; exact hf))
          have hy := fv_lt hf
          have HJ := hide (or_val (z := (c : Int) - 48) hx hy (by omega))
          clear hf hat
          go_wp2_with (at_builtin; refine wpList_append_one w wr rfl _ _ 27 rfl w.heap.size 5 Try.underlying27 Try.info5 _ pre (by rfl) hown hb hsz (by rfl) (joinB x (c - 48)) _ HJ.out hl2 ?_; intro v' w2 R1 R2 R3)
          have R4 := hide (R3 w1.heap.size HLi.out.lt HNE.out)
          clear R3 hown
          go_wp2
          go_roundw
          case rel => exact ⟨k + 1, none, _, by omega, by go_num, by have := HL.out; simp; omega, HA.out, fun _ => rfl, fun h => absurd h (by omega), R1, R2, HLi.out.of_heap R4.out.2, R4.out.1⟩
          case measure => simp [intOf]; omega
        · have HA := hide (hat.second hlt (by rw [HC.out]; exact hf))
          have hy := fv_lt hf
          have HJ := hide (or_val (z := (c : Int) - 97 + 10) hx hy (by omega))
          clear hf hat
          go_wp2_with (at_builtin; refine wpList_append_one w wr rfl _ _ 27 rfl w.heap.size 5 Try.underlying27 Try.info5 _ pre (by rfl) hown hb hsz (by rfl) (joinB x (c - 87)) _ HJ.out hl2 ?_; intro v' w2 R1 R2 R3)
          have R4 := hide (R3 w1.heap.size HLi.out.lt HNE.out)
          clear R3 hown
          go_wp2
          go_roundw
          case rel => exact ⟨k + 1, none, _, by omega, by go_num, by have := HL.out; simp; omega, HA.out, fun _ => rfl, fun h => absurd h (by omega), R1, R2, HLi.out.of_heap R4.out.2, R4.out.1⟩
          case measure => simp [intOf]; omega
        · have HV := hide (uhVal_none (hat.bad hlt (by rw [HC.out]; exact hf)))
          obtain ⟨ad, cap, hv⟩ := own_form hown
          subst hv
          have hsm : (pre.length : Int) < (s.size : Int) / 2 := by have := HL.out; omega
          clear hf hat hown
          go_wp2
          all_goals
            try omega
            try rw [Exit.noGoto_ret]
            go_ret2
            exact ⟨ret_of HV.out, hb⟩
    · have e0 := hev (by omega)
      subst e0
      have HV := hide (uhVal_some (hat.done (by omega)))
      have hcv := conv_own (P := Try.prog) 27 9 5 Try.underlying27 Try.underlying5 Try.underlying9 hown
      obtain ⟨ad, cap, hv⟩ := own_form hown
      subst hv
      have hsm : ¬ (pre.length : Int) < (s.size : Int) / 2 := by have := HL.out; omega
      clear hown hev hod hat hlies hne
      go_wp2
      try rw [Exit.noGoto_ret]
      go_ret2
      exact ⟨ret_of HV.out, hb⟩
end Go.Proofs.Ytipippblnbihcal
