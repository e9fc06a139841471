/- spec.ReadVar by its contract. -/
import Derived.Test.YtipippblnbihcakReads
import Derived.Deep.QuietTactic
import Derived.BigQuiet
import Derived.Deep.RegionHeld3
namespace Go.Proofs.Ytipippblnbihcak
open Go.RowKit Kit

theorem form_eq {s : ByteArray} {p k m W c : Nat} (h : At s p k m) (hW : W = 128 ^ k) (hlt : p + k < s.size) (h5 : k < 5) (hc : (s[p + k]).toNat = c) (h1 : c ≤ 127) :
    headOf (m + c % 128 * W) = s.extract p (p + k + 1) ↔ ¬ (c = 0 ∧ 0 < k) := by
  subst hW hc
  rw [← h.form hlt h5 (by omega)]
  constructor
  · intro e; rw [← e]; rfl
  · intro e
    unfold headOf
    rw [e]

theorem toNat3 (p k : Nat) : ((p : Int) + (k : Int) + 1).toNat = p + k + 1 := by omega
theorem form_no {s : ByteArray} {p k T c m W : Nat} (hT : m + c % 128 * W = T) (hf : headOf (m + c % 128 * W) = s.extract p (p + k + 1) ↔ ¬ (c = 0 ∧ 0 < k)) (h : (!(headOf T).toList == (s.extract p ((p : Int) + (k : Int) + 1).toNat).toList) = true) : c = 0 ∧ 0 < k := by
  rw [hT] at hf
  rw [toNat3] at h
  apply Classical.byContradiction
  intro hn
  rw [hf.2 hn] at h
  simp at h
theorem form_yes {s : ByteArray} {p k T c m W : Nat} (hT : m + c % 128 * W = T) (hf : headOf (m + c % 128 * W) = s.extract p (p + k + 1) ↔ ¬ (c = 0 ∧ 0 < k)) (h : (!(headOf T).toList == (s.extract p ((p : Int) + (k : Int) + 1).toNat).toList) = false) : ¬ (c = 0 ∧ 0 < k) := by
  rw [hT] at hf
  rw [toNat3] at h
  refine hf.1 ?_
  have h1 : (headOf T).toList = (s.extract p (p + k + 1)).toList := by simpa using h
  rw [ByteArray.toList_eq, ByteArray.toList_eq] at h1
  exact Go.WideShapes.bytes_inj h1
theorem of_drew {w w1 : World} (h : Below w.drew.heap.size w.drew w1) : Below w.heap.size w w1 := (Below.refl _ w).drew.trans h
theorem wrapId {x : Int} (h0 : 0 ≤ x) (h1 : x ≤ 1000000000000) : IntKind.i64.wrap x = x := by
  simp [IntKind.wrap, IntKind.signed, IntKind.bits]
  omega

set_option maxRecDepth 100000 in
set_option maxHeartbeats 800000 in
theorem specRead_in (s : ByteArray) (p : Nat) (w : World) (hs : s.size ≤ 1048576) (hp : p ≤ s.size) :
    Calls Try.prog 10 #[.string s, .int .i64 p] w fun e w' => e = .returned (rdVal s p) ∧ Below w.heap.size w w' := by
  have hB : inB p 0 s.size = true := by simp [inB]; omega
  go_enter Try.func10, Try.ntmps10
  go_wp2_with (go_at_call 18; refine (l01In_any _ _ _ _).mono ?_; rintro e w' ⟨rfl, rfl⟩)
  go_loop [7, 8, 9] (fun n q i => ∃ (k m W : Nat), k ≤ 5 ∧ p + k ≤ s.size ∧ Hid (W = 128 ^ k) ∧ W ≤ 34359738368 ∧ m < W ∧ n = .int .i64 m ∧ i = .int .i64 (p + k : Nat) ∧ q = .int .i64 W ∧ At s p k m) (fun _ _ i => s.size - (intOf i).toNat)
  case atStart => exact ⟨0, 0, 1, by omega, by omega, hide rfl, by omega, by omega, rfl, rfl, rfl, At.start s p⟩
  case round =>
    obtain ⟨k, m, W, hk, hl, HW, hW, hm, rfl, rfl, rfl, hat⟩ := hrel
    by_cases hlt : p + k < s.size
    · by_cases h5 : k < 5
      · have hW4 : W ≤ 268435456 := by rw [HW.out]; exact pow_le h5
        obtain ⟨c, hc⟩ : ∃ c : Nat, (s[p + k]).toNat = c := ⟨_, rfl⟩
        have hc1 : c < 256 := by rw [← hc]; exact (s[p + k]).toNat_lt
        have hm0 : c % 128 * W ≤ 127 * 268435456 := Nat.mul_le_mul (by omega) hW4
        have HE := hide (cast3 m c W)
        have q1 : (0 : Int) ≤ (c : Int) % 128 * (W : Int) := Int.mul_nonneg (by omega) (by omega)
        have q2 : (c : Int) % 128 * (W : Int) ≤ 34091302912 := by
          have : ((c % 128 * W : Nat) : Int) ≤ 34091302912 := by omega
          simpa using this
        clear hm0
        have HC := hide hc
        by_cases h1 : 127 < c
        · have HN := hide (at_next hat HW.out hlt h5 hc h1)
          go_wp2
          go_round
          case rel => exact ⟨k + 1, m + c % 128 * W, W * 128, by omega, by omega, hide (by rw [HW.out, Nat.pow_succ]), by omega, HN.out.2, by rw [HE.out], by go_num, by go_num, HN.out.1⟩
          case measure => simp [intOf]; omega
        · obtain ⟨T, hT⟩ : ∃ T : Nat, (m : Int) + (c : Int) % 128 * (W : Int) = T := ⟨_, (cast3 m c W).symm⟩
          have hT' : m + c % 128 * W = T := by have := cast3 m c W; omega
          have HT := hide hT'
          clear hT'
          by_cases h2 : 1000000000 < T
          · have HN := hide (at_none hat HW.out hlt h5 hc (by omega) (.inl (by have := HT.out; omega)))
            have b2 : decide ((1000000000 : Int) < (T : Int)) = true := by simp; omega
            go_wp2_with fail
            go_quiet (fail)
            go_wp2
            go_ret3
            exact ⟨ret_of HN.out, below_drewN (Below.refl _ _) _⟩
          · have HF := hide (form_eq hat HW.out hlt h5 hc (by omega))
            have b2 : decide ((1000000000 : Int) < (T : Int)) = false := by simp; omega
            have s1 : (0 : Int) ≤ (p : Int) := by omega
            have s2 : (p : Int) ≤ (p : Int) + (k : Int) + 1 := by omega
            have s3 : (p : Int) + (k : Int) + 1 ≤ (s.size : Int) := by omega
            have s4 : (0 : Int) ≤ (p : Int) + (k : Int) + 1 := by omega
            have hw : IntKind.i64.wrap ((p : Int) + (k : Int) + 1) = (p : Int) + (k : Int) + 1 := wrapId (by omega) (by omega)
            go_wp2_with fail
            go_region_held3 (fun _ => True) (trivial) ((go_at_call 19; refine (l01Var_head _ _ (by omega) (by omega)).mono ?_; rintro e w1 ⟨rfl, hb⟩))
            go_wp2
            · have hx : (!(headOf T).toList == (s.extract p ((p : Int) + (k : Int) + 1).toNat).toList) = true := by assumption
              have HN := at_none hat HW.out hlt h5 hc (by omega) (.inr (form_no HT.out HF.out hx))
              go_ret3
              exact ⟨ret_of HN, of_drew hb⟩
            · have hx : (!(headOf T).toList == (s.extract p ((p : Int) + (k : Int) + 1).toNat).toList) = false := by assumption
              have hy := form_yes HT.out HF.out hx
              have HN := at_some hat HW.out hlt h5 hc (by omega) (by have := HT.out; omega)
              rw [hT] at HN
              go_ret3
              exact ⟨ret_of HN, of_drew hb⟩
      · have HN := hide (rdVal_none (hat.out (.inr (by omega))))
        go_wp2
        go_ret3
        exact ⟨ret_of HN.out, Below.refl _ _⟩
    · have HN := hide (rdVal_none (hat.out (.inl (by omega))))
      go_wp2
      go_ret3
      exact ⟨ret_of HN.out, Below.refl _ _⟩

theorem implRead_out (s : ByteArray) (p : Int) (w : World) (_hs : s.size ≤ 1048576) (h : p < 0 ∨ (s.size : Int) < p) :
    Calls Try.prog 11 #[.string s, .int .i64 p] w fun e w' => e = .returned (.tuple #[.int .i64 0, .int .i64 0, .bool false]) ∧ w' = w := by
  by_cases h0 : p < 0
  · go_enter Try.func11, Try.ntmps11
    go_wp2
    go_ret3
    exact ⟨rfl, rfl⟩
  · have h1 : (s.size : Int) < p := by omega
    go_enter Try.func11, Try.ntmps11
    go_wp2
    go_ret3
    exact ⟨rfl, rfl⟩
theorem specRead_out (s : ByteArray) (p : Int) (w : World) (_hs : s.size ≤ 1048576) (h : p < 0 ∨ (s.size : Int) < p) :
    Calls Try.prog 10 #[.string s, .int .i64 p] w fun e w' => e = .returned (.tuple #[.int .i64 0, .int .i64 0, .bool false]) ∧ w' = w := by
  have hB : inB p 0 s.size = false := by simp [inB]; omega
  go_enter Try.func10, Try.ntmps10
  go_wp2_with (go_at_call 18; refine (l01In_any _ _ _ _).mono ?_; rintro e w' ⟨rfl, rfl⟩)
  go_ret3
  exact ⟨rfl, rfl⟩

theorem rdVal_form (s : ByteArray) (p : Nat) : ∃ (a b : Int) (c : Bool), rdVal s p = .tuple #[.int .i64 a, .int .i64 b, .bool c] := by
  unfold rdVal
  split
  · exact ⟨0, 0, false, rfl⟩
  · exact ⟨_, _, true, rfl⟩

namespace fnExactReadVar
theorem walk (a0 : ByteArray) (a1 : Int) (_w0 : a0.size ≤ maxLen) (_w1 : (Lit.int .i64 a1).wf = true) (w : World) :
    Calls Try.prog 4 #[.string a0, .int .i64 a1] w fun e w' => e = .returned (.bool true) ∧ Below w.heap.size w w' := by
  by_cases h2 : 1048576 < a0.size
  · go_enter Try.func4, Try.ntmps4
    go_wp2
    go_ret
    exact ⟨rfl, Below.refl _ _⟩
  by_cases h : 0 ≤ a1 ∧ a1 ≤ (a0.size : Int)
  · obtain ⟨p, rfl⟩ := Int.eq_ofNat_of_zero_le h.1
    have hp : p ≤ a0.size := by omega
    obtain ⟨a, b, c, hv⟩ := rdVal_form a0 p
    have H1 := fun w => specRead_in a0 p w (by omega) hp
    have H2 := fun w => implRead_in a0 p w (by omega) hp
    rw [hv] at H1 H2
    have G1 := hide H1
    have G2 := hide H2
    clear H1 H2 hv h
    go_enter Try.func4, Try.ntmps4
    go_wp2_with (first | (go_at_call 10; refine (G1.out _).mono ?_; rintro e w1 ⟨rfl, hb1⟩) | (go_at_call 11; refine (G2.out _).mono ?_; rintro e w2 ⟨rfl, rfl⟩))
    go_ret
    exact ⟨rfl, hb1⟩
  · go_enter Try.func4, Try.ntmps4
    go_wp2_with (first | (go_at_call 10; refine (specRead_out _ _ _ (by omega) (by omega)).mono ?_; rintro e w' ⟨rfl, rfl⟩) | (go_at_call 11; refine (implRead_out _ _ _ (by omega) (by omega)).mono ?_; rintro e w' ⟨rfl, rfl⟩))
    go_ret
    exact ⟨rfl, Below.refl _ _⟩
end fnExactReadVar
end Go.Proofs.Ytipippblnbihcak
