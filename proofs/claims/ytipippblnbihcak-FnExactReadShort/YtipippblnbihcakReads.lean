/- impl.ReadVar and spec.ReadVar by their contracts. -/
import Derived.Test.YtipippblnbihcakShort
import Derived.Test.YtipippblnbihcakRd
import Derived.Deep.RegionWith
namespace Go.Proofs.Ytipippblnbihcak
open Go.RowKit Kit

/-- What is answered. -/
def rdVal (s : ByteArray) (p : Nat) : Value := match rd s p with
  | none => .tuple #[.int .i64 0, .int .i64 0, .bool false]
  | some (n, c) => .tuple #[.int .i64 n, .int .i64 (p + c : Nat), .bool true]
theorem rdVal_none {s : ByteArray} {p : Nat} (h : rd s p = none) : rdVal s p = .tuple #[.int .i64 0, .int .i64 0, .bool false] := by simp [rdVal, h]
theorem rdVal_some {s : ByteArray} {p n c : Nat} (h : rd s p = some (n, c)) : rdVal s p = .tuple #[.int .i64 n, .int .i64 (p + c : Nat), .bool true] := by simp [rdVal, h]

theorem pow_le {k : Nat} (h : k < 5) : 128 ^ k ≤ 268435456 := by
  have : 128 ^ k ≤ 128 ^ 4 := Nat.pow_le_pow_right (by decide) (by omega)
  simpa using this

theorem at_next {s : ByteArray} {p k m W c : Nat} (h : At s p k m) (hW : W = 128 ^ k) (hlt : p + k < s.size) (h5 : k < 5) (hc : (s[p + k]).toNat = c) (h1 : 127 < c) :
    At s p (k + 1) (m + c % 128 * W) ∧ m + c % 128 * W < W * 128 := by
  subst hW hc
  have hn := h.next hlt h5 (by omega)
  exact ⟨hn, by have := hn.lt; rwa [Nat.pow_succ] at this⟩
theorem at_none {s : ByteArray} {p k m W c : Nat} (h : At s p k m) (hW : W = 128 ^ k) (hlt : p + k < s.size) (h5 : k < 5) (hc : (s[p + k]).toNat = c) (h1 : c ≤ 127) (h2 : 1000000000 < m + c % 128 * W ∨ (c = 0 ∧ 0 < k)) :
    rdVal s p = .tuple #[.int .i64 0, .int .i64 0, .bool false] := by
  subst hW hc
  refine rdVal_none ?_
  rw [h.stop hlt h5 (by omega), if_pos h2]
theorem at_some {s : ByteArray} {p k m W c : Nat} (h : At s p k m) (hW : W = 128 ^ k) (hlt : p + k < s.size) (h5 : k < 5) (hc : (s[p + k]).toNat = c) (h1 : c ≤ 127) (h2 : ¬ (1000000000 < m + c % 128 * W ∨ (c = 0 ∧ 0 < k))) :
    rdVal s p = .tuple #[.int .i64 ((m : Int) + (c : Int) % 128 * (W : Int)), .int .i64 ((p : Int) + (k : Int) + 1), .bool true] := by
  subst hW hc
  have e := h.stop hlt h5 (by omega)
  rw [if_neg h2] at e
  rw [rdVal_some e]
  have e1 : ((m + (s[p + k]).toNat % 128 * 128 ^ k : Nat) : Int) = (m : Int) + ((s[p + k]).toNat : Int) % 128 * ((128 ^ k : Nat) : Int) := by
    rw [Int.natCast_add, Int.natCast_mul, Int.natCast_emod]; rfl
  rw [e1]
  simp only [Int.natCast_add]
  rw [show (p : Int) + ((k : Int) + ((1 : Nat) : Int)) = (p : Int) + (k : Int) + 1 by omega]
theorem ret_of {v v' : Value} (h : v' = v) : Ending.returned v = .returned v' := by rw [h]
theorem cast3 (m c W : Nat) : ((m + c % 128 * W : Nat) : Int) = (m : Int) + (c : Int) % 128 * (W : Int) := by simp

set_option maxHeartbeats 800000 in
theorem implRead_in (s : ByteArray) (p : Nat) (w : World) (hs : s.size ≤ 1048576) (hp : p ≤ s.size) :
    Calls Try.prog 11 #[.string s, .int .i64 p] w fun e w' => e = .returned (rdVal s p) ∧ w' = w := by
  have b0 : decide ((p : Int) < 0) = false := by simp
  have b1 : decide (s.size < p) = false := by simp; omega
  have b2 : decide ((s.size : Int) < (p : Int)) = false := by simp; omega
  go_enter Try.func11, Try.ntmps11
  go_wp2
  go_loop [7, 8, 9] (fun n i q => ∃ (k m W : Nat), k ≤ 5 ∧ p + k ≤ s.size ∧ Hid (W = 128 ^ k) ∧ W ≤ 34359738368 ∧ m < W ∧ n = .int .i64 m ∧ i = .int .i64 (p + k : Nat) ∧ q = .int .i64 W ∧ At s p k m) (fun _ i _ => s.size - (intOf i).toNat)
  case atStart => exact ⟨0, 0, 1, by omega, by omega, hide rfl, by omega, by omega, rfl, rfl, rfl, At.start s p⟩
  case round =>
    obtain ⟨k, m, W, hk, hl, HW, hW, hm, rfl, rfl, rfl, hat⟩ := hrel
    by_cases hlt : p + k < s.size
    · by_cases h5 : k < 5
      · have hW4 : W ≤ 268435456 := by rw [HW.out]; exact pow_le h5
        obtain ⟨c, hc⟩ : ∃ c : Nat, (s[p + k]).toNat = c := ⟨_, rfl⟩
        have hc1 : c < 256 := by rw [← hc]; exact (s[p + k]).toNat_lt
        have hm0 : c % 128 * W ≤ 127 * 268435456 := Nat.mul_le_mul (by omega) hW4
        have HE := hide (cast3 m c W)
        have q1 : (0 : Int) ≤ (c : Int) % 128 * (W : Int) := Int.mul_nonneg (by omega) (by omega)
        have q2 : (c : Int) % 128 * (W : Int) ≤ 34091302912 := by
          have : ((c % 128 * W : Nat) : Int) ≤ 34091302912 := by omega
          simpa using this
        clear hm0
        have HC := hide hc
        by_cases h1 : 127 < c
        · have HN := hide (at_next hat HW.out hlt h5 hc h1)
          go_wp2
          go_round
          case rel => exact ⟨k + 1, m + c % 128 * W, W * 128, by omega, by omega, hide (by rw [HW.out, Nat.pow_succ]), by omega, HN.out.2, by rw [HE.out], by go_num, by go_num, HN.out.1⟩
          case measure => simp [intOf]; omega
        · by_cases h2 : 1000000000 < (m : Int) + (c : Int) % 128 * (W : Int)
          · have HN := hide (at_none hat HW.out hlt h5 hc (by omega) (.inl (by have := cast3 m c W; omega)))
            go_wp2
            go_ret3
            exact ⟨ret_of HN.out, rfl⟩
          · by_cases h3 : c = 0
            · have b3 : ((c : Int) == 0) = true := by simp [h3]
              by_cases h4 : 0 < k
              · have HN := hide (at_none hat HW.out hlt h5 hc (by omega) (.inr ⟨h3, h4⟩))
                clear h3
                go_wp2
                go_ret3
                exact ⟨ret_of HN.out, rfl⟩
              · have HN := hide (at_some hat HW.out hlt h5 hc (by omega) (by have := cast3 m c W; omega))
                clear h3
                go_wp2
                go_ret3
                exact ⟨ret_of HN.out, rfl⟩
            · have b3 : ((c : Int) == 0) = false := by simp [h3]
              have HN := hide (at_some hat HW.out hlt h5 hc (by omega) (by have := cast3 m c W; omega))
              clear h3
              go_wp2
              go_ret3
              exact ⟨ret_of HN.out, rfl⟩
      · have hW5 : 1000000000 < W := by rw [HW.out, show k = 5 by omega]; decide
        have HN := hide (rdVal_none (hat.out (.inr (by omega))))
        go_wp2
        go_ret3
        exact ⟨ret_of HN.out, rfl⟩
    · have HN := hide (rdVal_none (hat.out (.inl (by omega))))
      go_wp2
      go_ret3
      exact ⟨ret_of HN.out, rfl⟩
end Go.Proofs.Ytipippblnbihcak
