/- impl's and spec's sums by their contracts: impl's checkSum.with, SumMore and SumOf over the row of sixteen, spec's SumMore and SumOf halving by halving: both are the plain function of the bytes. -/
import Derived.Test.YtbgnpbapalngjaaDoorRows
import Derived.Test.YtbgnpbapalngjaaDoorKitB
import Derived.Test.YtbgnpbapalngjaaDoorSums
import Derived.Laws.BitsAllLaws
namespace Go.Proofs.YtbgnpbapalngjaaDoor
open Go.RowKit Kit
/-- The row of sixteen lies in the variable's block. -/
def Tab (w : World) : Prop := 0 < w.heap.size ∧ ∀ j : Nat, j < 16 → w.cell? ⟨0, j, none⟩ = some (.int .u32 (rowN j : Nat))
theorem Tab.below {w w' : World} {base : Nat} (h : Tab w) (hb : Below base w w') (h0 : base = w.heap.size) : Tab w' := by
  subst h0
  exact ⟨by have := hb.size; have := h.1; omega, fun j hj => (hb.cell (p := ⟨0, j, none⟩) h.1).trans (h.2 j hj)⟩
theorem and15 (x : Nat) (h : x < 4294967296) : bits .and .u32 (x : Int) 15 = ((x % 16 : Nat) : Int) := by
  have := u32_and_nat x 15 h (by decide)
  rw [show ((15 : Nat) : Int) = 15 from rfl] at this
  rw [this, show 15 = 2 ^ 4 - 1 from rfl, Nat.and_two_pow_sub_one_eq_mod]
theorem xor_div (x y : Nat) (h : x < 4294967296) (hy : y < 4294967296) : bits .xor .u32 ((x : Int) / 16) (y : Int) = ((x / 16 ^^^ y : Nat) : Int) := by
  have := u32_xor_nat (x / 16) y (by omega) hy
  rw [← this]
  simp

set_option maxRecDepth 100000 in
theorem with_any (s c : Nat) (w : World) (hs : s < 4294967296) (hc : c < 256) (ht : Tab w) :
    Calls Tryd.prog 24 #[.int .u32 s, .int .u8 c] w fun e w' => e = .returned (.int .u32 (byteN s c : Nat)) ∧ w = w' := by
  have HB := hide (byteN_four s c)
  have e1 := u32_xor_nat s c hs (by omega)
  have hx := xor_lt32 hs (show c < 4294967296 by omega)
  obtain ⟨x, hxe⟩ : ∃ x, s ^^^ c = x := ⟨_, rfl⟩
  rw [hxe] at e1 hx HB
  have e2 := and15 x hx
  have c1 := ht.2 (x % 16) (by omega)
  have r1 := rowN_lt (x % 16) (by omega)
  have e3 := xor_div x (rowN (x % 16)) hx r1
  have hy : fourN x < 4294967296 := fourN_lt hx
  rw [show x / 16 ^^^ rowN (x % 16) = fourN x from rfl] at e3
  obtain ⟨y, hye⟩ : ∃ y, fourN x = y := ⟨_, rfl⟩
  rw [hye] at e3 hy HB
  have e4 := and15 y hy
  have c2 := ht.2 (y % 16) (by omega)
  have r2 := rowN_lt (y % 16) (by omega)
  have e5 := xor_div y (rowN (y % 16)) hy r2
  rw [show y / 16 ^^^ rowN (y % 16) = fourN y from rfl, ← HB.out] at e5
  clear HB hxe hye
  obtain ⟨z, hz⟩ : ∃ z, byteN s c = z := ⟨_, rfl⟩
  rw [hz] at e5 ⊢
  obtain ⟨i, hi⟩ : ∃ i, x % 16 = i := ⟨_, rfl⟩
  obtain ⟨j, hj⟩ : ∃ j, y % 16 = j := ⟨_, rfl⟩
  have hi1 : i < 16 := by omega
  have hj1 : j < 16 := by omega
  rw [hi] at e2 c1 r1 e3
  rw [hj] at e4 c2 r2 e5
  clear hi hj hz ht
  obtain ⟨u, hu⟩ : ∃ u, rowN i = u := ⟨_, rfl⟩
  obtain ⟨v, hv⟩ : ∃ v, rowN j = v := ⟨_, rfl⟩
  rw [hu] at c1 r1 e3
  rw [hv] at c2 r2 e5
  clear hu hv
  go_enter Tryd.func24, Tryd.ntmps24
  go_wp2
  go_ret
  exact ⟨rfl, rfl⟩

theorem sum_step (s : Nat) (t : ByteArray) (k : Nat) (h : k < t.size) {c : Nat} (hc : (t[k]).toNat = c) : sumN s (t.data.toList.take (k + 1)) = byteN (sumN s (t.data.toList.take k)) c := by
  rw [take_snoc t k h, sumN_snoc, hc]

set_option maxRecDepth 100000 in
theorem implMore_any (s : Nat) (t : ByteArray) (w : World) (hs : s < 4294967296) (hz : t.size ≤ 1048580) (ht : Tab w) :
    Calls Tryd.prog 13 #[.int .u32 s, .string t] w fun e w' => e = .returned (.int .u32 (sumN s t.data.toList : Nat)) ∧ w = w' := by
  have HT := hide ht
  clear ht
  go_enter Tryd.func13, Tryd.ntmps13
  go_wp2
  go_loopw [5, 10] (fun v i wr => ∃ (k : Nat) (x : Nat), k ≤ t.size ∧ i = .int .i64 k ∧ v = .int .u32 x ∧ x < 4294967296 ∧ Hid (x = sumN s (t.data.toList.take k)) ∧ w = wr) (fun _ i _ => t.size - (intOf i).toNat)
  case atStart => exact ⟨0, s, Nat.zero_le _, rfl, rfl, hs, hide rfl, rfl⟩
  case round =>
    obtain ⟨k, x, hk, rfl, rfl, hx, HX, rfl⟩ := hrel
    by_cases hlt : k < t.size
    · obtain ⟨c, hc⟩ : ∃ c : Nat, (t[k]).toNat = c := ⟨_, rfl⟩
      have hc1 : c < 256 := by rw [← hc]; exact u8_lt _
      have HN := hide (sum_step s t k hlt hc)
      have b1 : decide ((k : Int) < (t.size : Int)) = true := by simp; omega
      go_wp2_with (go_at_call 24; refine (with_any _ _ _ ?_ ?_ HT.out).mono ?_; assumption; assumption; rintro e w' ⟨rfl, rfl⟩)
      go_roundw
      case rel => exact ⟨k + 1, byteN x c, by omega, by go_num, rfl, byteN_lt hx hc1, hide (by rw [HN.out, HX.out]), trivial⟩
      case measure => simp [intOf]; omega
    · have b1 : decide ((k : Int) < (t.size : Int)) = false := by simp; omega
      go_wp2
      go_ret
      exact ⟨by rw [HX.out, take_all t k (by omega)]; rfl, rfl⟩

theorem implOf_any (t : ByteArray) (w : World) (hz : t.size ≤ 1048580) (ht : Tab w) :
    Calls Tryd.prog 14 #[.string t] w fun e w' => e = .returned (.int .u32 (sumT t.data.toList : Nat)) ∧ w = w' := by
  have HT := hide ht
  clear ht
  go_enter Tryd.func14, Tryd.ntmps14
  go_wp2_with fail
  refine (implMore_any 4294967295 t w (by decide) hz HT.out).mono ?_
  rintro e w' ⟨rfl, rfl⟩
  go_wp2
  go_ret
  exact ⟨rfl, rfl⟩

theorem stepsN_last (n s : Nat) : stepsN (n + 1) s = stepN (stepsN n s) := by
  induction n generalizing s with
  | zero => rfl
  | succ n ih => show stepsN (n + 1) (stepN s) = _; rw [ih]; rfl
theorem stepN_odd (s : Nat) (h : s % 2 = 1) : stepN s = s / 2 ^^^ 3558460437 := by unfold stepN; rw [if_pos h]
theorem stepN_even (s : Nat) (h : ¬ s % 2 = 1) : stepN s = s / 2 := by unfold stepN; rw [if_neg h]
theorem xor_poly (y : Nat) (h : y < 4294967296) : bits .xor .u32 (y : Int) 3558460437 = ((y ^^^ 3558460437 : Nat) : Int) := u32_xor_nat y 3558460437 h (by decide)

set_option maxRecDepth 100000 in
set_option maxHeartbeats 800000 in
theorem specMore_any (s : Nat) (t : ByteArray) (w : World) (hs : s < 4294967296) (hz : t.size ≤ 1048580) :
    Calls Tryd.prog 15 #[.int .u32 s, .string t] w fun e w' => e = .returned (.int .u32 (sumN s t.data.toList : Nat)) ∧ w = w' := by
  go_enter Tryd.func15, Tryd.ntmps15
  go_wp2
  go_loopw [0, 5] (fun v i wr => ∃ (k : Nat) (x : Nat), k ≤ t.size ∧ i = .int .i64 k ∧ v = .int .u32 x ∧ x < 4294967296 ∧ Hid (x = sumN s (t.data.toList.take k)) ∧ w = wr) (fun _ i _ => t.size - (intOf i).toNat)
  case atStart => exact ⟨0, s, Nat.zero_le _, rfl, rfl, hs, hide rfl, rfl⟩
  case round =>
    obtain ⟨k, x, hk, rfl, rfl, hx, HX, rfl⟩ := hrel
    by_cases hlt : k < t.size
    · obtain ⟨c, hc⟩ : ∃ c : Nat, (t[k]).toNat = c := ⟨_, rfl⟩
      have hc1 : c < 256 := by rw [← hc]; exact u8_lt _
      have HN := hide (sum_step s t k hlt hc)
      have b1 : decide ((k : Int) < (t.size : Int)) = true := by simp; omega
      have e1 := u32_xor_nat x c hx (by omega)
      have hx1 := xor_lt32 hx (show c < 4294967296 by omega)
      have HE := hide (show byteN x c = stepsN 8 (x ^^^ c) from rfl)
      obtain ⟨y, hy⟩ : ∃ y, x ^^^ c = y := ⟨_, rfl⟩
      rw [hy] at e1 hx1 HE
      clear hy
      go_wp2
      go_loopw [0, 6] (fun v j wr => ∃ (m : Nat) (z : Nat), m ≤ 8 ∧ j = .int .i64 m ∧ v = .int .u32 z ∧ z < 4294967296 ∧ Hid (z = stepsN m y) ∧ w = wr) (fun _ j _ => 8 - (intOf j).toNat)
      case atStart => exact ⟨0, y, Nat.zero_le _, rfl, rfl, hx1, hide rfl, rfl⟩
      case round =>
        obtain ⟨m, z, hm, rfl, rfl, hz1, HZ, rfl⟩ := hrel
        by_cases hm1 : m < 8
        · have b2 : decide ((m : Int) < 8) = true := by simp; omega
          have HS := hide (stepsN_last m y)
          by_cases ho : z % 2 = 1
          · have b3 : ((z : Int) % 2 == 1) = true := by simp; omega
            have HO := hide (stepN_odd z ho)
            have e2 := xor_poly (z / 2) (by omega)
            have e3 : ((z / 2 : Nat) : Int) = (z : Int) / 2 := by omega
            rw [e3] at e2
            clear e3
            go_wp2
            go_roundw
            case rel => exact ⟨m + 1, z / 2 ^^^ 3558460437, by omega, by go_num, by go_num, xor_lt32 (by omega) (by decide), hide (by rw [HS.out, ← HZ.out, HO.out]), trivial⟩
            case measure => simp [intOf]; omega
          · have b3 : ((z : Int) % 2 == 1) = false := by simp; omega
            have HO := hide (stepN_even z ho)
            go_wp2
            go_roundw
            case rel => exact ⟨m + 1, z / 2, by omega, by go_num, by go_num, by omega, hide (by rw [HS.out, ← HZ.out, HO.out]), trivial⟩
            case measure => simp [intOf]; omega
        · have b2 : decide ((m : Int) < 8) = false := by simp; omega
          have hm2 : m = 8 := by omega
          go_wp2
          go_roundw
          case rel => exact ⟨k + 1, z, by omega, by go_num, rfl, hz1, hide (by rw [HN.out, ← HX.out, HE.out, HZ.out, hm2]), trivial⟩
          case measure => simp [intOf]; omega
    · have b1 : decide ((k : Int) < (t.size : Int)) = false := by simp; omega
      go_wp2
      go_ret
      exact ⟨by rw [HX.out, take_all t k (by omega)]; rfl, rfl⟩

theorem specOf_any (t : ByteArray) (w : World) (hz : t.size ≤ 1048580) :
    Calls Tryd.prog 16 #[.string t] w fun e w' => e = .returned (.int .u32 (sumT t.data.toList : Nat)) ∧ w = w' := by
  go_enter Tryd.func16, Tryd.ntmps16
  go_wp2_with fail
  refine (specMore_any 4294967295 t w (by decide) hz).mono ?_
  rintro e w' ⟨rfl, rfl⟩
  go_wp2
  go_ret
  exact ⟨rfl, rfl⟩
end Go.Proofs.YtbgnpbapalngjaaDoor
