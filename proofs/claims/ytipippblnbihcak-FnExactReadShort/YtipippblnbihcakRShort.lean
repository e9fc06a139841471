/- strings.Clone, spec.ReadShort and impl.ReadShort by their contracts, and the walk of laws.FnExactReadShort: it returns true at every text and int. -/
import Derived.Test.YtipippblnbihcakReadS
import Derived.Test.YtipippblnbihcakShelf
namespace Go.Proofs.Ytipippblnbihcak
open Go.RowKit Kit

theorem clone_any (s : ByteArray) (w : World) (h : s.size ≤ 281474976710656) :
    Calls Try.prog 20 #[.string s] w fun e w' => e = .returned (.string s) ∧ Below w.heap.size w w' := by
  go_enter Try.func20, Try.ntmps20
  go_wp2_with (go_at_call 22; refine (Try.stringslite_Clone _ _ h).mono ?_; rintro e w1 ⟨rfl, hb⟩)
  go_ret
  exact ⟨rfl, hb⟩

theorem rdF_bound (f : Nat) : ∀ (rest : List UInt8) (k n m c : Nat), rdF f rest k n = some (m, c) → m ≤ 1000000000 ∧ c ≤ k + rest.length := by
  induction f with
  | zero => intro rest k n m c h; simp [rdF] at h
  | succ f ih =>
    intro rest k n m c h
    cases rest with
    | nil => simp [rdF] at h
    | cons b r =>
      rw [rdF] at h
      split at h
      · have := ih _ _ _ _ _ h
        simp only [List.length_cons]
        omega
      · split at h
        · cases h
        · simp only [Option.some.injEq, Prod.mk.injEq] at h
          simp only [List.length_cons]
          omega
theorem rd_bound {s : ByteArray} {p n c : Nat} (hp : p ≤ s.size) (h : rd s p = some (n, c)) : n ≤ 1000000000 ∧ p + c ≤ s.size := by
  have := rdF_bound 5 _ 0 0 n c h
  have h2 : s.data.toList.length = s.size := by simp
  rw [List.length_drop, h2] at this
  omega

/-- What is answered. -/
def rsVal (s : ByteArray) (p : Nat) : Value := match rd s p with
  | none => .tuple #[.string ⟨#[]⟩, .int .i64 0, .bool false]
  | some (n, c) => if 20000 < n ∨ s.size - (p + c) < n then .tuple #[.string ⟨#[]⟩, .int .i64 0, .bool false]
      else .tuple #[.string (s.extract (p + c) (p + c + n)), .int .i64 (p + c + n : Nat), .bool true]
theorem rsVal_none {s : ByteArray} {p : Nat} (h : rd s p = none) : rsVal s p = .tuple #[.string ⟨#[]⟩, .int .i64 0, .bool false] := by simp [rsVal, h]
theorem rsVal_bad {s : ByteArray} {p n c : Nat} (h : rd s p = some (n, c)) (h1 : 20000 < n ∨ s.size - (p + c) < n) : rsVal s p = .tuple #[.string ⟨#[]⟩, .int .i64 0, .bool false] := by simp [rsVal, h, h1]
theorem rsVal_good {s : ByteArray} {p n c : Nat} (h : rd s p = some (n, c)) (h1 : ¬ (20000 < n ∨ s.size - (p + c) < n)) : rsVal s p = .tuple #[.string (s.extract (p + c) (p + c + n)), .int .i64 (p + c + n : Nat), .bool true] := by simp [rsVal, h, h1]

theorem specRS_in (s : ByteArray) (p : Nat) (w : World) (hs : s.size ≤ 1048576) (hp : p ≤ s.size) :
    Calls Try.prog 14 #[.string s, .int .i64 p] w fun e w' => e = .returned (rsVal s p) ∧ Below w.heap.size w w' := by
  have H := fun w => specRead_in s p w hs hp
  cases hr : rd s p with
  | none =>
    rw [rdVal_none hr] at H
    have G := hide H
    have HV := hide (rsVal_none hr)
    clear H hr
    go_enter Try.func14, Try.ntmps14
    go_wp2_with (go_at_call 10; refine (G.out _).mono ?_; rintro e w1 ⟨rfl, hb⟩)
    go_ret3
    exact ⟨ret_of HV.out, hb⟩
  | some nc =>
    obtain ⟨n, c⟩ := nc
    obtain ⟨hn, hc⟩ := rd_bound hp hr
    rw [rdVal_some hr] at H
    obtain ⟨q, hq⟩ : ∃ q, p + c = q := ⟨_, rfl⟩
    have hB := fun h => rsVal_bad hr h
    have hG := fun h => rsVal_good hr h
    rw [hq] at H hc hB hG
    have G := hide H
    have HB := hide hB
    have HG := hide hG
    clear H hr hq hB hG
    by_cases h1 : 20000 < n
    · go_enter Try.func14, Try.ntmps14
      go_wp2_with (go_at_call 10; refine (G.out _).mono ?_; rintro e w1 ⟨rfl, hb⟩)
      go_ret3
      exact ⟨ret_of (HB.out (.inl h1)), hb⟩
    · by_cases h2 : (s.size : Int) - (q : Int) < (n : Int)
      · go_enter Try.func14, Try.ntmps14
        go_wp2_with (go_at_call 10; refine (G.out _).mono ?_; rintro e w1 ⟨rfl, hb⟩)
        go_ret3
        exact ⟨ret_of (HB.out (.inr (by omega))), hb⟩
      · have hv := HG.out (by omega)
        have e1 : ((q : Int) + (n : Int)).toNat = q + n := by omega
        have e2 : ((q + n : Nat) : Int) = (q : Int) + (n : Int) := by omega
        rw [e2] at hv
        have HV := hide hv
        clear hv e2
        go_enter Try.func14, Try.ntmps14
        go_wp2_with (go_at_call 10; refine (G.out _).mono ?_; rintro e w1 ⟨rfl, hb⟩)
        go_ret3
        exact ⟨ret_of HV.out, hb⟩
theorem implRS_in (s : ByteArray) (p : Nat) (w : World) (hs : s.size ≤ 1048576) (hp : p ≤ s.size) :
    Calls Try.prog 15 #[.string s, .int .i64 p] w fun e w' => e = .returned (rsVal s p) ∧ Below w.heap.size w w' := by
  have H := fun w => implRead_in s p w hs hp
  cases hr : rd s p with
  | none =>
    rw [rdVal_none hr] at H
    have G := hide H
    have HV := hide (rsVal_none hr)
    clear H hr
    go_enter Try.func15, Try.ntmps15
    go_wp2_with (go_at_call 11; refine (G.out _).mono ?_; rintro e w1 ⟨rfl, rfl⟩)
    go_ret3
    exact ⟨ret_of HV.out, Below.refl _ _⟩
  | some nc =>
    obtain ⟨n, c⟩ := nc
    obtain ⟨hn, hc⟩ := rd_bound hp hr
    rw [rdVal_some hr] at H
    obtain ⟨q, hq⟩ : ∃ q, p + c = q := ⟨_, rfl⟩
    have hB := fun h => rsVal_bad hr h
    have hG := fun h => rsVal_good hr h
    rw [hq] at H hc hB hG
    have G := hide H
    have HB := hide hB
    have HG := hide hG
    clear H hr hq hB hG
    by_cases h1 : 20000 < n
    · go_enter Try.func15, Try.ntmps15
      go_wp2_with (go_at_call 11; refine (G.out _).mono ?_; rintro e w1 ⟨rfl, rfl⟩)
      go_ret3
      exact ⟨ret_of (HB.out (.inl h1)), Below.refl _ _⟩
    · by_cases h2 : (s.size : Int) - (q : Int) < (n : Int)
      · go_enter Try.func15, Try.ntmps15
        go_wp2_with (go_at_call 11; refine (G.out _).mono ?_; rintro e w1 ⟨rfl, rfl⟩)
        go_ret3
        exact ⟨ret_of (HB.out (.inr (by omega))), Below.refl _ _⟩
      · have hv := HG.out (by omega)
        have e1 : ((q : Int) + (n : Int)).toNat = q + n := by omega
        have e2 : ((q + n : Nat) : Int) = (q : Int) + (n : Int) := by omega
        rw [e2] at hv
        have hz : (s.extract q (q + n)).size ≤ 281474976710656 := by rw [ByteArray.size_extract]; omega
        have HV := hide hv
        have HZ := hide hz
        clear hv e2 hz
        go_enter Try.func15, Try.ntmps15
        go_wp2_with (first | (go_at_call 11; refine (G.out _).mono ?_; rintro e w1 ⟨rfl, rfl⟩) | (go_at_call 20; refine (clone_any _ _ HZ.out).mono ?_; rintro e w2 ⟨rfl, hb⟩))
        go_ret3
        exact ⟨ret_of HV.out, hb⟩
theorem specRS_out (s : ByteArray) (p : Int) (w : World) (hs : s.size ≤ 1048576) (h : p < 0 ∨ (s.size : Int) < p) :
    Calls Try.prog 14 #[.string s, .int .i64 p] w fun e w' => e = .returned (.tuple #[.string ⟨#[]⟩, .int .i64 0, .bool false]) ∧ w' = w := by
  have G := hide (fun w => specRead_out s p w hs h)
  go_enter Try.func14, Try.ntmps14
  go_wp2_with (go_at_call 10; refine (G.out _).mono ?_; rintro e w' ⟨rfl, rfl⟩)
  go_ret3
  exact ⟨rfl, rfl⟩
theorem implRS_out (s : ByteArray) (p : Int) (w : World) (hs : s.size ≤ 1048576) (h : p < 0 ∨ (s.size : Int) < p) :
    Calls Try.prog 15 #[.string s, .int .i64 p] w fun e w' => e = .returned (.tuple #[.string ⟨#[]⟩, .int .i64 0, .bool false]) ∧ w' = w := by
  have G := hide (fun w => implRead_out s p w hs h)
  go_enter Try.func15, Try.ntmps15
  go_wp2_with (go_at_call 11; refine (G.out _).mono ?_; rintro e w' ⟨rfl, rfl⟩)
  go_ret3
  exact ⟨rfl, rfl⟩

theorem rsVal_form (s : ByteArray) (p : Nat) : ∃ (a : ByteArray) (b : Int) (c : Bool), rsVal s p = .tuple #[.string a, .int .i64 b, .bool c] := by
  unfold rsVal
  split
  · exact ⟨_, 0, false, rfl⟩
  · split
    · exact ⟨_, 0, false, rfl⟩
    · exact ⟨_, _, true, rfl⟩

namespace fnExactReadShort
theorem walk (a0 : ByteArray) (a1 : Int) (_w0 : a0.size ≤ maxLen) (_w1 : (Lit.int .i64 a1).wf = true) (w : World) :
    Calls Try.prog 6 #[.string a0, .int .i64 a1] w fun e w' => e = .returned (.bool true) ∧ Below w.heap.size w w' := by
  by_cases h2 : 1048576 < a0.size
  · go_enter Try.func6, Try.ntmps6
    go_wp2
    go_ret
    exact ⟨rfl, Below.refl _ _⟩
  by_cases h : 0 ≤ a1 ∧ a1 ≤ (a0.size : Int)
  · obtain ⟨p, rfl⟩ := Int.eq_ofNat_of_zero_le h.1
    have hp : p ≤ a0.size := by omega
    obtain ⟨a, b, c, hv⟩ := rsVal_form a0 p
    have H1 := fun w => specRS_in a0 p w (by omega) hp
    have H2 := fun w => implRS_in a0 p w (by omega) hp
    rw [hv] at H1 H2
    have G1 := hide H1
    have G2 := hide H2
    clear H1 H2 hv h
    go_enter Try.func6, Try.ntmps6
    go_wp2_with (first | (go_at_call 14; refine (G1.out _).mono ?_; rintro e w1 ⟨rfl, hb1⟩) | (go_at_call 15; refine (G2.out _).mono ?_; rintro e w2 ⟨rfl, hb2⟩))
    go_ret
    exact ⟨rfl, hb1.trans (hb2.mono hb1.size)⟩
  · go_enter Try.func6, Try.ntmps6
    go_wp2_with (first | (go_at_call 14; refine (specRS_out _ _ _ (by omega) (by omega)).mono ?_; rintro e w' ⟨rfl, rfl⟩) | (go_at_call 15; refine (implRS_out _ _ _ (by omega) (by omega)).mono ?_; rintro e w' ⟨rfl, rfl⟩))
    go_ret
    exact ⟨rfl, Below.refl _ _⟩
end fnExactReadShort
end Go.Proofs.Ytipippblnbihcak
