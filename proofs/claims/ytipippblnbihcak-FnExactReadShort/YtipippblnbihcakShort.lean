/- spec.ShortText and impl.ShortText by their contracts, and the walk of laws.FnExactShortText: it returns true at every text. -/
import Derived.Test.YtipippblnbihcakLawVar
namespace Go.Proofs.Ytipippblnbihcak
open Go.RowKit Kit

/-- The bytes of a length, as a string. -/
def headOf (n : Nat) : ByteArray := ⟨(vb n).toArray⟩
theorem headOf_size (n : Nat) : (headOf n).size ≤ 10 := by
  have := vbF_len 9 n
  simp only [headOf, ByteArray.size, vb, List.size_toArray]
  omega
theorem l01Var_head (n : Int) (w : World) (h0 : 0 ≤ n) (h1 : n ≤ 1000000000) :
    Calls Try.prog 19 #[.int .i64 n] w fun e w' => e = .returned (.string (headOf n.toNat)) ∧ Below w.heap.size w w' := l01Var_any n w h0 h1
theorem implVar_head (n : Int) (w : World) (h0 : 0 ≤ n) (h1 : n ≤ 1000000000) :
    Calls Try.prog 9 #[.int .i64 n] w fun e w' => e = .returned (.tuple #[.string (headOf n.toNat), .bool true]) ∧ Below w.heap.size w w' := implVar_yes n w h0 h1

theorem specShort_yes (s : ByteArray) (w : World) (h : s.size ≤ 20000) :
    Calls Try.prog 12 #[.string s] w fun e w' => e = .returned (.tuple #[.string (headOf s.size ++ s), .bool true]) ∧ Below w.heap.size w w' := by
  have hz := headOf_size s.size
  go_enter Try.func12, Try.ntmps12
  go_wp2_with (first | (go_at_call 19; refine (l01Var_head _ _ (by omega) (by omega)).mono ?_; rintro e w1 ⟨rfl, hb⟩; rw [Int.toNat_natCast]))
  go_ret2
  exact ⟨rfl, hb⟩
theorem implShort_yes (s : ByteArray) (w : World) (h : s.size ≤ 20000) :
    Calls Try.prog 13 #[.string s] w fun e w' => e = .returned (.tuple #[.string (headOf s.size ++ s), .bool true]) ∧ Below w.heap.size w w' := by
  have hz := headOf_size s.size
  go_enter Try.func13, Try.ntmps13
  go_wp2_with (first | (go_at_call 9; refine (implVar_head _ _ (by omega) (by omega)).mono ?_; rintro e w1 ⟨rfl, hb⟩; rw [Int.toNat_natCast]))
  go_ret2
  exact ⟨rfl, hb⟩
theorem specShort_no (s : ByteArray) (w : World) (h : 20000 < s.size) :
    Calls Try.prog 12 #[.string s] w fun e w' => e = .returned (.tuple #[.string ⟨#[]⟩, .bool false]) ∧ w' = w := by
  go_enter Try.func12, Try.ntmps12
  go_wp2
  go_ret2
  exact ⟨rfl, rfl⟩
theorem implShort_no (s : ByteArray) (w : World) (h : 20000 < s.size) :
    Calls Try.prog 13 #[.string s] w fun e w' => e = .returned (.tuple #[.string ⟨#[]⟩, .bool false]) ∧ w' = w := by
  go_enter Try.func13, Try.ntmps13
  go_wp2
  go_ret2
  exact ⟨rfl, rfl⟩

namespace fnExactShortText
theorem walk (a0 : ByteArray) (_w0 : a0.size ≤ maxLen) (w : World) :
    Calls Try.prog 5 #[.string a0] w fun e w' => e = .returned (.bool true) ∧ Below w.heap.size w w' := by
  by_cases h2 : 1048576 < a0.size
  · go_enter Try.func5, Try.ntmps5
    go_wp2
    go_ret
    exact ⟨rfl, Below.refl _ _⟩
  by_cases h : a0.size ≤ 20000
  · go_enter Try.func5, Try.ntmps5
    go_wp2_with (first | (go_at_call 12; refine (specShort_yes _ _ h).mono ?_; rintro e w1 ⟨rfl, hb1⟩) | (go_at_call 13; refine (implShort_yes _ _ h).mono ?_; rintro e w2 ⟨rfl, hb2⟩))
    go_ret
    exact ⟨rfl, hb1.trans (hb2.mono hb1.size)⟩
  · go_enter Try.func5, Try.ntmps5
    go_wp2_with (first | (go_at_call 12; refine (specShort_no _ _ (by omega)).mono ?_; rintro e w' ⟨rfl, rfl⟩) | (go_at_call 13; refine (implShort_no _ _ (by omega)).mono ?_; rintro e w' ⟨rfl, rfl⟩))
    go_ret
    exact ⟨rfl, Below.refl _ _⟩
end fnExactShortText
end Go.Proofs.Ytipippblnbihcak
