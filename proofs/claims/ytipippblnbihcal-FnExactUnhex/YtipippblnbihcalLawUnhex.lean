/- The walk of laws.FnExactUnhex: it returns true at every text. -/
import Derived.Test.YtipippblnbihcalUnhex
namespace Go.Proofs.Ytipippblnbihcal
open Go.RowKit Kit
theorem specUnhex_no (s : ByteArray) (w : World) (_hs : s.size ≤ 1048576) (h : 40000 < s.size ∨ s.size % 2 = 1) :
    Calls Try.prog 5 #[.string s] w fun e w' => e = .returned (.tuple #[.string ⟨#[]⟩, .bool false]) ∧ w' = w := by
  by_cases h1 : 40000 < s.size
  · go_enter Try.func5, Try.ntmps5
    go_wp2
    go_ret2
    exact ⟨rfl, rfl⟩
  · have b1 : ((s.size : Int) % 2 != 0) = true := by simp; omega
    go_enter Try.func5, Try.ntmps5
    go_wp2
    go_ret2
    exact ⟨rfl, rfl⟩
theorem implUnhex_no (s : ByteArray) (w : World) (_hs : s.size ≤ 1048576) (h : 40000 < s.size ∨ s.size % 2 = 1) :
    Calls Try.prog 6 #[.string s] w fun e w' => e = .returned (.tuple #[.string ⟨#[]⟩, .bool false]) ∧ w' = w := by
  by_cases h1 : s.size % 2 = 1
  · have b1 : ((s.size : Int) % 2 != 0) = true := by simp; omega
    go_enter Try.func6, Try.ntmps6
    go_wp2
    go_step3
    go_wp2
    try rw [Exit.noGoto_ret]
    go_ret2
    exact ⟨rfl, rfl⟩
  · have b1 : ((s.size : Int) % 2 != 0) = false := by simp; omega
    have h2 : 40000 < s.size := by omega
    go_enter Try.func6, Try.ntmps6
    go_wp2
    go_step3
    go_wp2
    try rw [Exit.noGoto_ret]
    go_ret2
    exact ⟨rfl, rfl⟩
namespace fnExactUnhex
theorem walk (a0 : ByteArray) (_w0 : a0.size ≤ maxLen) (w : World) :
    Calls Try.prog 3 #[.string a0] w fun e w' => e = .returned (.bool true) ∧ Below w.heap.size w w' := by
  by_cases h2 : 1048576 < a0.size
  · go_enter Try.func3, Try.ntmps3
    go_wp2
    go_ret
    exact ⟨rfl, Below.refl _ _⟩
  by_cases h : a0.size ≤ 40000 ∧ a0.size % 2 = 0
  · obtain ⟨a, b, hv⟩ := uhVal_form a0
    have H1 := fun w => specUnhex_in a0 w h.1 h.2
    have H2 := fun w => implUnhex_in a0 w h.1 h.2
    rw [hv] at H1 H2
    have G1 := hide H1
    have G2 := hide H2
    clear H1 H2 hv
    go_enter Try.func3, Try.ntmps3
    go_wp2_with (first | (go_at_call 5; refine (G1.out _).mono ?_; rintro e w1 ⟨rfl, hb1⟩) | (go_at_call 6; refine (G2.out _).mono ?_; rintro e w2 ⟨rfl, hb2⟩))
    go_ret
    exact ⟨rfl, hb1.trans (hb2.mono hb1.size)⟩
  · go_enter Try.func3, Try.ntmps3
    go_wp2_with (first | (go_at_call 5; refine (specUnhex_no _ _ (by omega) (by omega)).mono ?_; rintro e w' ⟨rfl, rfl⟩) | (go_at_call 6; refine (implUnhex_no _ _ (by omega) (by omega)).mono ?_; rintro e w' ⟨rfl, rfl⟩))
    go_ret
    exact ⟨rfl, Below.refl _ _⟩
end fnExactUnhex
end Go.Proofs.Ytipippblnbihcal
