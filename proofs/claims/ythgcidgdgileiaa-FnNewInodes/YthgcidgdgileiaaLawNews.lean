/- The walk of laws.FnNewInodes: it returns true at every code. -/
import Derived.Test.YthgcidgdgileiaaArg
import Derived.Test.YthgcidgdgileiaaPlaces
namespace Go.Proofs.Ythgcidgdgileiaa.fnNewInodes
open Go.RowKit Kit
theorem big_no (a : Option Addr) (len cap : Nat) (w : World) (h : len ≤ 1048576) : Calls Try.prog 9 #[.slice a len cap] w fun e w' => e = .returned (.bool false) ∧ w = w' := by
  have b0 : decide ((1048576 : Int) < (len : Int)) = false := by simp; omega
  go_enter Try.func9, Try.ntmps9
  go_wp2
  go_ret
  exact ⟨rfl, rfl⟩
theorem big_yes (a : Option Addr) (len cap : Nat) (w : World) (h : ¬ len ≤ 1048576) : Calls Try.prog 9 #[.slice a len cap] w fun e w' => e = .returned (.bool true) ∧ w = w' := by
  have b0 : decide ((1048576 : Int) < (len : Int)) = true := by simp; omega
  go_enter Try.func9, Try.ntmps9
  go_wp2
  go_ret
  exact ⟨rfl, rfl⟩
/-- What is known of the new inode of a kind below 3. -/
theorem new_ok (k : Nat) (h : k < 3) : ∃ nl : Nat, newLinks (k : Int) = nl ∧ nl < 2 ∧ (((k : Int) == 0) = true → nl = 0) ∧ (((k : Int) == 0) = false → nl = 1) ∧ okL k nl [0, 0] = true ∧ textL k nl [0, 0] = quadB k nl 0 0 := by
  match k, h with
  | 0, _ => exact ⟨0, rfl, by decide, fun _ => rfl, fun h => by simp at h, rfl, rfl⟩
  | 1, _ => exact ⟨1, rfl, by decide, fun h => by simp at h, fun _ => rfl, rfl, rfl⟩
  | 2, _ => exact ⟨1, rfl, by decide, fun h => by simp at h, fun _ => rfl, rfl, rfl⟩

set_option maxHeartbeats 1600000 in
theorem walk (a : Option Addr) (len cap : Nat) (w : World) (hcode : CodeIs w a len) (_hl : len ≤ maxLen) :
    Calls Try.prog 4 #[.slice a len cap] w fun e w' => e = .returned (.bool true) ∧ Below w.heap.size w w' := by
  have HO := hide hcode
  clear hcode
  by_cases hlen : len ≤ 1048576
  · go_enter Try.func4, Try.ntmps4
    go_wp2_with fail
    refine (big_no a len cap w hlen).mono ?_
    rintro e w1 ⟨rfl, rfl⟩
    go_wp2_with fail
    refine (drawPlaces_any w a len cap HO.out hlen).mono ?_
    rintro e w1 ⟨v, rfl, ⟨g, cap1, x, y, rfl, hg, hx, -, c0, -⟩, B1⟩
    have HB1 := hide B1
    clear B1
    go_wp2_with fail
    generalize hK : (x : Int) % 3 = K
    obtain ⟨k, rfl, hk3⟩ : ∃ k : Nat, K = k ∧ k < 3 := ⟨x % 3, by omega, by omega⟩
    clear hK hx
    obtain ⟨nl, h1, h2, h3, h4, h5, h6⟩ := new_ok k hk3
    have C1 := hide (implNew_any k)
    have C2 := hide (implText_any k nl [0, 0])
    have C3 := hide (implOk_any k nl [0, 0])
    rw [h1] at C1
    rw [h5, h6] at C2
    rw [h5] at C3
    have H34 := hide (And.intro h3 h4)
    clear h1 h3 h4 h5 h6
    refine (C1.out _).mono ?_
    rintro e w2 ⟨v2, rfl, O2, B2⟩
    obtain ⟨s2, t2, rfl⟩ := O2.form2
    have HO2 := hide O2
    have HB2 := hide (HB1.out.trans (B2.mono HB1.out.size))
    clear O2 B2 HB1 c0 C1 hg
    go_wp2_with fail
    refine (C2.out _ _ (HO2.out.alloc _).rints).mono ?_
    rintro e w3 ⟨rfl, B3⟩
    have X3 : AtT 26 w3 w2.heap.size k nl (.slice s2 2 t2) := (AtT.new 26 w2 k nl _).below B3 (by simp)
    have O3 := (HO2.out.alloc _).below B3 (Nat.le_refl _)
    have b3 := (HB2.out.alloc HB2.out.size _).trans (B3.mono (by have := HB2.out.size; simp; omega))
    obtain ⟨q0, q1, q2⟩ := X3.cells
    have HX3 := hide X3
    have HO3 := hide O3
    have HB3 := hide b3
    clear B3 X3 O3 b3 HO2 HB2 C2
    by_cases hz : ((k : Int) == 0) = true
    · have e1 := H34.out.1 hz
      subst e1
      clear H34
      go_wp2_with fail
      refine (C3.out _ _ HO3.out.rints).mono ?_
      rintro e w4 ⟨rfl, B4⟩
      have X4 := HX3.out.below B4 HX3.out.lt
      have O4 := HO3.out.below B4 (Nat.le_refl _)
      have b4 := HB3.out.trans (B4.mono HB3.out.size)
      obtain ⟨p0, p1, p2⟩ := X4.cells
      have HO4 := hide O4
      have HB4 := hide b4
      have hco := conv_quad k 0 0 0 (by omega) (by omega) (by omega) (by omega)
      clear B4 X4 O4 b4 HX3 HO3 HB3 C3 q0 q1 q2
      go_wp2_with fail
      refine (sameI_same _ _ [0, 0] _ (HO4.out.alloc _).rints ?_ (by decide)).mono ?_
      · have := (ROwns.lit w4 w4.heap.size 3 #[.int .i64 0, .int .i64 0] (Nat.le_refl _) (by simp [maxLen]))
        exact ROwns.rints (xs := [0, 0]) this
      rintro e w5 ⟨rfl, B5⟩
      have b5 := (HB4.out.alloc HB4.out.size _).trans (B5.mono (by have := HB4.out.size; simp; omega))
      have HB5 := hide b5
      clear B5 b5 HO4 HB4 p0 p1 p2
      go_wp2
      go_ret
      exact ⟨rfl, HB5.out.alloc HB5.out.size _⟩
    · have hz' : ((k : Int) == 0) = false := by simpa using hz
      have e1 := H34.out.2 hz'
      subst e1
      clear H34 hz
      go_wp2_with fail
      refine (C3.out _ _ HO3.out.rints).mono ?_
      rintro e w4 ⟨rfl, B4⟩
      have X4 := HX3.out.below B4 HX3.out.lt
      have O4 := HO3.out.below B4 (Nat.le_refl _)
      have b4 := HB3.out.trans (B4.mono HB3.out.size)
      obtain ⟨p0, p1, p2⟩ := X4.cells
      have HO4 := hide O4
      have HB4 := hide b4
      have hco := conv_quad k 1 0 0 (by omega) (by omega) (by omega) (by omega)
      clear B4 X4 O4 b4 HX3 HO3 HB3 C3 q0 q1 q2
      go_wp2_with fail
      refine (sameI_same _ _ [0, 0] _ (HO4.out.alloc _).rints ?_ (by decide)).mono ?_
      · have := (ROwns.lit w4 w4.heap.size 3 #[.int .i64 0, .int .i64 0] (Nat.le_refl _) (by simp [maxLen]))
        exact ROwns.rints (xs := [0, 0]) this
      rintro e w5 ⟨rfl, B5⟩
      have b5 := (HB4.out.alloc HB4.out.size _).trans (B5.mono (by have := HB4.out.size; simp; omega))
      have HB5 := hide b5
      clear B5 b5 HO4 HB4 p0 p1 p2
      go_wp2
      go_ret
      exact ⟨rfl, HB5.out.alloc HB5.out.size _⟩
  · go_enter Try.func4, Try.ntmps4
    go_wp2_with fail
    refine (big_yes a len cap w hlen).mono ?_
    rintro e w1 ⟨rfl, rfl⟩
    go_wp2
    go_ret
    exact ⟨rfl, Below.refl _ _⟩
end Go.Proofs.Ythgcidgdgileiaa.fnNewInodes
