/- spec.ShowTree by its contract: what is shown of a list of nodes. -/
import Derived.Test.YtklmaeepoijecaaFs
namespace Go.Proofs.Ytklmaeepoijecaa
open Go.RowKit Kit
/-- Behind what was shown, a node. -/
def showB (a : ByteArray) (x : Nd) : ByteArray := bif x.2.1 then a ++ x.1 ++ ⟨#[47, 10]⟩ else a ++ x.1 ++ ⟨#[32]⟩ ++ x.2.2.1 ++ x.2.2.2 ++ ⟨#[10]⟩
def showS (xs : List Nd) : ByteArray := xs.foldl showB ⟨#[]⟩
theorem showS_step (xs : List Nd) (j : Nat) (h : j < xs.length) : showS (xs.take (j + 1)) = showB (showS (xs.take j)) xs[j] := by
  rw [List.take_succ_eq_append_getElem h]
  simp only [showS, List.foldl_append, List.foldl_cons, List.foldl_nil]
theorem showB_size (a : ByteArray) (x : Nd) : (showB a x).size ≤ a.size + (x.1.size + x.2.2.1.size + x.2.2.2.size) + 2 := by
  obtain ⟨p, d, s, t⟩ := x
  cases d
  · simp only [showB, cond_false, ByteArray.size_append]
    have e1 : (⟨#[32]⟩ : ByteArray).size = 1 := rfl
    have e2 : (⟨#[10]⟩ : ByteArray).size = 1 := rfl
    omega
  · simp only [showB, cond_true, ByteArray.size_append]
    have e1 : (⟨#[47, 10]⟩ : ByteArray).size = 2 := rfl
    omega
theorem showS_size (xs : List Nd) : ∀ j, j ≤ xs.length → (showS (xs.take j)).size ≤ szs (xs.take j) + 2 * j := by
  intro j
  induction j with
  | zero => intro _; exact Nat.zero_le _
  | succ j ih =>
    intro h
    rw [showS_step xs j h, szs_step xs j h]
    have := showB_size (showS (xs.take j)) xs[j]
    have := ih (by omega)
    omega
theorem szs_le (xs : List Nd) (j : Nat) : szs (xs.take j) ≤ szs xs := by
  have : szs xs = szs (xs.take j) + szs (xs.drop j) := by
    rw [← show (szs (xs.take j ++ xs.drop j)) = szs (xs.take j) + szs (xs.drop j) by simp only [szs, List.map_append, List.sum_append], List.take_append_drop]
  omega
set_option maxRecDepth 100000 in
set_option maxHeartbeats 1600000 in
theorem specShow_any (v : Value) (xs : List Nd) (w : World) (hv : RNd w v xs) (hl : xs.length + szs xs ≤ 1048576) :
    Calls Try.prog 5 #[v] w fun e w' => e = .returned (.string (showS xs)) ∧ Below w.heap.size w w' := by
  obtain ⟨a, c, rfl, hc⟩ := hv
  have HC := hide hc
  have HL := hide hl
  have hl1 : (xs.length : Int) ≤ 1048576 := by omega
  have hl2 : szs xs ≤ 1048576 := by omega
  clear hc hl
  go_enter Try.func5, Try.ntmps5
  go_wp2
  go_loopw [3, 4] (fun x i wr => ∃ (j : Nat) (s : ByteArray), j ≤ xs.length ∧ i = .int .i64 j ∧ x = .string s ∧ Hid (s = showS (xs.take j)) ∧ ∃ q, wr = w.drewN q) (fun _ i _ => xs.length - (intOf i).toNat)
  case atStart => exact ⟨0, _, Nat.zero_le _, rfl, rfl, hide (by simp [showS]), 0, rfl⟩
  case round =>
    obtain ⟨j, s, hj, rfl, rfl, HS, q, rfl⟩ := hrel
    have hs : s.size ≤ 4194304 := by
      have h1 := showS_size xs j hj
      have h2 := szs_le xs j
      rw [HS.out]
      omega
    by_cases hlt : j < xs.length
    · obtain ⟨g, off, rfl, hg, k0, k1, k2, k3⟩ := HC.out j hlt
      have HP := hide (showS_step xs j hlt)
      have h3 : xs[j].1.size + xs[j].2.2.1.size + xs[j].2.2.2.size ≤ 1048576 := by
        have h4 := szs_step xs j hlt
        have h5 := szs_le xs (j + 1)
        omega
      obtain ⟨⟨x0, x1, x2, x3⟩, hx⟩ : ∃ x, xs[j] = x := ⟨_, rfl⟩
      rw [hx] at k0 k1 k2 k3 h3 HP
      have j0 : (0 : Int) ≤ (j : Int) := by omega
      have j1 : (j : Int) < (xs.length : Int) := by omega
      clear hx
      simp only at k0 k1 k2 k3 h3
      cases x1 with
      | true =>
        go_wp2
        go_roundw
        case rel => exact ⟨j + 1, _, by omega, by go_num, rfl, hide (by rw [HP.out, ← HS.out]; rfl), _, rfl⟩
        case measure => simp [intOf]; omega
      | false =>
        go_wp2
        go_quiet (fail)
        go_wp2
        go_roundw
        case rel => exact ⟨j + 1, _, by omega, by go_num, rfl, hide (by rw [HP.out, ← HS.out]; rfl), _, rfl⟩
        case measure => simp [intOf]; omega
    · have he : j = xs.length := by omega
      subst he
      have e := HS.out
      rw [List.take_of_length_le (Nat.le_refl _)] at e
      subst e
      go_wp2
      go_ret
      exact ⟨rfl, below_drewN (Below.refl _ _) _⟩
end Go.Proofs.Ytklmaeepoijecaa
