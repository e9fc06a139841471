/- impl.FirstFree by its contract. -/
import Derived.Test.YtakkdfbcipbbjaaFl
namespace Go.Proofs.Ytakkdfbcipbbjaa.Kit
open Go.RowKit
/-- The place of the first false, and 1; 0 without one. -/
def ff : List Bool → Nat
  | [] => 0
  | b :: r => if b then (if ff r = 0 then 0 else ff r + 1) else 1
theorem ff_at (l : List Bool) (j : Nat) (h : j < l.length) (hf : l[j] = false) (ha : ∀ (i : Nat) (hi : i < j), l[i] = true) : ff l = j + 1 := by
  induction l generalizing j with
  | nil => simp at h
  | cons b r ih =>
    cases j with
    | zero => simp at hf; simp [ff, hf]
    | succ j =>
      have h0 : b = true := ha 0 (by omega)
      have h1 := ih j (by simpa using h) (by simpa using hf) (fun i hi => by have := ha (i + 1) (by omega); simpa using this)
      simp [ff, h0, h1]
theorem ff_none (l : List Bool) (ha : ∀ (i : Nat) (hi : i < l.length), l[i] = true) : ff l = 0 := by
  induction l with
  | nil => rfl
  | cons b r ih =>
    have h0 : b = true := ha 0 (by simp)
    have h1 := ih (fun i hi => by have := ha (i + 1) (by simp; omega); simpa using this)
    simp [ff, h0, h1]
theorem ff_or (l : List Bool) : (ff l = 0 ∧ ∀ (i : Nat) (hi : i < l.length), l[i] = true) ∨ ∃ (k : Nat) (hk : k < l.length), ff l = k + 1 ∧ l[k] = false ∧ ∀ (i : Nat) (hi : i < k), l[i] = true := by
  induction l with
  | nil => left; exact ⟨rfl, fun i hi => by simp at hi⟩
  | cons b r ih =>
    cases b with
    | false => right; exact ⟨0, by simp, rfl, rfl, fun i hi => by omega⟩
    | true =>
      rcases ih with ⟨e, h⟩ | ⟨k, hk, e, h1, h2⟩
      · left
        refine ⟨by simp [ff, e], fun i hi => ?_⟩
        cases i with
        | zero => rfl
        | succ i => simpa using h i (by simpa using hi)
      · right
        refine ⟨k + 1, by simpa using hk, by simp [ff, e], by simpa using h1, fun i hi => ?_⟩
        cases i with
        | zero => rfl
        | succ i => simpa using h2 i (by omega)
theorem ff_le (l : List Bool) : ff l ≤ l.length := by
  rcases ff_or l with ⟨e, _⟩ | ⟨k, hk, e, _⟩ <;> omega
end Go.Proofs.Ytakkdfbcipbbjaa.Kit
namespace Go.Proofs.Ytakkdfbcipbbjaa
open Go.RowKit Kit

set_option maxRecDepth 100000 in
set_option maxHeartbeats 1600000 in
theorem firstFree_any (v : Value) (l : List Bool) (w : World) (hv : RFl w v l) (hl : l.length ≤ 1048576) :
    Calls Try.prog 18 #[v] w fun e w' => e = .returned (.int .i64 (ff l : Nat)) ∧ w = w' := by
  obtain ⟨a, c, rfl, ha⟩ := hv
  have HA := hide ha
  clear ha
  go_enter Try.func18, Try.ntmps18
  go_wp2
  go_loopw [7] (fun i wr => ∃ j : Nat, j ≤ l.length ∧ i = .int .i64 j ∧ Hid (∀ (i : Nat) (h1 : i < j) (h2 : i < l.length), l[i] = true) ∧ w = wr) (fun i _ => l.length - (intOf i).toNat)
  case atStart => exact ⟨0, Nat.zero_le _, rfl, hide (fun i h1 h2 => by omega), rfl⟩
  case round =>
    obtain ⟨j, hj, rfl, HT, rfl⟩ := hrel
    by_cases hlt : j < l.length
    · obtain ⟨g, off, rfl, _, k1⟩ := HA.out j hlt
      obtain ⟨t, ht⟩ : ∃ t, l[j] = t := ⟨_, rfl⟩
      rw [ht] at k1
      have j0 : (0 : Int) ≤ (j : Int) := by omega
      have j1 : (j : Int) < (l.length : Int) := by omega
      cases t with
      | true =>
        have HT2 : Hid (∀ (i : Nat) (h1 : i < j + 1) (h2 : i < l.length), l[i] = true) := hide (fun i h1 h2 => by
          by_cases e : i = j
          · subst e; exact ht
          · exact HT.out i (by omega) h2)
        clear ht
        go_wp2
        go_roundw
        case rel => exact ⟨j + 1, by omega, by go_num, HT2, trivial⟩
        case measure => simp [intOf]; omega
      | false =>
        have HF := hide (ff_at l j hlt ht (fun i hi => HT.out i hi (by omega)))
        clear ht
        go_wp2
        go_ret
        exact ⟨ret_of (show Value.int .i64 _ = Value.int .i64 _ by rw [HF.out]; rfl), rfl⟩
    · have HF := hide (ff_none l (fun i hi => HT.out i (by omega) hi))
      go_wp2
      go_ret
      exact ⟨by rw [HF.out]; rfl, rfl⟩
end Go.Proofs.Ytakkdfbcipbbjaa
