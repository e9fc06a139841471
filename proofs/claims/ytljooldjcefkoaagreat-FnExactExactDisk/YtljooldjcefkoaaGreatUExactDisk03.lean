/- Texts of the proof, bundled: Em. -/
import Derived.Test.YtljooldjcefkoaaGreatUExactDisk02
/- What is exact, told in two ways. No Go function is spoken of. -/
namespace Go.Proofs.YtljooldjcefkoaaGreat
open Go.RowKit Kit
/-- How many inodes of some kind are not exact. -/
def exN (is : List Ino) (bs : List Blk) : Nat := (kndL is).countP fun i => !(inoI is bs (i - 1).toNat)
theorem reach_root {is : List Ino} {bs : List Blk} (h : RD is bs) : (reachL is bs).contains 1 = true := by
  rw [List.contains_iff_mem]
  exact (mem_rchL (edge_iff is bs) (edge_in h)).2 (Rch.root _)
theorem reach_kind {is : List Ino} {bs : List Blk} (h : RD is bs) {i : Int} (hi : (reachL is bs).contains i = true) : i = 1 ∨ ¬ kindAt is i = 0 := by
  rw [List.contains_iff_mem] at hi
  have hr : Rch (edge is bs) i := (mem_rchL (edge_iff is bs) (edge_in h)).1 hi
  exact hr (fun i => i = 1 ∨ ¬ kindAt is i = 0) (.inl rfl) (fun _ k _ e => by obtain ⟨_, _, _, hk⟩ := e; exact .inr hk)
theorem eq_of_getD {a : List Bool} {n : Nat} {f : Nat → Bool} (ha : a.length = n) : a = (List.range n).map f ↔ ∀ j, j < n → a.getD j false = f j := by
  constructor
  · intro e j hj
    rw [e, getD_at false (by simpa using hj)]
    simp
  · intro h
    apply List.ext_getElem (by rw [ha]; simp)
    intro j h1 h2
    have := h j (by rw [← ha]; exact h1)
    rw [getD_at false h1] at this
    rw [this]
    simp
theorem inoS_iff {ys : List Bool} {is : List Ino} {bs : List Blk} (j : Nat) : inoS ys is bs j = true ↔ (((reachL is bs).contains ((j : Int) + 1) = true ∨ kindAt is ((j : Int) + 1) = 0) ∧ ys.getD j false = (reachL is bs).contains ((j : Int) + 1) ∧ (j = 0 → lnkAt is j = 1 ∧ linksN is bs ((j : Int) + 1) = 0) ∧ (¬ j = 0 → ((reachL is bs).contains ((j : Int) + 1) = true → lnkAt is j = (linksN is bs ((j : Int) + 1) : Int)) ∧ (kindAt is ((j : Int) + 1) = 2 → linksN is bs ((j : Int) + 1) = 1))) := by
  unfold inoS
  exact decide_eq_true_iff
theorem inoI_iff {is : List Ino} {bs : List Blk} (j : Nat) : inoI is bs j = true ↔ (j = 0 → lnkAt is j = 1 ∧ linksN is bs ((j : Int) + 1) = 0) ∧ (¬ j = 0 → (reachL is bs).contains ((j : Int) + 1) = true ∧ lnkAt is j = (linksN is bs ((j : Int) + 1) : Int) ∧ (kindAt is ((j : Int) + 1) = 2 → linksN is bs ((j : Int) + 1) = 1)) := by
  unfold inoI
  by_cases e : j = 0
  · rw [if_pos e]
    simp only [Bool.and_eq_true, decide_eq_true_eq]
    exact ⟨fun h => ⟨fun _ => h, fun h' => absurd e h'⟩, fun h => h.1 e⟩
  · rw [if_neg e]
    simp only [Bool.and_eq_true, Bool.or_eq_true, decide_eq_true_eq]
    refine ⟨fun h => ⟨fun h' => absurd h' e, fun _ => ⟨h.1.1, h.1.2, fun hk => h.2.resolve_left (fun hn => hn hk)⟩⟩, fun h => ?_⟩
    obtain ⟨h1, h2, h3⟩ := h.2 e
    refine ⟨⟨h1, h2⟩, ?_⟩
    by_cases hk : kindAt is ((j : Int) + 1) = 2
    · exact .inr (h3 hk)
    · exact .inl hk
theorem exact_two {xs ys : List Bool} {is : List Ino} {bs : List Blk} (hX : RX xs ys is bs) (hk1 : kindAt is 1 = 2) : exactS xs ys is bs = (decide (xs = fB is bs) && decide (ys = fI is bs) && decide (exN is bs = 0)) := by
  have hB : (List.range 16).all (bitS xs is bs) = decide (xs = fB is bs) := by
    rw [Bool.eq_iff_iff, List.all_eq_true, decide_eq_true_eq]
    unfold fB
    rw [eq_of_getD hX.bx]
    exact ⟨fun h p hp => of_decide_eq_true (h p (List.mem_range.2 hp)), fun h p hp => decide_eq_true (h p (List.mem_range.1 hp))⟩
  have hI : (List.range 8).all (inoS ys is bs) = (decide (ys = fI is bs) && decide (exN is bs = 0)) := by
    rw [Bool.eq_iff_iff, List.all_eq_true, Bool.and_eq_true, decide_eq_true_eq, decide_eq_true_eq]
    have hn : exN is bs = 0 ↔ ∀ j : Nat, j < 8 → ¬ kindAt is ((j : Int) + 1) = 0 → inoI is bs j = true := by
      unfold exN
      rw [List.countP_eq_zero]
      constructor
      · intro h j hj hk
        have := h ((j : Int) + 1) (mem_kndL.2 ⟨by omega, hk⟩)
        rw [show ((j : Int) + 1 - 1).toNat = j by omega] at this
        simpa using this
      · intro h i hi
        obtain ⟨h1, h2⟩ := mem_kndL.1 hi
        have := h (i - 1).toNat (by omega) (by rw [show (((i - 1).toNat : Nat) : Int) + 1 = i by omega]; exact h2)
        rw [this]
        decide
    rw [hn]
    unfold fI
    rw [eq_of_getD hX.y8]
    constructor
    · intro h
      refine ⟨fun j hj => ((inoS_iff j).1 (h j (List.mem_range.2 hj))).2.1, fun j hj hk => ?_⟩
      obtain ⟨h1, h2, h3, h4⟩ := (inoS_iff j).1 (h j (List.mem_range.2 hj))
      have hr := h1.resolve_right hk
      exact (inoI_iff j).2 ⟨h3, fun e => ⟨hr, (h4 e).1 hr, (h4 e).2⟩⟩
    · rintro ⟨h1, h2⟩ j hj
      have hj := List.mem_range.1 hj
      rw [inoS_iff]
      by_cases hk : kindAt is ((j : Int) + 1) = 0
      · have hj0 : ¬ j = 0 := fun e => by
          subst e
          rw [show ((0 : Nat) : Int) + 1 = 1 from rfl, hk1] at hk
          cases hk
        have hr : ¬ (reachL is bs).contains ((j : Int) + 1) = true := fun hr => by
          rcases reach_kind hX.r hr with e | e
          · omega
          · exact e hk
        refine ⟨.inr hk, h1 j hj, fun e => absurd e hj0, fun _ => ⟨fun e => absurd e hr, fun e => ?_⟩⟩
        rw [hk] at e
        cases e
      · obtain ⟨h3, h4⟩ := (inoI_iff j).1 (h2 j hj hk)
        have hr : (reachL is bs).contains ((j : Int) + 1) = true := by
          by_cases e : j = 0
          · subst e
            exact reach_root hX.r
          · exact (h4 e).1
        exact ⟨.inl hr, h1 j hj, h3, fun e => ⟨fun _ => (h4 e).2.1, (h4 e).2.2⟩⟩
  unfold exactS
  rw [hB, hI]
  cases decide (xs = fB is bs) <;> cases decide (ys = fI is bs) <;> cases decide (exN is bs = 0) <;> rfl
theorem exN_le (is : List Ino) (bs : List Blk) : exN is bs ≤ 8 := Nat.le_trans List.countP_le_length (kndL_len is)
end Go.Proofs.YtljooldjcefkoaaGreat
