
/- impl.BlockOk and spec.BlockOk by their contracts. -/
import Derived.Test.YtajollmmpdkhbaaCom
import Derived.Test.YtajollmmpdkhbaaKOkI
import Derived.Deep.QuietTactic
import Derived.BigQuiet
namespace Go.Proofs.Ytajollmmpdkhbaa.Kit
open Go.RowKit
theorem blockOk_dir (xs : List Sl) (t : ByteArray) (h : t.size = 0) : blockOk true xs t = slotsOk xs := by simp [blockOk, h]
theorem blockOk_dirt (xs : List Sl) (t : ByteArray) (h : t.size ≠ 0) : blockOk true xs t = false := by simp [blockOk, h]
theorem blockOk_text (xs : List Sl) (t : ByteArray) : blockOk false xs t = decide (xs.length = 0 ∧ t.size ≤ 16) := by simp [blockOk]
theorem take_at {xs : List Sl} {i j : Nat} (h : i < (xs.take j).length) : (xs.take j)[i] = xs[i]'(by simp at h; omega) := by simp
theorem pl_hit' {R : Int} {xs : List Sl} {name : ByteArray} {j k : Nat} (h : k < j) (hx : j < xs.length) (hp : R = plF name k ((xs.take j).drop k)) (hq : (xs[k]'(by omega)).1 = name) : R = (k : Int) :=
  pl_hit (by simp; omega) hp (by rw [take_at]; exact hq)
theorem pl_next' {R : Int} {xs : List Sl} {name : ByteArray} {j k : Nat} (h : k < j) (hx : j < xs.length) (hp : R = plF name k ((xs.take j).drop k)) (hq : ¬ (xs[k]'(by omega)).1 = name) : R = plF name (k + 1) ((xs.take j).drop (k + 1)) :=
  pl_next (by simp; omega) hp (by rw [take_at]; exact hq)
theorem pl_end' {R : Int} {xs : List Sl} {name : ByteArray} {j k : Nat} (h : j ≤ k) (hp : R = plF name k ((xs.take j).drop k)) : R = -1 :=
  pl_end (by simp; omega) hp
end Go.Proofs.Ytajollmmpdkhbaa.Kit
namespace Go.Proofs.Ytajollmmpdkhbaa
open Go.RowKit Kit
theorem slotsRight_any (v : Value) (xs : List Sl) (w : World) (hv : RSl w v xs) :
    Calls Try.prog 96 #[v] w fun e w' => e = .returned (.bool (slotsOk xs)) ∧ Below w.heap.size w w' := by
  by_cases hl : xs.length = 4
  · exact slotsRight_four v xs w hv hl
  · rw [ok_other hl]
    obtain ⟨a, c, rfl, -⟩ := hv
    generalize xs.length = n at *
    have h1 : ((n : Int) != 4) = true := by simp; omega
    go_enter Try.func96, Try.ntmps96
    go_wp2
    go_ret
    exact ⟨rfl, Below.refl _ _⟩
theorem implOk_anyK (d : Bool) (v : Value) (t : ByteArray) (xs : List Sl) (w : World) (hv : RSl w v xs) :
    Calls Try.prog 76 #[.agg #[.bool d, v, .string t]] w fun e w' => e = .returned (.bool (blockOk d xs t)) ∧ Below w.heap.size w w' := by
  cases d with
  | true =>
    by_cases h : t.size = 0
    · rw [blockOk_dir xs t h]
      have he := emp_true h
      have HV := hide hv
      have C := hide (fun W h => slotsRight_any v xs W h)
      obtain ⟨a, c, rfl, -⟩ := hv
      obtain ⟨R, hR⟩ : ∃ R, slotsOk xs = R := ⟨_, rfl⟩
      rw [hR] at C ⊢
      clear hR h
      go_enter Try.func76, Try.ntmps76
      go_wp2_with (go_at_call 96; refine (C.out _ (HV.out.alloc _)).mono ?_; rintro e w1 ⟨rfl, hb1⟩)
      go_ret
      exact ⟨rfl, ((Below.refl _ w).alloc (Nat.le_refl _) _).trans (hb1.mono (by simp))⟩
    · rw [blockOk_dirt xs t h]
      have he := emp_false (s := t) (by omega)
      obtain ⟨a, c, rfl, -⟩ := hv
      go_enter Try.func76, Try.ntmps76
      go_wp2
      go_ret
      exact ⟨rfl, by go_grown⟩
  | false =>
    rw [blockOk_text]
    obtain ⟨a, c, rfl, -⟩ := hv
    generalize xs.length = n at *
    by_cases h : n = 0
    · subst h
      go_enter Try.func76, Try.ntmps76
      go_wp2
      go_ret
      exact ⟨ret_bool (by simp; omega), by go_grown⟩
    · have h1 : ((n : Int) == 0) = false := by simp; omega
      go_enter Try.func76, Try.ntmps76
      go_wp2
      go_ret
      exact ⟨ret_bool (by simp [h]), by go_grown⟩
theorem specOk_plain (d : Bool) (v : Value) (t : ByteArray) (xs : List Sl) (w : World) (hv : RSl w v xs) (h : d = false ∨ xs.length ≠ 4 ∨ t.size ≠ 0) :
    Calls Try.prog 38 #[.agg #[.bool d, v, .string t]] w fun e w' => e = .returned (.bool (blockOk d xs t)) ∧ Below w.heap.size w w' := by
  cases d with
  | false =>
    rw [blockOk_text]
    obtain ⟨a, c, rfl, -⟩ := hv
    generalize xs.length = n at *
    by_cases h : n = 0
    · subst h
      go_enter Try.func38, Try.ntmps38
      go_wp2
      go_ret
      exact ⟨ret_bool (by simp; omega), by go_grown⟩
    · have h1 : ((n : Int) == 0) = false := by simp; omega
      go_enter Try.func38, Try.ntmps38
      go_wp2
      go_ret
      exact ⟨ret_bool (by simp), by go_grown⟩
  | true =>
    have e1 : blockOk true xs t = false := by
      by_cases h2 : t.size = 0
      · rw [blockOk_dir xs t h2]; exact ok_other (by simpa [h2] using h)
      · exact blockOk_dirt xs t h2
    rw [e1]
    obtain ⟨a, c, rfl, -⟩ := hv
    generalize xs.length = n at *
    by_cases h4 : n = 4
    · subst h4
      have he := emp_false (s := t) (by rcases h with h | h | h; cases h; exact absurd rfl h; omega)
      go_enter Try.func38, Try.ntmps38
      go_wp2
      go_ret
      exact ⟨rfl, by go_grown⟩
    · have h1 : ((n : Int) != 4) = true := by simp; omega
      go_enter Try.func38, Try.ntmps38
      go_wp2
      go_ret
      exact ⟨rfl, by go_grown⟩
end Go.Proofs.Ytajollmmpdkhbaa
