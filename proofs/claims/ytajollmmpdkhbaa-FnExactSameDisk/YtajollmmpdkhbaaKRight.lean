
/- (impl.Slot).right by its contract. -/
import Derived.Test.YtajollmmpdkhbaaCom
import Derived.Test.YtajollmmpdkhbaaKPlace
import Derived.Test.YtajollmmpdkhbaaKAt
namespace Go.Proofs.Ytajollmmpdkhbaa.Kit
open Go.RowKit
/-- A slot is right by itself. -/
def slotOk (s : Sl) : Bool := decide ((s.1.size = 0 ∧ s.2 = 0) ∨ (nameOk s.1 = true ∧ 1 ≤ s.2 ∧ s.2 ≤ 8))
theorem slotOk_true {t : ByteArray} {z : Int} (h : (t.size = 0 ∧ z = 0) ∨ (nameOk t = true ∧ 1 ≤ z ∧ z ≤ 8)) : true = slotOk (t, z) := (decide_eq_true h).symm
theorem slotOk_false {t : ByteArray} {z : Int} (h : ¬ ((t.size = 0 ∧ z = 0) ∨ (nameOk t = true ∧ 1 ≤ z ∧ z ≤ 8))) : false = slotOk (t, z) := (decide_eq_false h).symm
theorem size_zero {t : ByteArray} (h : t.size = 0) : t = ⟨#[]⟩ := ByteArray.ext (Array.eq_empty_of_size_eq_zero h)
end Go.Proofs.Ytajollmmpdkhbaa.Kit
namespace Go.Proofs.Ytajollmmpdkhbaa
open Go.RowKit Kit
set_option maxHeartbeats 800000 in
theorem right_anyK (t : ByteArray) (z : Int) (w : World) :
    Calls Try.prog 105 #[.agg #[.string t, .int .i64 z]] w fun e w' => e = .returned (.bool (slotOk (t, z))) ∧ Below w.heap.size w w' := by
  obtain ⟨r, hr⟩ : ∃ r, slotOk (t, z) = r := ⟨_, rfl⟩
  have HR := hide hr
  rw [hr]
  clear hr
  by_cases h : t.size = 0 ∧ z = 0
  · obtain ⟨h0, rfl⟩ := h
    have := size_zero h0
    subst this
    have e1 : r = true := by rw [← HR.out]; rfl
    subst e1
    go_enter Try.func105, Try.ntmps105
    go_wp2
    go_ret
    exact ⟨rfl, by go_grown⟩
  · obtain ⟨n, hn⟩ : ∃ n, nameOk t = n := ⟨_, rfl⟩
    have C := hide (fun W => implName_any t W)
    rw [hn] at C
    have HN := hide hn
    have HH := hide h
    have he : ¬ (t.toList = [] ∧ z = 0) := fun e => h ⟨by have h2 : t.data.toList.length = t.size := rfl; rw [← h2, ← ByteArray.toList_eq, e.1]; rfl, e.2⟩
    have fin : ∀ b : Bool, (b = true ↔ (n = true ∧ 1 ≤ z ∧ z ≤ 8)) → b = r := by
      intro b hb
      rw [← HR.out]
      cases b with
      | true => exact slotOk_true (.inr ⟨by rw [HN.out]; exact (hb.1 rfl).1, (hb.1 rfl).2⟩)
      | false => exact slotOk_false (by rintro (h1 | h1); exact HH.out h1; rw [HN.out] at h1; have := hb.2 h1; cases this)
    have HF := hide fin
    have HE := hide he
    clear hn h fin he
    cases n with
    | true =>
      go_enter Try.func105, Try.ntmps105
      go_wp2_with (go_at_call 109; refine (C.out _).mono ?_; rintro e w1 ⟨rfl, hb1⟩; obtain ⟨q0, q1, q2⟩ := AtC.two ((AtC.new w 94 #[.string t, .int .i64 z]).over hb1))
      all_goals first | exact absurd ⟨‹t.toList = []›, ‹z = 0›⟩ HE.out | (go_ret; refine ⟨ret_bool (HF.out _ ?_), ((Below.refl _ w).alloc (Nat.le_refl _) _).trans (hb1.mono (by simp))⟩; simp; try omega)
    | false =>
      go_enter Try.func105, Try.ntmps105
      go_wp2_with (go_at_call 109; refine (C.out _).mono ?_; rintro e w1 ⟨rfl, hb1⟩)
      all_goals first | exact absurd ⟨‹t.toList = []›, ‹z = 0›⟩ HE.out | (go_ret; refine ⟨ret_bool (HF.out _ ?_), ((Below.refl _ w).alloc (Nat.le_refl _) _).trans (hb1.mono (by simp))⟩; simp; try omega)
end Go.Proofs.Ytajollmmpdkhbaa
