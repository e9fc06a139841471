
/- impl.InodeNew by its contract. -/
import Derived.Test.YtajollmmpdkhbaaCom
import Derived.Test.YtajollmmpdkhbaaIRec
namespace Go.Proofs.Ytajollmmpdkhbaa
open Go.RowKit Kit
/-- What is known of the block of a result that was laid ahead of a call. -/
theorem res_cells {w1 : World} {b : Nat} (K : w1.heap[b]? = some (.cells #[.int .i64 0, .int .i64 0, .slice none 0 0] 49 (0, 0))) :
    w1.cell? ⟨b, 0, none⟩ = some (.int .i64 0) ∧ w1.cell? ⟨b, 1, none⟩ = some (.int .i64 0) ∧ w1.cell? ⟨b, 2, none⟩ = some (.slice none 0 0) ∧ w1.frozen? ⟨b, 0, none⟩ = false ∧ w1.frozen? ⟨b, 1, none⟩ = false ∧ w1.frozen? ⟨b, 2, none⟩ = false ∧ b < w1.heap.size := by
  refine ⟨by simp [World.cell?, K], by simp [World.cell?, K], by simp [World.cell?, K], by simp [World.frozen?, K], by simp [World.frozen?, K], by simp [World.frozen?, K], (Array.getElem?_eq_some_iff.1 K).1⟩
theorem new_of_links {k l : Int} {e : Ending} {v : Value} (h : newLinks k = l) (he : e = .returned (.agg #[.int .i64 k, .int .i64 l, v])) : e = .returned (.agg #[.int .i64 k, .int .i64 (newLinks k), v]) := by rw [h, he]

set_option maxHeartbeats 800000 in
theorem implNew_anyI (k : Int) (w : World) :
    Calls Try.prog 23 #[.int .i64 k] w fun e w' => ∃ v, e = .returned (.agg #[.int .i64 k, .int .i64 (newLinks k), v]) ∧ ROwns w' w.heap.size 3 v (ic [0, 0]) ∧ Below w.heap.size w w' := by
  obtain ⟨nl, hnl⟩ : ∃ l, newLinks k = l := ⟨_, rfl⟩
  rw [hnl]
  by_cases h : k = 0
  · have e1 : nl = 0 := by rw [← hnl]; simp [newLinks, h]
    subst h e1
    clear hnl
    go_enter Try.func23, Try.ntmps23
    go_wp2_with fail
    refine (rec_any _ _ _ _ _).mono ?_
    rintro e w1 ⟨v, rfl, O1, B1⟩
    obtain ⟨q0, q1, q2, z0, z1, z2, hlt⟩ := res_cells (w1 := w1) (b := w.heap.size) ((B1.block _ (by simp; omega)).trans (heap_new2 w _ _))
    obtain ⟨a1, c1, rfl⟩ := O1.form2
    have HO := hide O1
    have HB := hide B1
    clear O1 B1
    go_wp2
    refine bodyPost_ret (v := .agg #[.int .i64 0, .int .i64 0, .slice a1 2 c1]) (by simp [results, go_sem, q0, q1, q2]) rfl ⟨_, rfl, ?_, ?_⟩
    · exact ((((HO.out.setCell_other (by simp; omega) _).setCell_other (by simp; omega) _).setCell_other (by simp; omega) _).base_le (by simp; omega))
    · have hB : Below w.heap.size w w1 := (((Below.refl _ w).alloc (Nat.le_refl _) _).alloc (by simp) _).trans (HB.out.mono (by simp; omega))
      exact ((hB.setCell (Nat.le_refl _) _).setCell (Nat.le_refl _) _).setCell (Nat.le_refl _) _
  · have h0 : (k == 0) = false := by simpa using h
    have h1 : (k != 0) = true := by simpa using h
    have e1 : nl = 1 := by rw [← hnl]; simp [newLinks, h]
    subst e1
    clear hnl
    go_enter Try.func23, Try.ntmps23
    go_wp2_with fail
    refine (rec_any _ _ _ _ _).mono ?_
    rintro e w1 ⟨v, rfl, O1, B1⟩
    obtain ⟨q0, q1, q2, z0, z1, z2, hlt⟩ := res_cells (w1 := w1) (b := w.heap.size) ((B1.block _ (by simp; omega)).trans (heap_new2 w _ _))
    obtain ⟨a1, c1, rfl⟩ := O1.form2
    have HO := hide O1
    have HB := hide B1
    clear O1 B1
    go_wp2
    refine bodyPost_ret (v := .agg #[.int .i64 k, .int .i64 1, .slice a1 2 c1]) (by simp [results, go_sem, q0, q1, q2]) rfl ⟨_, rfl, ?_, ?_⟩
    · exact ((((HO.out.setCell_other (by simp; omega) _).setCell_other (by simp; omega) _).setCell_other (by simp; omega) _).base_le (by simp; omega))
    · have hB : Below w.heap.size w w1 := (((Below.refl _ w).alloc (Nat.le_refl _) _).alloc (by simp) _).trans (HB.out.mono (by simp; omega))
      exact ((hB.setCell (Nat.le_refl _) _).setCell (Nat.le_refl _) _).setCell (Nat.le_refl _) _
end Go.Proofs.Ytajollmmpdkhbaa
