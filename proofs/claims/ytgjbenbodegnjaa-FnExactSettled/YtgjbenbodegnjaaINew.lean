
/- impl.InodeNew by its contract. -/
import Derived.Test.YtgjbenbodegnjaaCom
import Derived.Test.YtgjbenbodegnjaaIRec
namespace Go.Proofs.Ytgjbenbodegnjaa
open Go.RowKit Kit
/-- What is known of the block of a result that was laid ahead of a call. -/
theorem res_cells {w1 : World} {b : Nat} (K : w1.heap[b]? = some (.cells #[.int .i64 0, .int .i64 0, .slice none 0 0] 80 (0, 0))) :
    w1.cell? ⟨b, 0, none⟩ = some (.int .i64 0) ∧ w1.cell? ⟨b, 1, none⟩ = some (.int .i64 0) ∧ w1.cell? ⟨b, 2, none⟩ = some (.slice none 0 0) ∧ w1.frozen? ⟨b, 0, none⟩ = false ∧ w1.frozen? ⟨b, 1, none⟩ = false ∧ w1.frozen? ⟨b, 2, none⟩ = false ∧ b < w1.heap.size := by
  refine ⟨by simp [World.cell?, K], by simp [World.cell?, K], by simp [World.cell?, K], by simp [World.frozen?, K], by simp [World.frozen?, K], by simp [World.frozen?, K], (Array.getElem?_eq_some_iff.1 K).1⟩
theorem new_of_links {k l : Int} {e : Ending} {v : Value} (h : newLinks k = l) (he : e = .returned (.agg #[.int .i64 k, .int .i64 l, v])) : e = .returned (.agg #[.int .i64 k, .int .i64 (newLinks k), v]) := by rw [h, he]

end Go.Proofs.Ytgjbenbodegnjaa
