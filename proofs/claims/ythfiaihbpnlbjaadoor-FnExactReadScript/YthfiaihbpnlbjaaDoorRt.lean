/- Lists of texts, read. No Go function is spoken of. -/
import Derived.Test.YthfiaihbpnlbjaaDoorLs
namespace Go.Proofs.YthfiaihbpnlbjaaDoor
open Go.RowKit Kit
/-- The slice value v reads as these texts. -/
def RSt (w : World) (v : Value) (ps : List ByteArray) : Prop := ∃ a c, v = .slice a ps.length c ∧ ∀ (j : Nat) (h : j < ps.length), ∃ g off, a = some ⟨g, off, none⟩ ∧ g < w.heap.size ∧ w.cell? ⟨g, off + j, none⟩ = some (.string ps[j])
theorem RSt.below {w w' : World} {v : Value} {ps : List ByteArray} (h : RSt w v ps) (hb : Below w.heap.size w w') : RSt w' v ps := by
  obtain ⟨a, c, rfl, h⟩ := h
  refine ⟨a, c, rfl, fun j hj => ?_⟩
  obtain ⟨g, off, e, hg, c0⟩ := h j hj
  exact ⟨g, off, e, Nat.lt_of_lt_of_le hg hb.size, (hb.cell (p := ⟨g, off + j, none⟩) hg).trans c0⟩
theorem rst_of {w : World} {B : Nat} {v : Value} {ps : List ByteArray} (h : ROwns w B 9 v (ps.map Value.string)) : RSt w v ps := by
  obtain ⟨a, c, e, h0⟩ := h.form
  rw [List.length_map] at e
  refine ⟨a, c, e, fun j hj => ?_⟩
  rcases h.2 with ⟨h1, h2⟩ | ⟨g, cap, cur, h1, h2, h3, h4, h5, h6, h7⟩
  · rw [List.length_map] at h2
    omega
  · rw [e] at h1
    simp only [Value.slice.injEq] at h1
    refine ⟨g, 0, h1.1, (Array.getElem?_eq_some_iff.1 h3).1, ?_⟩
    rw [Nat.zero_add, cell_of_row w g j cur 9 _ h3]
    have e2 : cur.toList[j]? = (ps.map Value.string)[j]? := by
      rw [← h7, List.getElem?_take, if_pos (by rw [List.length_map]; omega)]
    rw [← Array.getElem?_toList, e2, List.getElem?_map, List.getElem?_eq_getElem hj]
    rfl
abbrev evW (x : Evt) : Value := evV x.1 x.2.1 x.2.2.1 x.2.2.2.1 x.2.2.2.2
theorem ne_list {a b : ByteArray} (h : a ≠ b) : (a.toList == b.toList) = false := by
  rw [beq_eq_false_iff_ne]
  intro e
  rw [ByteArray.toList_eq, ByteArray.toList_eq] at e
  exact h (bytes_ext e)
theorem bdN {B : Nat} {a w : World} (h : Below B a w) (n : Nat) : Below B a (w.drewN n) := h.trans ⟨rfl, rfl, rfl, Nat.le_refl _, fun _ _ => rfl⟩
end Go.Proofs.YthfiaihbpnlbjaaDoor
