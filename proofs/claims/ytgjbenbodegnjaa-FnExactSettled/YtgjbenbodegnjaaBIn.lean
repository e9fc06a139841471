
/- laws.eqBoolS, laws.markBoolS and laws.heldBoolS by their contracts. -/
import Derived.Test.YtgjbenbodegnjaaCom
import Derived.Test.YtgjbenbodegnjaaRows
import Derived.Test.YtgjbenbodegnjaaKitB
import Derived.Deep.QuietTactic
import Derived.BigQuiet
namespace Go.Proofs.Ytgjbenbodegnjaa.Kit
open Go.RowKit
/-- Flags as cells. -/
def fc (l : List Bool) : List Value := l.map fun z => Value.bool z
theorem fc_length (l : List Bool) : (fc l).length = l.length := by simp [fc]
theorem fc_append (a b : List Bool) : fc (a ++ b) = fc a ++ fc b := by simp [fc]
/-- The slice value v reads as the flags xs. -/
def RFl (w : World) (v : Value) (xs : List Bool) : Prop := ∃ a cap, v = .slice a xs.length cap ∧ ∀ (j : Nat) (h : j < xs.length), ∃ g off, a = some ⟨g, off, none⟩ ∧ g < w.heap.size ∧ w.cell? ⟨g, off + j, none⟩ = some (.bool xs[j])
theorem RFl.below {w w' : World} {B : Nat} {v : Value} {xs : List Bool} (h : RFl w v xs) (hb : Below B w w') (hB : w.heap.size ≤ B) : RFl w' v xs := by
  obtain ⟨a, cap, rfl, h⟩ := h
  refine ⟨a, cap, rfl, fun j hj => ?_⟩
  obtain ⟨g, off, e, hg, hc⟩ := h j hj
  exact ⟨g, off, e, Nat.lt_of_lt_of_le hg hb.size, (hb.cell (p := ⟨g, off + j, none⟩) (Nat.lt_of_lt_of_le hg hB)).trans hc⟩
theorem ROwns.rfl {w : World} {base : Nat} {e : TypeId} {v : Value} {xs : List Bool} (h : ROwns w base e v (fc xs)) : RFl w v xs := by
  obtain ⟨a, cap, rfl, _⟩ := h.form
  refine ⟨a, cap, by rw [fc_length], fun j hj => ?_⟩
  obtain ⟨g, c, e1, k1, _, _, k4, _⟩ := h.at j (by rw [fc_length]; exact hj)
  simp only [Value.slice.injEq] at e1
  refine ⟨g, 0, e1.1, k4, ?_⟩
  rw [Nat.zero_add, k1]
  simp [fc, hj]
theorem RFl.alloc {w : World} {v : Value} {xs : List Bool} (h : RFl w v xs) (o : Obj) : RFl (w.alloc o) v xs := h.below ((Below.refl _ w).alloc (Nat.le_refl _) o) (Nat.le_refl _)
theorem RFl.drew {w : World} {v : Value} {xs : List Bool} (h : RFl w v xs) : RFl w.drew v xs := h.below (Below.refl w.heap.size w).drew (Nat.le_refl _)
theorem RFl.form {w : World} {v : Value} {xs : List Bool} (h : RFl w v xs) : ∃ a c, v = .slice a xs.length c := by
  obtain ⟨a, c, h, _⟩ := h
  exact ⟨a, c, h⟩
/-- The mark of a place. -/
def mk3 (k : Nat) : Bool := decide (k % 3 = 0)
theorem mk3_int (k : Nat) : mk3 k = ((k : Int) % 3 == 0) := by
  unfold mk3
  rw [Bool.eq_iff_iff]
  simp
  omega
/-- The marksB from k on, n of them. -/
def marksB (k n : Nat) : List Bool := (List.range n).map fun j => mk3 (k + j)
theorem marks_lengthB (k n : Nat) : (marksB k n).length = n := by simp [marksB]
theorem marks_atB (k n j : Nat) (h : j < n) : (fc (marksB k n))[j]? = some (.bool (mk3 (k + j))) := by simp [marksB, fc, h]
/-- The first j cells are marksB already. -/
def markedB (k j : Nat) (l : List Bool) : List Bool := marksB k j ++ l.drop j
theorem marked_lengthB (k j : Nat) (l : List Bool) (h : j ≤ l.length) : (markedB k j l).length = l.length := by simp [markedB, marks_lengthB]; omega
theorem marked_zeroB (k : Nat) (l : List Bool) : markedB k 0 l = l := by simp [markedB, marksB]
theorem marked_allB (k : Nat) (l : List Bool) : markedB k l.length l = marksB k l.length := by simp [markedB]
theorem marked_setB (k j : Nat) (l : List Bool) (h : j < l.length) : (fc (markedB k j l)).set j (.bool (mk3 (k + j))) = fc (markedB k (j + 1) l) := by
  have : (markedB k j l).set j (mk3 (k + j)) = markedB k (j + 1) l := by
    unfold markedB
    rw [List.set_append_right _ _ (by rw [marks_lengthB]; omega), marks_lengthB, Nat.sub_self, List.drop_eq_getElem_cons h, List.set_cons_zero]
    simp [marksB, List.range_succ]
  rw [← this]
  simp [fc, List.map_set]
theorem marked_cellB (k j : Nat) (l : List Bool) (h : j < l.length) : (fc (markedB k j l))[j]? = some (.bool l[j]) := by
  unfold fc markedB
  rw [List.map_append, List.getElem?_append_right (by rw [List.length_map, marks_lengthB]; omega), List.length_map, marks_lengthB, Nat.sub_self, List.map_drop, List.getElem?_drop]
  simp [h]
end Go.Proofs.Ytgjbenbodegnjaa.Kit
namespace Go.Proofs.Ytgjbenbodegnjaa
open Go.RowKit Kit

set_option maxRecDepth 100000 in
set_option maxHeartbeats 800000 in
theorem eqB_sameB (va vb : Value) (l : List Bool) (w : World) (ha : RFl w va l) (hb : RFl w vb l) (hl : l.length ≤ 1000000000) :
    Calls Try.prog 17 #[va, vb] w fun e w' => e = .returned (.bool true) ∧ Below w.heap.size w w' := by
  obtain ⟨a1, c1, rfl, ha⟩ := ha
  obtain ⟨a2, c2, rfl, hb⟩ := hb
  have HA := hide ha
  have HB := hide hb
  clear ha hb
  go_enter Try.func17, Try.ntmps17
  go_wp2
  go_loopw [5] (fun i wr => ∃ j : Nat, j ≤ l.length ∧ i = .int .i64 j ∧ ∃ q, wr = w.drewN q) (fun i _ => l.length - (intOf i).toNat)
  case atStart => exact ⟨0, Nat.zero_le _, rfl, 0, rfl⟩
  case round =>
    obtain ⟨j, hj, rfl, q, rfl⟩ := hrel
    by_cases hlt : j < l.length
    · obtain ⟨g1, o1, rfl, _, k1⟩ := HA.out j hlt
      obtain ⟨g2, o2, rfl, _, k2⟩ := HB.out j hlt
      obtain ⟨t, ht⟩ : ∃ t, l[j] = t := ⟨_, rfl⟩
      rw [ht] at k1 k2
      clear ht
      have j0 : (0 : Int) ≤ (j : Int) := by omega
      have j1 : (j : Int) < (l.length : Int) := by omega
      go_wp2
      go_quiet (fail)
      go_wp2
      go_roundw
      case rel => exact ⟨j + 1, by omega, by go_num, _, rfl⟩
      case measure => simp [intOf]; omega
    · go_wp2
      go_ret
      exact ⟨rfl, below_drewN (Below.refl _ _) _⟩

end Go.Proofs.Ytgjbenbodegnjaa
