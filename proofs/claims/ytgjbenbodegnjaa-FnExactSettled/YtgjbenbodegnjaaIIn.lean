
/- laws.eqIntS, laws.sameInts, laws.markIntS and laws.heldIntS by their contracts. -/
import Derived.Test.YtgjbenbodegnjaaCom
import Derived.Test.YtgjbenbodegnjaaRows
import Derived.Test.YtgjbenbodegnjaaKitB
import Derived.Deep.QuietTactic
import Derived.BigQuiet
namespace Go.Proofs.Ytgjbenbodegnjaa.Kit
open Go.RowKit
/-- Numbers as cells. -/
def ic (l : List Int) : List Value := l.map fun z => Value.int .i64 z
theorem ic_length (l : List Int) : (ic l).length = l.length := by simp [ic]
/-- The slice value v reads as the numbers xs. -/
def RInts (w : World) (v : Value) (xs : List Int) : Prop := ∃ a cap, v = .slice a xs.length cap ∧ ∀ (j : Nat) (h : j < xs.length), ∃ g off, a = some ⟨g, off, none⟩ ∧ g < w.heap.size ∧ w.cell? ⟨g, off + j, none⟩ = some (.int .i64 xs[j])
theorem RInts.below {w w' : World} {B : Nat} {v : Value} {xs : List Int} (h : RInts w v xs) (hb : Below B w w') (hB : w.heap.size ≤ B) : RInts w' v xs := by
  obtain ⟨a, cap, rfl, h⟩ := h
  refine ⟨a, cap, rfl, fun j hj => ?_⟩
  obtain ⟨g, off, e, hg, hc⟩ := h j hj
  exact ⟨g, off, e, Nat.lt_of_lt_of_le hg hb.size, (hb.cell (p := ⟨g, off + j, none⟩) (Nat.lt_of_lt_of_le hg hB)).trans hc⟩
theorem ROwns.rints {w : World} {base : Nat} {e : TypeId} {v : Value} {xs : List Int} (h : ROwns w base e v (ic xs)) : RInts w v xs := by
  obtain ⟨a, cap, rfl, _⟩ := h.form
  refine ⟨a, cap, by rw [ic_length], fun j hj => ?_⟩
  obtain ⟨g, c, e1, k1, _, _, k4, _⟩ := h.at j (by rw [ic_length]; exact hj)
  simp only [Value.slice.injEq] at e1
  refine ⟨g, 0, e1.1, k4, ?_⟩
  rw [Nat.zero_add, k1]
  simp [ic, hj]
/-- The marksI from k on, n of them. -/
def marksI (k n : Nat) : List Int := (List.range n).map fun j => ((k + j : Nat) : Int)
theorem marks_lengthI (k n : Nat) : (marksI k n).length = n := by simp [marksI]
theorem marks_atI (k n j : Nat) (h : j < n) : (ic (marksI k n))[j]? = some (.int .i64 ((k + j : Nat) : Int)) := by simp [marksI, ic, h]
/-- The first j cells are marksI already. -/
def markedI (k j : Nat) (l : List Int) : List Int := marksI k j ++ l.drop j
theorem marked_lengthI (k j : Nat) (l : List Int) (h : j ≤ l.length) : (markedI k j l).length = l.length := by simp [markedI, marks_lengthI]; omega
theorem marked_zeroI (k : Nat) (l : List Int) : markedI k 0 l = l := by simp [markedI, marksI]
theorem marked_allI (k : Nat) (l : List Int) : markedI k l.length l = marksI k l.length := by simp [markedI]
theorem marked_setI (k j : Nat) (l : List Int) (h : j < l.length) : (ic (markedI k j l)).set j (.int .i64 ((k + j : Nat) : Int)) = ic (markedI k (j + 1) l) := by
  have : (markedI k j l).set j ((k + j : Nat) : Int) = markedI k (j + 1) l := by
    unfold markedI
    rw [List.set_append_right _ _ (by rw [marks_lengthI]; omega), marks_lengthI, Nat.sub_self, List.drop_eq_getElem_cons h, List.set_cons_zero]
    simp [marksI, List.range_succ]
  rw [← this]
  simp [ic, List.map_set]
theorem marked_cellI (k j : Nat) (l : List Int) (h : j < l.length) : (ic (markedI k j l))[j]? = some (.int .i64 l[j]) := by
  unfold ic markedI
  rw [List.map_append, List.getElem?_append_right (by rw [List.length_map, marks_lengthI]; omega), List.length_map, marks_lengthI, Nat.sub_self, List.map_drop, List.getElem?_drop]
  simp [h]
end Go.Proofs.Ytgjbenbodegnjaa.Kit
namespace Go.Proofs.Ytgjbenbodegnjaa
open Go.RowKit Kit

set_option maxRecDepth 100000 in
set_option maxHeartbeats 800000 in
theorem eqI_same (va vb : Value) (l : List Int) (w : World) (ha : RInts w va l) (hb : RInts w vb l) (hl : l.length ≤ 1000000000) :
    Calls Try.prog 40 #[va, vb] w fun e w' => e = .returned (.bool true) ∧ Below w.heap.size w w' := by
  obtain ⟨a1, c1, rfl, ha⟩ := ha
  obtain ⟨a2, c2, rfl, hb⟩ := hb
  have HA := hide ha
  have HB := hide hb
  clear ha hb
  go_enter Try.func40, Try.ntmps40
  go_wp2
  go_loopw [5] (fun i wr => ∃ j : Nat, j ≤ l.length ∧ i = .int .i64 j ∧ ∃ q, wr = w.drewN q) (fun i _ => l.length - (intOf i).toNat)
  case atStart => exact ⟨0, Nat.zero_le _, rfl, 0, rfl⟩
  case round =>
    obtain ⟨j, hj, rfl, q, rfl⟩ := hrel
    by_cases hlt : j < l.length
    · obtain ⟨g1, o1, rfl, _, k1⟩ := HA.out j hlt
      obtain ⟨g2, o2, rfl, _, k2⟩ := HB.out j hlt
      obtain ⟨t, ht⟩ : ∃ t, l[j] = t := ⟨_, rfl⟩
      rw [ht] at k1 k2
      clear ht
      have j0 : (0 : Int) ≤ (j : Int) := by omega
      have j1 : (j : Int) < (l.length : Int) := by omega
      go_wp2
      go_quiet (fail)
      go_wp2
      go_roundw
      case rel => exact ⟨j + 1, by omega, by go_num, _, rfl⟩
      case measure => simp [intOf]; omega
    · go_wp2
      go_ret
      exact ⟨rfl, below_drewN (Below.refl _ _) _⟩

end Go.Proofs.Ytgjbenbodegnjaa
