/- laws.eqBoolS, laws.toBoolS, spec.FirstFree and impl.FirstFree by their contracts. -/
import Derived.Test.YtakkdfbcipbbjabRows
import Derived.Test.YtakkdfbcipbbjabKitB
import Derived.Deep.QuietTactic
import Derived.BigQuiet
import Derived.Deep.OwnRows
namespace Go.Proofs.Ytakkdfbcipbbjab.Kit
open Go.RowKit
/-- Flags as cells. -/
def fc (l : List Bool) : List Value := l.map fun z => Value.bool z
theorem fc_length (l : List Bool) : (fc l).length = l.length := by simp [fc]
theorem fc_append (a b : List Bool) : fc (a ++ b) = fc a ++ fc b := by simp [fc]
/-- The slice value v reads as the flags xs. -/
def RFl (w : World) (v : Value) (xs : List Bool) : Prop := ∃ a cap, v = .slice a xs.length cap ∧ ∀ (j : Nat) (h : j < xs.length), ∃ g off, a = some ⟨g, off, none⟩ ∧ g < w.heap.size ∧ w.cell? ⟨g, off + j, none⟩ = some (.bool xs[j])
theorem RFl.below {w w' : World} {B : Nat} {v : Value} {xs : List Bool} (h : RFl w v xs) (hb : Below B w w') (hB : w.heap.size ≤ B) : RFl w' v xs := by
  obtain ⟨a, cap, rfl, h⟩ := h
  refine ⟨a, cap, rfl, fun j hj => ?_⟩
  obtain ⟨g, off, e, hg, hc⟩ := h j hj
  exact ⟨g, off, e, Nat.lt_of_lt_of_le hg hb.size, (hb.cell (p := ⟨g, off + j, none⟩) (Nat.lt_of_lt_of_le hg hB)).trans hc⟩
theorem ROwns.rfl {w : World} {base : Nat} {e : TypeId} {v : Value} {xs : List Bool} (h : ROwns w base e v (fc xs)) : RFl w v xs := by
  obtain ⟨a, cap, rfl, _⟩ := h.form
  refine ⟨a, cap, by rw [fc_length], fun j hj => ?_⟩
  obtain ⟨g, c, e1, k1, _, _, k4, _⟩ := h.at j (by rw [fc_length]; exact hj)
  simp only [Value.slice.injEq] at e1
  refine ⟨g, 0, e1.1, k4, ?_⟩
  rw [Nat.zero_add, k1]
  simp [fc, hj]
theorem RFl.alloc {w : World} {v : Value} {xs : List Bool} (h : RFl w v xs) (o : Obj) : RFl (w.alloc o) v xs := h.below ((Below.refl _ w).alloc (Nat.le_refl _) o) (Nat.le_refl _)
theorem RFl.drew {w : World} {v : Value} {xs : List Bool} (h : RFl w v xs) : RFl w.drew v xs := h.below (Below.refl w.heap.size w).drew (Nat.le_refl _)
theorem RFl.form {w : World} {v : Value} {xs : List Bool} (h : RFl w v xs) : ∃ a c, v = .slice a xs.length c := by
  obtain ⟨a, c, h, _⟩ := h
  exact ⟨a, c, h⟩
/-- The first j flags are copied, the others are false yet. -/
def copied (j : Nat) (xs : List Bool) : List Bool := xs.take j ++ List.replicate (xs.length - j) false
theorem copied_length (j : Nat) (xs : List Bool) (h : j ≤ xs.length) : (copied j xs).length = xs.length := by simp [copied]; omega
theorem copied_zero (xs : List Bool) : copied 0 xs = List.replicate xs.length false := by simp [copied]
theorem copied_all (xs : List Bool) : copied xs.length xs = xs := by simp [copied]
theorem copied_cell (j : Nat) (xs : List Bool) (h : j < xs.length) : (fc (copied j xs))[j]? = some (.bool false) := by
  unfold fc copied
  have e : (List.map (fun z => Value.bool z) (xs.take j)).length = j := by simp; omega
  rw [List.map_append, List.getElem?_append_right (by omega), e, Nat.sub_self, List.map_replicate, List.getElem?_replicate, if_pos (by omega)]
theorem copied_set (j : Nat) (xs : List Bool) (h : j < xs.length) : (fc (copied j xs)).set j (.bool xs[j]) = fc (copied (j + 1) xs) := by
  have e : (copied j xs).set j xs[j] = copied (j + 1) xs := by
    unfold copied
    rw [List.set_append_right _ _ (by simp; omega), List.take_succ_eq_append_getElem h, List.length_take, Nat.min_eq_left (by omega), Nat.sub_self, show xs.length - j = (xs.length - (j + 1)) + 1 by omega, List.replicate_succ, List.set_cons_zero, List.append_assoc]
    rfl
  rw [← e]
  simp [fc, List.map_set]
theorem made_flags (w : World) (xs : List Bool) (h : xs.length ≤ 8388608) (e : TypeId) : ROwns (w.alloc (.cells (madeCells #[.bool false] xs.length) e)) w.heap.size e (.slice (some ⟨w.heap.size, 0, none⟩) xs.length xs.length) (fc (copied 0 xs)) := by
  have e1 : (madeCells #[.bool false] xs.length).toList = fc (copied 0 xs) := by rw [toList_madeCells_one, copied_zero]; simp [fc]
  have e2 : (madeCells #[.bool false] xs.length).size = xs.length := by rw [← Array.length_toList, e1, fc_length, copied_length 0 xs (Nat.zero_le _)]
  have := ROwns.lit w w.heap.size e (madeCells #[.bool false] xs.length) (Nat.le_refl _) (by rw [e2]; unfold maxLen; omega)
  rwa [e1, e2] at this
/-- One more flag copied. -/
theorem copied_next {wr : World} {base g n : Nat} {e : TypeId} {j : Nat} {xs : List Bool} (hn : xs.length = n) (hj : j < n) (h : ROwns wr base e (.slice (some ⟨g, 0, none⟩) n n) (fc (copied j xs))) :
    ROwns (wr.setCell ⟨g, j, none⟩ (.bool (xs[j]'(by omega)))) base e (.slice (some ⟨g, 0, none⟩) n n) (fc (copied (j + 1) xs)) ∧ wr.cell? ⟨g, j, none⟩ = some (.bool false) ∧ wr.frozen? ⟨g, j, none⟩ = false ∧ g < wr.heap.size := by
  have hml : (fc (copied j xs)).length = n := by rw [fc_length, copied_length j xs (by omega), hn]
  obtain ⟨g2, c2, e1, q2, q3, -, q5, -⟩ := h.at j (by omega)
  rw [copied_cell j xs (by omega)] at q2
  simp only [Value.slice.injEq, Option.some.injEq, Addr.mk.injEq] at e1
  obtain ⟨⟨rfl, -, -⟩, -, rfl⟩ := e1
  have O1 : ROwns wr base e (.slice (some ⟨g, 0, none⟩) (fc (copied j xs)).length n) (fc (copied j xs)) := by rw [hml]; exact h
  have O2 := O1.stored j (.bool (xs[j]'(by omega)))
  rw [copied_set j xs (by omega), hml] at O2
  exact ⟨O2.1, q2, q3, q5⟩
/-- The place of the first false, and 1; 0 without one. -/
def ff : List Bool → Nat
  | [] => 0
  | b :: r => if b then (if ff r = 0 then 0 else ff r + 1) else 1
theorem ff_at (l : List Bool) (j : Nat) (h : j < l.length) (hf : l[j] = false) (ha : ∀ (i : Nat) (hi : i < j), l[i] = true) : ff l = j + 1 := by
  induction l generalizing j with
  | nil => simp at h
  | cons b r ih =>
    cases j with
    | zero => simp at hf; simp [ff, hf]
    | succ j =>
      have h0 : b = true := ha 0 (by omega)
      have h1 := ih j (by simpa using h) (by simpa using hf) (fun i hi => by have := ha (i + 1) (by omega); simpa using this)
      simp [ff, h0, h1]
theorem ff_none (l : List Bool) (ha : ∀ (i : Nat) (hi : i < l.length), l[i] = true) : ff l = 0 := by
  induction l with
  | nil => rfl
  | cons b r ih =>
    have h0 : b = true := ha 0 (by simp)
    have h1 := ih (fun i hi => by have := ha (i + 1) (by simp; omega); simpa using this)
    simp [ff, h0, h1]
theorem ff_or (l : List Bool) : (ff l = 0 ∧ ∀ (i : Nat) (hi : i < l.length), l[i] = true) ∨ ∃ (k : Nat) (hk : k < l.length), ff l = k + 1 ∧ l[k] = false ∧ ∀ (i : Nat) (hi : i < k), l[i] = true := by
  induction l with
  | nil => left; exact ⟨rfl, fun i hi => by simp at hi⟩
  | cons b r ih =>
    cases b with
    | false => right; exact ⟨0, by simp, rfl, rfl, fun i hi => by omega⟩
    | true =>
      rcases ih with ⟨e, h⟩ | ⟨k, hk, e, h1, h2⟩
      · left
        refine ⟨by simp [ff, e], fun i hi => ?_⟩
        cases i with
        | zero => rfl
        | succ i => simpa using h i (by simpa using hi)
      · right
        refine ⟨k + 1, by simpa using hk, by simp [ff, e], by simpa using h1, fun i hi => ?_⟩
        cases i with
        | zero => rfl
        | succ i => simpa using h2 i (by omega)
theorem ff_le (l : List Bool) : ff l ≤ l.length := by
  rcases ff_or l with ⟨e, _⟩ | ⟨k, hk, e, _⟩ <;> omega
end Go.Proofs.Ytakkdfbcipbbjab.Kit
namespace Go.Proofs.Ytakkdfbcipbbjab
open Go.RowKit Kit

set_option maxRecDepth 100000 in
set_option maxHeartbeats 800000 in
theorem eqB_same (va vb : Value) (l : List Bool) (w : World) (ha : RFl w va l) (hb : RFl w vb l) (hl : l.length ≤ 1000000000) :
    Calls Try.prog 7 #[va, vb] w fun e w' => e = .returned (.bool true) ∧ Below w.heap.size w w' := by
  obtain ⟨a1, c1, rfl, ha⟩ := ha
  obtain ⟨a2, c2, rfl, hb⟩ := hb
  have HA := hide ha
  have HB := hide hb
  clear ha hb
  go_enter Try.func7, Try.ntmps7
  go_wp2
  go_loopw [5] (fun i wr => ∃ j : Nat, j ≤ l.length ∧ i = .int .i64 j ∧ ∃ q, wr = w.drewN q) (fun i _ => l.length - (intOf i).toNat)
  case atStart => exact ⟨0, Nat.zero_le _, rfl, 0, rfl⟩
  case round =>
    obtain ⟨j, hj, rfl, q, rfl⟩ := hrel
    by_cases hlt : j < l.length
    · obtain ⟨g1, o1, rfl, _, k1⟩ := HA.out j hlt
      obtain ⟨g2, o2, rfl, _, k2⟩ := HB.out j hlt
      obtain ⟨t, ht⟩ : ∃ t, l[j] = t := ⟨_, rfl⟩
      rw [ht] at k1 k2
      clear ht
      have j0 : (0 : Int) ≤ (j : Int) := by omega
      have j1 : (j : Int) < (l.length : Int) := by omega
      go_wp2
      go_quiet (fail)
      go_wp2
      go_roundw
      case rel => exact ⟨j + 1, by omega, by go_num, _, rfl⟩
      case measure => simp [intOf]; omega
    · go_wp2
      go_ret
      exact ⟨rfl, below_drewN (Below.refl _ _) _⟩

theorem Try.u22 : Try.prog.underlying 22 = some (.slice 4) := by kernel_rfl
theorem Try.i4 : (Try.prog.info? 4).map (fun i => (i.zero, i.size, i.bytes)) = some (some (.bool false), 1, 1) := by kernel_rfl
theorem make_fl (n : Nat) (h : n ≤ 8388608) (w : World) : (Instr.makeSlice 22 (.int .i64 (n : Int)) (.int .i64 (n : Int))).run Try.prog w = .ok (.slice (some ⟨w.heap.size, 0, none⟩) n n) (w.alloc (.cells (madeCells #[.bool false] n) 4)) :=
  run_make_row' 22 4 (.bool false) 1 Try.u22 Try.i4 rfl .i64 .i64 n (by omega) (by omega) w

set_option maxRecDepth 100000 in
set_option maxHeartbeats 1600000 in
theorem toB_any (v : Value) (xs : List Bool) (w : World) (hv : RFl w v xs) (hl : xs.length ≤ 1048576) :
    Calls Try.prog 5 #[v] w fun e w' => ∃ u, e = .returned u ∧ ROwns w' w.heap.size 4 u (fc xs) ∧ Below w.heap.size w w' := by
  obtain ⟨a, c, rfl, hc⟩ := hv
  have HC := hide hc
  clear hc
  have mk := make_fl xs.length (by omega)
  go_enter Try.func5, Try.ntmps5
  go_wp2
  go_loopw [4] (fun i wr => ∃ j : Nat, j ≤ xs.length ∧ i = .int .i64 j ∧ ROwns wr w.heap.size 4 (.slice (some ⟨w.heap.size, 0, none⟩) xs.length xs.length) (fc (copied j xs)) ∧ Below w.heap.size w wr) (fun i _ => xs.length - (intOf i).toNat)
  case atStart => exact ⟨0, Nat.zero_le _, rfl, made_flags w xs (by omega) 4, (Below.refl _ w).alloc (Nat.le_refl _) _⟩
  case round =>
    obtain ⟨j, hj, rfl, hown, hb⟩ := hrel
    by_cases hlt : j < xs.length
    · obtain ⟨g, off, rfl, hg, k1⟩ := HC.out j hlt
      have q1 : wr.cell? ⟨g, off + j, none⟩ = some (.bool xs[j]) := (hb.cell (p := ⟨g, off + j, none⟩) hg).trans k1
      obtain ⟨O2, q2, q3, q4⟩ := copied_next rfl hlt hown
      have HO := hide (And.intro O2 (hb.setCell (p := ⟨w.heap.size, j, none⟩) (Nat.le_refl _) (.bool xs[j])))
      obtain ⟨t, ht⟩ : ∃ t, xs[j] = t := ⟨_, rfl⟩
      rw [ht] at q1 HO
      have hne : ¬ g = w.heap.size := by omega
      have j0 : (0 : Int) ≤ (j : Int) := by omega
      have j1 : (j : Int) < (xs.length : Int) := by omega
      clear hown hb O2 ht k1 mk
      go_wp2
      go_roundw
      case rel => exact ⟨j + 1, by omega, by go_num, HO.out.1, HO.out.2⟩
      case measure => simp [intOf]; omega
    · have hjl : j = xs.length := by omega
      have HR := hide (And.intro hown hb)
      have HJ := hide hjl
      clear hown hb hjl mk
      go_wp2
      go_ret
      exact ⟨_, rfl, by have := HR.out.1; rwa [HJ.out, copied_all] at this, HR.out.2⟩

set_option maxRecDepth 100000 in
set_option maxHeartbeats 1600000 in
theorem firstFree_any (v : Value) (l : List Bool) (w : World) (hv : RFl w v l) (hl : l.length ≤ 1048576) :
    Calls Try.prog 6 #[v] w fun e w' => e = .returned (.int .i64 (ff l : Nat)) ∧ w = w' := by
  obtain ⟨a, c, rfl, ha⟩ := hv
  have HA := hide ha
  clear ha
  go_enter Try.func6, Try.ntmps6
  go_wp2
  go_loopw [7] (fun i wr => ∃ j : Nat, j ≤ l.length ∧ i = .int .i64 j ∧ Hid (∀ (i : Nat) (h1 : i < j) (h2 : i < l.length), l[i] = true) ∧ w = wr) (fun i _ => l.length - (intOf i).toNat)
  case atStart => exact ⟨0, Nat.zero_le _, rfl, hide (fun i h1 h2 => by omega), rfl⟩
  case round =>
    obtain ⟨j, hj, rfl, HT, rfl⟩ := hrel
    by_cases hlt : j < l.length
    · obtain ⟨g, off, rfl, _, k1⟩ := HA.out j hlt
      obtain ⟨t, ht⟩ : ∃ t, l[j] = t := ⟨_, rfl⟩
      rw [ht] at k1
      have j0 : (0 : Int) ≤ (j : Int) := by omega
      have j1 : (j : Int) < (l.length : Int) := by omega
      cases t with
      | true =>
        have HT2 : Hid (∀ (i : Nat) (h1 : i < j + 1) (h2 : i < l.length), l[i] = true) := hide (fun i h1 h2 => by
          by_cases e : i = j
          · subst e; exact ht
          · exact HT.out i (by omega) h2)
        clear ht
        go_wp2
        go_roundw
        case rel => exact ⟨j + 1, by omega, by go_num, HT2, trivial⟩
        case measure => simp [intOf]; omega
      | false =>
        have HF := hide (ff_at l j hlt ht (fun i hi => HT.out i hi (by omega)))
        clear ht
        go_wp2
        go_ret
        exact ⟨ret_of (show Value.int .i64 _ = Value.int .i64 _ by rw [HF.out]; rfl), rfl⟩
    · have HF := hide (ff_none l (fun i hi => HT.out i (by omega) hi))
      go_wp2
      go_ret
      exact ⟨by rw [HF.out]; rfl, rfl⟩
set_option maxRecDepth 100000 in
set_option maxHeartbeats 1600000 in
theorem specFree_any (v : Value) (l : List Bool) (w : World) (hv : RFl w v l) (hl : l.length ≤ 1048576) :
    Calls Try.prog 4 #[v] w fun e w' => e = .returned (.int .i64 (ff l : Nat)) ∧ w = w' := by
  obtain ⟨a, c, rfl, ha⟩ := hv
  have HA := hide ha
  clear ha
  go_enter Try.func4, Try.ntmps4
  go_wp2
  go_loopw [3] (fun i wr => ∃ j : Nat, j ≤ l.length ∧ i = .int .i64 j ∧ Hid (∀ (i : Nat) (h1 : i < j) (h2 : i < l.length), l[i] = true) ∧ w = wr) (fun i _ => l.length - (intOf i).toNat)
  case atStart => exact ⟨0, Nat.zero_le _, rfl, hide (fun i h1 h2 => by omega), rfl⟩
  case round =>
    obtain ⟨j, hj, rfl, HT, rfl⟩ := hrel
    by_cases hlt : j < l.length
    · obtain ⟨g, off, rfl, _, k1⟩ := HA.out j hlt
      obtain ⟨t, ht⟩ : ∃ t, l[j] = t := ⟨_, rfl⟩
      rw [ht] at k1
      have j0 : (0 : Int) ≤ (j : Int) := by omega
      have j1 : (j : Int) < (l.length : Int) := by omega
      cases t with
      | true =>
        have HT2 : Hid (∀ (i : Nat) (h1 : i < j + 1) (h2 : i < l.length), l[i] = true) := hide (fun i h1 h2 => by
          by_cases e : i = j
          · subst e; exact ht
          · exact HT.out i (by omega) h2)
        clear ht
        go_wp2
        go_roundw
        case rel => exact ⟨j + 1, by omega, by go_num, HT2, trivial⟩
        case measure => simp [intOf]; omega
      | false =>
        have HF := hide (ff_at l j hlt ht (fun i hi => HT.out i hi (by omega)))
        clear ht
        go_wp2
        go_ret
        exact ⟨ret_of (show Value.int .i64 _ = Value.int .i64 _ by rw [HF.out]; rfl), rfl⟩
    · have HF := hide (ff_none l (fun i hi => HT.out i (by omega) hi))
      go_wp2
      go_ret
      exact ⟨by rw [HF.out]; rfl, rfl⟩
end Go.Proofs.Ytakkdfbcipbbjab
