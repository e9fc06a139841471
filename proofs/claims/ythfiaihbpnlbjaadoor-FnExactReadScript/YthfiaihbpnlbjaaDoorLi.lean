/- impl.scriptLines, impl.passedOver by their contracts. -/
import Derived.Test.YthfiaihbpnlbjaaDoorRt
import Derived.Test.YthfiaihbpnlbjaaDoorAt
namespace Go.Proofs.YthfiaihbpnlbjaaDoor
open Go.RowKit Kit
theorem sAll_ne (s : ByteArray) : sAll s ≠ [] := by
  unfold sAll
  generalize Lib.countB s nl = k
  cases k with
  | zero => simp [Lib.splitB]
  | succ k =>
    unfold Lib.splitB
    split <;> simp
theorem sAll_len (s : ByteArray) : (sAll s).length = Lib.countB s nl + 1 := Lib.splitB_all nl (by decide) 0 _ s rfl
theorem countNl_le (s : ByteArray) : Lib.countB s nl ≤ s.size := Lib.countB_le nl (by decide) _ s (Nat.le_refl _)
theorem lns_last (l : List ByteArray) (h : l ≠ []) : noE l = if (l.getLast h).size = 0 then l.take (l.length - 1) else l := by
  unfold noE
  rw [List.getLast?_eq_some_getLast h, Option.map_some, List.dropLast_eq_take]
  simp only [Option.some.injEq]
set_option maxRecDepth 100000 in
set_option maxHeartbeats 1600000 in
theorem implLines_any (s : ByteArray) (w : World) (m : Int) (hm : w.cell? ⟨2, 0, none⟩ = some (.int .i64 m)) (hs : s.size ≤ 3000) :
    Calls Tryd.prog 13 #[.string s] w fun e w' => ∃ v, e = .returned (.tuple #[v, .bool (decide ((lns s).length ≤ 80))]) ∧ RSt w' v (lns s) ∧ Below w.heap.size w w' := by
  have HS := hide (Tryd.strings_Split s nl m w (by omega) hm (by decide))
  have HL := hide (sAll_len s)
  have HN := hide (sAll_ne s)
  have HC := hide (countNl_le s)
  obtain ⟨L, hL⟩ : ∃ L, sAll s = L := ⟨_, rfl⟩
  have HX : Hid (lns s = noE L) := hide (by rw [← hL]; rfl)
  rw [HX.out]
  rw [show (Lib.splitB nl 0 (Lib.countB s nl) s) = L from hL] at HS
  rw [hL] at HL HN
  obtain ⟨n, hn⟩ : ∃ n, L.length = n := ⟨_, rfl⟩
  rw [← HL.out, hn] at HS
  have hn1 : n ≤ 3001 := by have := HL.out; have := HC.out; omega
  have hn0 : 1 ≤ n := by have := HL.out; omega
  have HLN := hide hn
  have HR : Hid (RSt (w.alloc (.cells (L.map Value.string).toArray 9)) (.slice (some ⟨w.heap.size, 0, none⟩) n n) L ∧ Below w.heap.size w (w.alloc (.cells (L.map Value.string).toArray 9))) := by
    refine hide ⟨⟨_, _, by rw [hn], fun j hj => ⟨w.heap.size, 0, rfl, by simp, ?_⟩⟩, (Below.refl _ w).alloc (Nat.le_refl _) _⟩
    rw [Nat.zero_add]
    have := (AtC.new w 9 (L.map Value.string).toArray).cell j
    rw [this]
    simp [hj]
  obtain ⟨W, hW⟩ : ∃ W, w.alloc (.cells (L.map Value.string).toArray 9) = W := ⟨_, rfl⟩
  rw [hW] at HS HR
  obtain ⟨lst, hlst⟩ : ∃ x, L.getLast HN.out = x := ⟨_, rfl⟩
  have HE : Hid (noE L = if lst.size = 0 then L.take (n - 1) else L) := hide (by rw [lns_last L HN.out, hlst, hn])
  have hc : W.cell? ⟨w.heap.size, n - 1, none⟩ = some (.string lst) := by
    obtain ⟨a, c, e, h⟩ := HR.out.1
    obtain ⟨g, off, e1, -, e2⟩ := h (n - 1) (by omega)
    simp only [Value.slice.injEq] at e
    rw [e1] at e
    simp only [Option.some.injEq, Addr.mk.injEq, and_true] at e
    obtain ⟨⟨rfl, rfl⟩, -⟩ := e
    rw [Nat.zero_add] at e2
    rw [e2, ← hlst, List.getLast_eq_getElem]
    simp only [hn]
  have hnn : ((n - 1 : Nat) : Int) = (n : Int) - 1 := by omega
  have hcc : (((n : Int) - 1)).toNat = n - 1 := by omega
  clear hW hL hn hm hlst
  go_enter Tryd.func13, Tryd.ntmps13
  go_wp2_with fail
  refine HS.out.mono ?_
  rintro e w1 ⟨rfl, h⟩
  subst h
  by_cases hz : lst.size = 0
  · rw [if_pos hz] at HE
    obtain rfl : lst = ⟨#[]⟩ := ByteArray.size_eq_zero_iff.1 hz
    go_wp2
    go_ret2
    refine ⟨.slice (some ⟨w.heap.size, 0, none⟩) (n - 1) n, ?_, ?_, HR.out.2⟩
    · show Ending.returned (.tuple #[_, .bool (decide (((n : Int) - 1) ≤ 80))]) = _
      rw [HE.out, show decide (((n : Int) - 1) ≤ 80) = decide ((L.take (n - 1)).length ≤ 80) from decide_eq_decide.2 (by rw [List.length_take, HLN.out]; omega)]
      rfl
    · rw [HE.out]
      obtain ⟨a, c, e, h⟩ := HR.out.1
      refine ⟨some ⟨w.heap.size, 0, none⟩, n, by rw [List.length_take, HLN.out, Nat.min_eq_left (by omega)], fun j hj => ?_⟩
      obtain ⟨g, off, e1, e2, e3⟩ := h j (by rw [List.length_take] at hj; omega)
      simp only [Value.slice.injEq] at e
      rw [← e.1] at e1
      exact ⟨g, off, e1, e2, by rw [List.getElem_take]; exact e3⟩
  · rw [if_neg hz] at HE
    have hne : (lst.toList == ([] : List UInt8)) = false := by
      rw [beq_eq_false_iff_ne]
      intro e
      exact hz (by have := congrArg List.length e; rw [ByteArray.toList_eq] at this; rw [Lib.size_eq]; simpa using this)
    have hne2 := (not_nil hz).1
    have hne3 := (not_nil hz).2
    go_wp2
    go_ret2
    refine ⟨.slice (some ⟨w.heap.size, 0, none⟩) n n, ?_, ?_, HR.out.2⟩
    · show Ending.returned (.tuple #[_, .bool (decide ((n : Int) ≤ 80))]) = _
      rw [HE.out, show decide ((n : Int) ≤ 80) = decide (L.length ≤ 80) from decide_eq_decide.2 (by rw [HLN.out]; omega)]
      rfl
    · rw [HE.out]
      exact HR.out.1
set_option maxRecDepth 100000 in
set_option maxHeartbeats 800000 in
theorem implLines_long (s : ByteArray) (w : World) (hs : 3000 < s.size) :
    Calls Tryd.prog 13 #[.string s] w fun e w' => e = .returned (.tuple #[.slice none 0 0, .bool false]) ∧ w' = w := by
  go_enter Tryd.func13, Tryd.ntmps13
  go_wp2
  go_ret2
  exact ⟨rfl, rfl⟩
set_option maxRecDepth 100000 in
set_option maxHeartbeats 800000 in
theorem passedNil_any (w : World) (a : Option Addr) (c : Nat) :
    Calls Tryd.prog 16 #[.slice a 0 c] w fun e w' => e = .returned (.bool true) ∧ w' = w := by
  go_enter Tryd.func16, Tryd.ntmps16
  go_wp2
  go_ret
  exact ⟨rfl, rfl⟩
theorem pre35 (x : ByteArray) : Lib.hasPrefix x.data.toList ((⟨#[35]⟩ : ByteArray).data.toList) = decide (x.data.toList.head? = some 35) := by
  cases h : x.data.toList with
  | nil => simp [Lib.hasPrefix]
  | cons a r =>
    by_cases e : a = 35
    · subst e; simp [Lib.hasPrefix]
    · have : ¬ (35 : UInt8) = a := fun q => e q.symm
      simp [Lib.hasPrefix, e, List.isPrefixOf, this]
set_option maxRecDepth 100000 in
set_option maxHeartbeats 800000 in
theorem passed_any (w : World) (v : Value) (x : ByteArray) (r : List ByteArray) (hv : RSt w v (x :: r)) (hl : r.length ≤ 10) :
    Calls Tryd.prog 16 #[v] w fun e w' => e = .returned (.bool (decide (x.data.toList.head? = some 35))) ∧ w' = w := by
  obtain ⟨a, c, rfl, h⟩ := hv
  obtain ⟨g, off, rfl, hg, k0⟩ := h 0 (by simp)
  simp only [Nat.add_zero, List.getElem_cons_zero] at k0
  have HP := hide (Tryd.strings_HasPrefix x ⟨#[35]⟩ w)
  rw [pre35] at HP
  generalize decide (x.data.toList.head? = some 35) = b at *
  rw [show (x :: r).length = r.length + 1 from rfl]
  obtain ⟨n, hn⟩ : ∃ n, r.length = n := ⟨_, rfl⟩
  rw [hn] at hl ⊢
  clear h hn
  have hz : ((n : Int) + 1 == 0) = false := by simp; omega
  go_enter Tryd.func16, Tryd.ntmps16
  go_wp2_with fail
  refine HP.out.mono ?_
  rintro e w1 ⟨rfl, h⟩
  subst h
  go_wp2
  go_ret
  exact ⟨rfl, rfl⟩
end Go.Proofs.YthfiaihbpnlbjaaDoor
