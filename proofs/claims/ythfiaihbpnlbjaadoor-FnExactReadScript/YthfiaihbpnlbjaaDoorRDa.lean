/- The walk of laws.FnExactReadDecimal: it returns true at every text. -/
import Derived.Test.YthfiaihbpnlbjaaDoorRDec
namespace Go.Proofs.YthfiaihbpnlbjaaDoor
open Go.RowKit Kit
theorem implRD_bad (s : ByteArray) (w : World) (r : Option Nat) (hr : rdd s.data.toList r) (hs : s.size ≤ 1048576) (hp : ¬ plainHead s.data.toList) :
    Calls Tryd.prog 28 #[.string s] w fun e w' => e = .returned (ddVal r) ∧ Below w.heap.size w w' := by
  have HV := hide (ddVal_none (rdd_head hr hp))
  by_cases h0 : 0 < s.size
  · have hh := head_cons h0
    have h1 : (s[0]).toNat = 48 ∧ 1 < s.size := Classical.byContradiction fun h => hp (hh.2 h)
    have hn1 : ¬ s.toList = [] := by
      intro e
      rw [ByteArray.toList_eq] at e
      have : s.data.toList.length = s.size := by simp
      rw [e] at this
      simp at this
      omega
    have hn2 : s.toList.isEmpty = false := by
      cases h : s.toList with
      | nil => exact absurd h hn1
      | cons a t => rfl
    have q0 := h1.1
    have q1 : decide ((1 : Int) < (s.size : Int)) = true := by simp; omega
    clear hr hp hh h1
    go_enter Tryd.func28, Tryd.ntmps28
    go_wp2
    go_step3
    go_wp2
    try rw [Exit.noGoto_ret]
    go_ret2
    exact ⟨ret_of HV.out, Below.refl _ _⟩
  · have hn1 : s.toList = [] := by
      rw [ByteArray.toList_eq]
      have e : s.data.toList.length = s.size := by simp
      exact List.length_eq_zero_iff.1 (by omega)
    have hn2 : s.toList.isEmpty = true := by rw [hn1]; rfl
    clear hr hp
    go_enter Tryd.func28, Tryd.ntmps28
    go_wp2
    go_step3
    go_wp2
    try rw [Exit.noGoto_ret]
    go_ret2
    exact ⟨ret_of HV.out, Below.refl _ _⟩
theorem implRD_any (s : ByteArray) (w : World) (r : Option Nat) (hr : rdd s.data.toList r) (hs : s.size ≤ 1048576) :
    Calls Tryd.prog 28 #[.string s] w fun e w' => e = .returned (ddVal r) ∧ Below w.heap.size w w' := by
  by_cases hp : plainHead s.data.toList
  · have h0 : 0 < s.size := Nat.pos_of_ne_zero fun h => head_empty h hp
    exact implRD_loop s w r hr hs hp h0 _ rfl ((head_cons h0).1 hp)
  · exact implRD_bad s w r hr hs hp
theorem specRD_any (s : ByteArray) (w : World) (r : Option Nat) (hr : rdd s.data.toList r) :
    Calls Tryd.prog 20 #[.string s] w fun e w' => e = .returned (ddVal r) ∧ Below w.heap.size w w' := by
  by_cases h : s.size ≤ 10
  · exact specRD_in s w r hr h
  · exact specRD_long s w r hr (by omega)
end Go.Proofs.YthfiaihbpnlbjaaDoor
