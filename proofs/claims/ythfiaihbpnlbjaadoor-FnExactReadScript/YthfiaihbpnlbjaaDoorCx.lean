/- impl's exactly, called, by its contract. -/
import Derived.Test.YthfiaihbpnlbjaaDoorCl
namespace Go.Proofs.YthfiaihbpnlbjaaDoor
open Go.RowKit Kit
set_option maxRecDepth 100000 in
set_option maxHeartbeats 3200000 in
theorem exact0_any (pn pr n g : Nat) (eg : ∀ args w, (callFunc g args).run Tryd.prog w = .ok (.enter g args) w) (X : Evt) (ok : Bool) (a : Option Addr) (c l : Nat) (w : World)
    (hn : AtC w pn 3 #[.int .i64 n]) (hr : AtC w pr 48 #[.func (.func g) #[] #[]])
    (hcall : l = n → ∀ W, Below w.heap.size w W → Calls Tryd.prog g #[.slice a l c] W fun e w' => e = .returned (.tuple #[evW X, .bool ok]) ∧ Below W.heap.size W w') :
    Calls Tryd.prog 39 #[.slice a l c, pt pn, pt pr] w fun e w' => e = .returned (if l = n then .tuple #[evW X, .bool ok] else .tuple #[evW evd, .bool false]) ∧ Below w.heap.size w w' := by
  have HC := hide hcall
  clear hcall
  have hnl := hn.lt
  have hrl := hr.lt
  have hn0 : w.cell? ⟨pn, 0, none⟩ = some (.int .i64 n) := hn.cell 0
  have hr0 : w.cell? ⟨pr, 0, none⟩ = some (.func (.func g) #[] #[]) := hr.cell 0
  by_cases h : l = n
  · rw [if_pos h]
    obtain ⟨W0, hW0⟩ : ∃ W0, w.alloc (.cells #[.int .i64 0, .string e0, .string e0, .int .i64 0, .string e0] 33) = W0 := ⟨_, rfl⟩
    have HB : Hid (Below w.heap.size w W0 ∧ AtC W0 w.heap.size 33 #[.int .i64 0, .string e0, .string e0, .int .i64 0, .string e0] ∧ w.heap.size < W0.heap.size) := by
      rw [← hW0]
      exact hide ⟨(Below.refl _ w).alloc (Nat.le_refl _) _, AtC.new w 33 _, by simp⟩
    have n0 := (HB.out.1.cell (p := ⟨pn, 0, none⟩) hnl).trans hn0
    have n1 := (HB.out.1.cell (p := ⟨pr, 0, none⟩) hrl).trans hr0
    have b1 : ((l : Int) != (n : Int)) = false := by rw [h]; simp
    have HD := hide (HC.out h)
    have HL := hide h
    clear hn hr HC h
    go_enter Tryd.func39, Tryd.ntmps39
    go_wp2_with fail
    refine (HD.out _ HB.out.1).mono ?_
    rintro e w1 ⟨rfl, B1⟩
    obtain ⟨x0, x1, x2, x3, x4⟩ := X
    have HB1 : Hid (Below w.heap.size w w1 ∧ AtC w1 w.heap.size 33 #[.int .i64 0, .string e0, .string e0, .int .i64 0, .string e0]) := hide ⟨HB.out.1.trans (B1.mono HB.out.1.size), HB.out.2.1.over B1⟩
    obtain ⟨l0, l1, l2, l3, l4, lz⟩ := HB1.out.2.five
    obtain ⟨f0, f1, f2, f3, f4⟩ := HB1.out.2.frz5
    have HR := hide (res5 HB1.out.2 (.int .i64 x0) (.string x1) (.string x2) (.int .i64 x3) (.string x4))
    obtain ⟨r0, r1, r2, r3, r4, rz⟩ := HR.out.five
    clear B1
    go_wp2
    refine bodyPost_ret (v := .tuple #[.agg #[.int .i64 x0, .string x1, .string x2, .int .i64 x3, .string x4], .bool ok]) (by simp [results, go_sem, r0, r1, r2, r3, r4]) rfl ⟨rfl, ?_⟩
    exact below_set (below_set (below_set (below_set (below_set HB1.out.1 _ _ _ (Nat.le_refl _)) _ _ _ (Nat.le_refl _)) _ _ _ (Nat.le_refl _)) _ _ _ (Nat.le_refl _)) _ _ _ (Nat.le_refl _)
  · rw [if_neg h]
    have b1 : ((l : Int) != (n : Int)) = true := by simp; omega
    clear hn hr HC h
    go_enter Tryd.func39, Tryd.ntmps39
    go_wp2
    exact bodyPost_ret (v := .tuple #[.agg #[.int .i64 0, .string e0, .string e0, .int .i64 0, .string e0], .bool false]) (by simp [results, go_sem]) rfl ⟨rfl, by go_grown⟩
set_option maxRecDepth 100000 in
set_option maxHeartbeats 3200000 in
theorem exact1_any (pn pr n g : Nat) (u : Value) (eg : ∀ args w, (callFunc g args).run Tryd.prog w = .ok (.enter g args) w) (X : Evt) (ok : Bool) (a : Option Addr) (c l : Nat) (w : World)
    (hn : AtC w pn 3 #[.int .i64 n]) (hr : AtC w pr 48 #[.func (.func g) #[] #[u]])
    (hcall : l = n → ∀ W, Below w.heap.size w W → Calls Tryd.prog g #[.slice a l c, u] W fun e w' => e = .returned (.tuple #[evW X, .bool ok]) ∧ Below W.heap.size W w') :
    Calls Tryd.prog 39 #[.slice a l c, pt pn, pt pr] w fun e w' => e = .returned (if l = n then .tuple #[evW X, .bool ok] else .tuple #[evW evd, .bool false]) ∧ Below w.heap.size w w' := by
  have HC := hide hcall
  clear hcall
  have hnl := hn.lt
  have hrl := hr.lt
  have hn0 : w.cell? ⟨pn, 0, none⟩ = some (.int .i64 n) := hn.cell 0
  have hr0 : w.cell? ⟨pr, 0, none⟩ = some (.func (.func g) #[] #[u]) := hr.cell 0
  by_cases h : l = n
  · rw [if_pos h]
    obtain ⟨W0, hW0⟩ : ∃ W0, w.alloc (.cells #[.int .i64 0, .string e0, .string e0, .int .i64 0, .string e0] 33) = W0 := ⟨_, rfl⟩
    have HB : Hid (Below w.heap.size w W0 ∧ AtC W0 w.heap.size 33 #[.int .i64 0, .string e0, .string e0, .int .i64 0, .string e0] ∧ w.heap.size < W0.heap.size) := by
      rw [← hW0]
      exact hide ⟨(Below.refl _ w).alloc (Nat.le_refl _) _, AtC.new w 33 _, by simp⟩
    have n0 := (HB.out.1.cell (p := ⟨pn, 0, none⟩) hnl).trans hn0
    have n1 := (HB.out.1.cell (p := ⟨pr, 0, none⟩) hrl).trans hr0
    have b1 : ((l : Int) != (n : Int)) = false := by rw [h]; simp
    have HD := hide (HC.out h)
    have HL := hide h
    clear hn hr HC h
    go_enter Tryd.func39, Tryd.ntmps39
    go_wp2_with fail
    refine (HD.out _ HB.out.1).mono ?_
    rintro e w1 ⟨rfl, B1⟩
    obtain ⟨x0, x1, x2, x3, x4⟩ := X
    have HB1 : Hid (Below w.heap.size w w1 ∧ AtC w1 w.heap.size 33 #[.int .i64 0, .string e0, .string e0, .int .i64 0, .string e0]) := hide ⟨HB.out.1.trans (B1.mono HB.out.1.size), HB.out.2.1.over B1⟩
    obtain ⟨l0, l1, l2, l3, l4, lz⟩ := HB1.out.2.five
    obtain ⟨f0, f1, f2, f3, f4⟩ := HB1.out.2.frz5
    have HR := hide (res5 HB1.out.2 (.int .i64 x0) (.string x1) (.string x2) (.int .i64 x3) (.string x4))
    obtain ⟨r0, r1, r2, r3, r4, rz⟩ := HR.out.five
    clear B1
    go_wp2
    refine bodyPost_ret (v := .tuple #[.agg #[.int .i64 x0, .string x1, .string x2, .int .i64 x3, .string x4], .bool ok]) (by simp [results, go_sem, r0, r1, r2, r3, r4]) rfl ⟨rfl, ?_⟩
    exact below_set (below_set (below_set (below_set (below_set HB1.out.1 _ _ _ (Nat.le_refl _)) _ _ _ (Nat.le_refl _)) _ _ _ (Nat.le_refl _)) _ _ _ (Nat.le_refl _)) _ _ _ (Nat.le_refl _)
  · rw [if_neg h]
    have b1 : ((l : Int) != (n : Int)) = true := by simp; omega
    clear hn hr HC h
    go_enter Tryd.func39, Tryd.ntmps39
    go_wp2
    exact bodyPost_ret (v := .tuple #[.agg #[.int .i64 0, .string e0, .string e0, .int .i64 0, .string e0], .bool false]) (by simp [results, go_sem]) rfl ⟨rfl, by go_grown⟩
end Go.Proofs.YthfiaihbpnlbjaaDoor
