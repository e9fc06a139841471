/- spec.Settled and impl.Settled by their contracts. -/
import Derived.Test.YtgjbenbodegnjaaTm
import Derived.Test.YtgjbenbodegnjaaBIn
namespace Go.Proofs.Ytgjbenbodegnjaa.Kit
open Go.RowKit
/-- Is one of the flags set. -/
def anyT : List Bool → Bool
  | [] => false
  | b :: r => b || anyT r
theorem anyT_drop (l : List Bool) (j : Nat) (h : j < l.length) : anyT (l.drop j) = (l[j] || anyT (l.drop (j + 1))) := by
  rw [List.drop_eq_getElem_cons h]
  rfl
theorem anyT_end (l : List Bool) (j : Nat) (h : l.length ≤ j) : anyT (l.drop j) = false := by
  rw [List.drop_eq_nil_of_le h]
  rfl
theorem len_eq0 (n : Nat) : ((n : Int) == 0) = decide (n = 0) := by
  rw [Bool.eq_iff_iff]
  simp
/-- Settled, of flags and of how many lean. -/
def setl (l : List Bool) (n : Nat) : Bool := decide (n = 0) && !anyT l
end Go.Proofs.Ytgjbenbodegnjaa.Kit
namespace Go.Proofs.Ytgjbenbodegnjaa
open Go.RowKit Kit
set_option maxRecDepth 100000 in
set_option maxHeartbeats 800000 in
theorem index_any (v : Value) (l : List Bool) (w : World) (h : RFl w v l) (hl : l.length ≤ 1048576) :
    Calls Try.prog 27 #[v, .bool true] w fun e w' => (∃ r : Int, e = .returned (.int .i64 r) ∧ -1 ≤ r ∧ r ≤ 1048576 ∧ anyT l = decide (0 ≤ r)) ∧ Below w.heap.size w w' := by
  obtain ⟨a, c, rfl, h⟩ := h
  have HA := hide h
  obtain ⟨R, hR⟩ : ∃ R, anyT l = R := ⟨_, rfl⟩
  have HR := hide hR
  rw [hR]
  clear h hR
  go_enter Try.func27, Try.ntmps27
  go_wp2
  go_loopw [8] (fun i wr => ∃ j : Nat, j ≤ l.length ∧ i = .int .i64 j ∧ Hid (R = anyT (l.drop j)) ∧ ∃ q, wr = w.drewN q) (fun i _ => l.length - (intOf i).toNat)
  case atStart => exact ⟨0, Nat.zero_le _, rfl, by show R = _; rw [List.drop_zero, HR.out], 0, rfl⟩
  case round =>
    obtain ⟨j, hj, rfl, HD, q, rfl⟩ := hrel
    by_cases hlt : j < l.length
    · obtain ⟨g, off, rfl, _, k1⟩ := HA.out j hlt
      have hd := anyT_drop l j hlt
      rw [← HD.out] at hd
      obtain ⟨t, ht⟩ : ∃ t, l[j] = t := ⟨_, rfl⟩
      rw [ht] at k1 hd
      clear ht
      have HD2 := hide hd
      clear hd HD
      have j0 : (0 : Int) ≤ (j : Int) := by omega
      have j1 : (j : Int) < (l.length : Int) := by omega
      cases t
      · go_wp2
        go_roundw
        case rel => exact ⟨j + 1, by omega, by go_num, by show R = _; rw [HD2.out]; rfl, _, rfl⟩
        case measure => simp [intOf]; omega
      · go_wp2
        go_ret
        exact ⟨⟨_, rfl, by omega, by omega, by rw [HD2.out]; simp⟩, below_drewN (Below.refl _ _) _⟩
    · have HE : Hid (R = false) := by show R = false; rw [HD.out, anyT_end _ _ (by omega)]
      go_wp2
      go_ret
      exact ⟨⟨_, rfl, by omega, by omega, by rw [HE.out]; simp⟩, below_drewN (Below.refl _ _) _⟩
set_option maxRecDepth 100000 in
set_option maxHeartbeats 800000 in
theorem contains_any (v : Value) (l : List Bool) (w : World) (h : RFl w v l) (hl : l.length ≤ 1048576) :
    Calls Try.prog 15 #[v, .bool true] w fun e w' => e = .returned (.bool (anyT l)) ∧ Below w.heap.size w w' := by
  have CI : Hid (Calls Try.prog 27 #[v, .bool true] w fun e w' => (∃ r : Int, e = .returned (.int .i64 r) ∧ -1 ≤ r ∧ r ≤ 1048576 ∧ anyT l = decide (0 ≤ r)) ∧ Below w.heap.size w w') := index_any v l w h hl
  obtain ⟨a, c, rfl⟩ := h.form
  clear h
  obtain ⟨R, hR⟩ : ∃ R, anyT l = R := ⟨_, rfl⟩
  rw [hR] at CI ⊢
  clear hR
  go_enter Try.func15, Try.ntmps15
  go_wp2_with (go_at_call 27; refine (CI.out).mono ?_; rintro e w1 ⟨⟨r, rfl, r1, r2, hr⟩, B1⟩; have H1 := hide B1; have HR := hide hr; clear B1 hr)
  go_ret
  exact ⟨by rw [HR.out]; rfl, H1.out⟩
set_option maxRecDepth 100000 in
set_option maxHeartbeats 1600000 in
theorem specSettled_any (u v iv bv dv pv : Value) (m : MD) (w : World) (h : MR w u v iv bv dv pv m) (hl : m.fs.length ≤ 1048576) :
    Calls Try.prog 5 #[.agg #[u, v, iv, bv, dv, pv, .int .i64 m.nx]] w fun e w' => e = .returned (.bool (setl m.fs m.ds.length)) ∧ Below w.heap.size w w' := by
  obtain ⟨a1, c1, a2, c2, a3, c3, a4, c4, a5, c5, a6, c6, rfl, rfl, rfl, rfl, rfl, rfl⟩ := h.form
  obtain ⟨a, c, ei, hc⟩ := h.f
  simp only [Value.slice.injEq, true_and] at ei
  obtain ⟨rfl, rfl⟩ := ei
  have HC := hide hc
  obtain ⟨R, hR⟩ : ∃ R, anyT m.fs = R := ⟨_, rfl⟩
  have HR := hide hR
  have HA : Hid (∀ W, Below (w.alloc (.cells #[.slice a1 m.xs.length c1, .slice a2 m.ys.length c2, .slice a3 m.is.length c3, .slice a4 m.bs.length c4, .slice a5 m.fs.length c5, .slice a6 m.ds.length c6, .int .i64 m.nx] 41)).heap.size (w.alloc (.cells #[.slice a1 m.xs.length c1, .slice a2 m.ys.length c2, .slice a3 m.is.length c3, .slice a4 m.bs.length c4, .slice a5 m.fs.length c5, .slice a6 m.ds.length c6, .int .i64 m.nx] 41)) W → W.cell? ⟨w.heap.size, 1 + 3, none⟩ = some (.slice a5 m.fs.length c5) ∧ W.cell? ⟨w.heap.size, 5, none⟩ = some (.slice a6 m.ds.length c6)) := fun W bb => ⟨((AtC.new w 41 _).over bb).cell 4, ((AtC.new w 41 _).over bb).cell 5⟩
  have HW : Hid (∀ W, Below (w.alloc (.cells #[.slice a1 m.xs.length c1, .slice a2 m.ys.length c2, .slice a3 m.is.length c3, .slice a4 m.bs.length c4, .slice a5 m.fs.length c5, .slice a6 m.ds.length c6, .int .i64 m.nx] 41)).heap.size (w.alloc (.cells #[.slice a1 m.xs.length c1, .slice a2 m.ys.length c2, .slice a3 m.is.length c3, .slice a4 m.bs.length c4, .slice a5 m.fs.length c5, .slice a6 m.ds.length c6, .int .i64 m.nx] 41)) W → Below w.heap.size w W) := fun W bb => ((Below.refl _ w).alloc (Nat.le_refl _) _).trans (bb.mono (by simp))
  clear hc h
  unfold setl
  rw [hR]
  clear hR
  go_enter Try.func5, Try.ntmps5
  go_wp2
  generalize w.alloc (.cells #[.slice a1 m.xs.length c1, .slice a2 m.ys.length c2, .slice a3 m.is.length c3, .slice a4 m.bs.length c4, .slice a5 m.fs.length c5, .slice a6 m.ds.length c6, .int .i64 m.nx] 41) = W0 at *
  go_loopw [3] (fun i wr => ∃ j : Nat, j ≤ m.fs.length ∧ i = .int .i64 j ∧ Hid (R = anyT (m.fs.drop j)) ∧ Hid (Below W0.heap.size W0 wr)) (fun i _ => m.fs.length - (intOf i).toNat)
  case atStart => exact ⟨0, Nat.zero_le _, rfl, by show R = _; rw [List.drop_zero, HR.out], Below.refl _ _⟩
  case round =>
    obtain ⟨j, hj, rfl, HD, HB⟩ := hrel
    obtain ⟨x4, x5⟩ := HA.out _ HB.out
    simp only [Nat.reduceAdd] at x4
    by_cases hlt : j < m.fs.length
    · obtain ⟨g, off, rfl, hg, k0⟩ := HC.out j hlt
      have hb := HW.out _ HB.out
      have hd := anyT_drop m.fs j hlt
      rw [← HD.out] at hd
      obtain ⟨t, ht⟩ : ∃ t, m.fs[j] = t := ⟨_, rfl⟩
      rw [ht] at k0 hd
      have k1 : wr.cell? ⟨g, off + j, none⟩ = some (.bool t) := (hb.cell (p := ⟨g, off + j, none⟩) hg).trans k0
      have HD2 := hide hd
      clear hd HD ht hb k0
      have j0 : (0 : Int) ≤ (j : Int) := by omega
      have j1 : (j : Int) < (m.fs.length : Int) := by omega
      cases t
      · go_wp2
        go_roundw
        case rel => exact ⟨j + 1, by omega, by go_num, by show R = _; rw [HD2.out]; rfl, HB.out⟩
        case measure => simp [intOf]; omega
      · go_wp2
        go_ret
        exact ⟨by rw [HD2.out]; simp, HW.out _ HB.out⟩
    · have HE : Hid (R = false) := by show R = false; rw [HD.out, anyT_end _ _ (by omega)]
      go_wp2
      go_ret
      exact ⟨by rw [HE.out]; show Ending.returned (.bool ((m.ds.length : Int) == 0)) = _; rw [len_eq0, Bool.not_false, Bool.and_true], HW.out _ HB.out⟩
set_option maxRecDepth 100000 in
set_option maxHeartbeats 1600000 in
theorem implSettled_any (u v iv bv dv pv : Value) (m : MD) (w : World) (h : MR w u v iv bv dv pv m) (hl : m.fs.length ≤ 1048576) :
    Calls Try.prog 7 #[.agg #[u, v, iv, bv, dv, pv, .int .i64 m.nx]] w fun e w' => e = .returned (.bool (setl m.fs m.ds.length)) ∧ Below w.heap.size w w' := by
  obtain ⟨a1, c1, a2, c2, a3, c3, a4, c4, a5, c5, a6, c6, rfl, rfl, rfl, rfl, rfl, rfl⟩ := h.form
  have HF := hide h.f
  have hf2 : Hid (∀ W, Below w.heap.size w W → Calls Try.prog 15 #[.slice a5 m.fs.length c5, .bool true] W fun e w' => e = .returned (.bool (anyT m.fs)) ∧ Below W.heap.size W w') := fun W bb => contains_any _ m.fs W (HF.out.below bb (Nat.le_refl _)) hl
  have x4 : (w.alloc (.cells #[.slice a1 m.xs.length c1, .slice a2 m.ys.length c2, .slice a3 m.is.length c3, .slice a4 m.bs.length c4, .slice a5 m.fs.length c5, .slice a6 m.ds.length c6, .int .i64 m.nx] 41)).cell? ⟨w.heap.size, 4, none⟩ = some (.slice a5 m.fs.length c5) := (AtC.new w 41 #[.slice a1 m.xs.length c1, .slice a2 m.ys.length c2, .slice a3 m.is.length c3, .slice a4 m.bs.length c4, .slice a5 m.fs.length c5, .slice a6 m.ds.length c6, .int .i64 m.nx]).cell 4
  have x5 : (w.alloc (.cells #[.slice a1 m.xs.length c1, .slice a2 m.ys.length c2, .slice a3 m.is.length c3, .slice a4 m.bs.length c4, .slice a5 m.fs.length c5, .slice a6 m.ds.length c6, .int .i64 m.nx] 41)).cell? ⟨w.heap.size, 5, none⟩ = some (.slice a6 m.ds.length c6) := (AtC.new w 41 #[.slice a1 m.xs.length c1, .slice a2 m.ys.length c2, .slice a3 m.is.length c3, .slice a4 m.bs.length c4, .slice a5 m.fs.length c5, .slice a6 m.ds.length c6, .int .i64 m.nx]).cell 5
  have HW : Hid (Below w.heap.size w (w.alloc (.cells #[.slice a1 m.xs.length c1, .slice a2 m.ys.length c2, .slice a3 m.is.length c3, .slice a4 m.bs.length c4, .slice a5 m.fs.length c5, .slice a6 m.ds.length c6, .int .i64 m.nx] 41))) := (Below.refl _ w).alloc (Nat.le_refl _) _
  clear h
  obtain ⟨R, hR⟩ : ∃ R, anyT m.fs = R := ⟨_, rfl⟩
  unfold setl
  rw [hR] at hf2 ⊢
  clear hR HF
  by_cases hn : m.ds.length = 0
  · rw [hn] at x4 x5 HW ⊢
    clear hn
    go_enter Try.func7, Try.ntmps7
    go_wp2_with (go_at_call 15; refine (hf2.out _ HW.out).mono ?_; rintro e w1 ⟨rfl, B1⟩; have H1 := hide (HW.out.trans (B1.mono HW.out.size)); clear B1)
    go_ret
    exact ⟨by simp, H1.out⟩
  · have hn2 : (m.ds.length : Int) ≠ 0 := by omega
    go_enter Try.func7, Try.ntmps7
    go_wp2
    go_ret
    exact ⟨by simp [hn], HW.out⟩
end Go.Proofs.Ytgjbenbodegnjaa
