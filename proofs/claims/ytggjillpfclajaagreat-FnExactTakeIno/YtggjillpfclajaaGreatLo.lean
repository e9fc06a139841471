/- The leaners of a list: impl.leanersOf by its contract. -/
import Derived.Test.YtggjillpfclajaaGreatPt
import Derived.MapKept
namespace Go.Proofs.YtggjillpfclajaaGreat
open Go.RowKit Kit Go.Maps
theorem run_makeMap_hint (n : Int) (w : World) : (Instr.makeMap 78 (some (.int .i64 n))).run Tryz.prog w = .ok (.map (some w.heap.size)) (w.alloc (.map #[] 0)) := by
  simp [Instr.makeMap, run_underlying Tryz.u78, asInt, asIntOf, Result.andThen]
set_option maxRecDepth 100000 in
set_option maxHeartbeats 1600000 in
theorem leanersOf_any (pv : Value) (ds : List Dp) (w : World) (h : RN KDep w pv ds) (hl : ds.length ≤ 1048576) (hb : ∀ (j : Nat) (h : j < ds.length), ds[j].bl.length ≤ 1048576) (ht : ∀ (j : Nat) (h : j < ds.length), ds[j].nm.size ≤ 1048576) (hw : ∀ (j : Nat) (h : j < ds.length), (Lit.int .i64 ds[j].id).wf = true) :
    Calls Tryz.prog 47 #[pv] w fun e w' => ∃ B E ps, e = .returned (.map (some B)) ∧ LE Tryz.prog w' w.heap.size B E ps ∧ E.map (·.d) = ds ∧ (∀ (j : Nat) (h : j < E.length), E[j].pl = j) ∧ Below w.heap.size w w' := by
  have H := hide h
  have HB := hide hb
  have HT := hide ht
  have HW := hide hw
  obtain ⟨a6, c6, rfl, -⟩ := h.dep
  clear h hb ht hw
  have hmm := run_makeMap_hint
  go_enter Tryz.func47, Tryz.ntmps47
  go_wp2_with fail
  go_loopw [11] (fun i wr => ∃ j : Nat, j ≤ ds.length ∧ i = .int .i64 j ∧ Hid (∃ E ps, LE Tryz.prog wr w.heap.size w.heap.size E ps ∧ E.map (·.d) = ds.take j ∧ (∀ (k : Nat) (h : k < E.length), E[k].pl = k) ∧ Below w.heap.size w wr)) (fun i _ => ds.length - (intOf i).toNat)
  case atStart => exact ⟨0, Nat.zero_le _, rfl, [], [], LE.nil _ w, by simp, fun k h => by simp at h, (Below.refl _ w).alloc (Nat.le_refl _) _⟩
  case round =>
    obtain ⟨j, hj, rfl, HR⟩ := hrel
    by_cases hlt : j < ds.length
    · obtain ⟨E, ps, hE, hd, hp, bel⟩ := HR.out
      obtain ⟨ai, cai, ei, -, hci⟩ := H.out.dep
      obtain ⟨g, off, p, rfl, hg, mm, hpp⟩ := hci j hlt
      simp only [Value.slice.injEq, true_and] at ei
      obtain ⟨rfl, rfl⟩ := ei
      have hbl := HB.out j hlt
      have hnm := HT.out j hlt
      have hwf := HW.out j hlt
      have htk : ds.take j ++ [ds[j]] = ds.take (j + 1) := List.take_append_getElem hlt
      obtain ⟨X, hX⟩ : ∃ X, ds[j] = X := ⟨_, rfl⟩
      rw [hX] at mm hpp hbl hnm hwf htk
      obtain ⟨id, kd, io, pt, bk, sl, nm, bt, ot, af, bl⟩ := X
      simp only at hpp hbl hnm hwf
      obtain ⟨pa, pc, rfl⟩ := hpp.form
      have hEl : E.length = j := by
        have := congrArg List.length hd
        rw [List.length_map, List.length_take] at this
        omega
      have nn := mm.below bel hg
      simp only [DCells] at nn
      obtain ⟨n0, n1, n2, n3, n4, n5, n6, n7, n8, n9, n10⟩ := nn
      have hbw : Below wr.heap.size wr (wr.alloc (.cells #[.int .i64 id, .int .i64 kd, .int .i64 io, .int .i64 pt, .int .i64 bk, .int .i64 sl, .string nm, .bool bt, .bool ot, .int .i64 af, .slice pa bl.length pc] 52)) := (Below.refl _ wr).alloc (Nat.le_refl _) _
      have hsz := bel.size
      have HCALL : Hid (Calls Tryz.prog 48 #[.map (some w.heap.size), .agg #[.int .i64 id, .int .i64 kd, .int .i64 io, .int .i64 pt, .int .i64 bk, .int .i64 sl, .string nm, .bool bt, .bool ot, .int .i64 af, .slice pa bl.length pc], .int .i64 (j : Int)] (wr.alloc (.cells #[.int .i64 id, .int .i64 kd, .int .i64 io, .int .i64 pt, .int .i64 bk, .int .i64 sl, .string nm, .bool bt, .bool ot, .int .i64 af, .slice pa bl.length pc] 52)) fun e w' => e = .returned (.tuple #[]) ∧ ∃ E ps, LE Tryz.prog w' w.heap.size w.heap.size E ps ∧ E.map (·.d) = ds.take (j + 1) ∧ (∀ (k : Nat) (h : k < E.length), E[k].pl = k) ∧ Below w.heap.size w w') := by
        refine Calls.mono (put_any w.heap.size w.heap.size E ps j id kd io pt bk sl nm bt ot af bl (.slice pa bl.length pc) _ (hE.below hbw) ((hpp.below bel (Nat.le_refl _)).below hbw (Nat.le_refl _)) hbl hnm hwf (by omega) (Nat.le_trans hsz hbw.size)) ?_
        rintro e w' ⟨rfl, g', u, L', G'⟩
        refine ⟨rfl, _, _, L', ?_, fun k hk => ?_, ?_⟩
        · rw [List.map_append, hd]; exact htk
        · by_cases e : k < E.length
          · rw [List.getElem_append_left e]; exact hp k e
          · have e2 : k = E.length := by simp at hk; omega
            subst e2
            rw [List.getElem_append_right (Nat.le_refl _)]
            simp [hEl]
        · exact (bel.trans (hbw.mono hsz)).grown G' (Nat.le_trans hsz hbw.size) (fun k hk => by cases hk; exact Nat.le_refl _)
      have j0 : (0 : Int) ≤ (j : Int) := by omega
      have j1 : (j : Int) < (ds.length : Int) := by omega
      clear HR hE hd hp bel hci hX mm hpp hbl hnm hwf htk hbw hg hEl
      go_wp2_with (go_at_call 48; refine HCALL.out.mono ?_; rintro e w9 ⟨rfl, E9, ps9, L9⟩; have H9 := hide L9; clear L9)
      go_roundw
      case rel => exact ⟨j + 1, by omega, by go_num, E9, ps9, H9.out⟩
      case measure => simp [intOf]; omega
    · have hj2 : j = ds.length := by omega
      subst hj2
      go_wp2
      go_ret
      obtain ⟨E, ps, hE, hd, hp, bel⟩ := HR.out
      rw [List.take_length] at hd
      exact ⟨_, E, ps, rfl, hE, hd, hp, bel⟩
end Go.Proofs.YtggjillpfclajaaGreat
