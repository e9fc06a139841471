/- Texts of the proof, bundled: Pr. -/
import Derived.Test.YtggjillpfclajaaGreatUPutDep02
import Derived.Test.YtggjillpfclajaaGreatUPutDep03
/- Both PutDep by one contract; laws.markDep by its contract. -/
namespace Go.Proofs.YtggjillpfclajaaGreat
open Go.RowKit Kit
/-- What is put, if there is room. -/
def putR (m : MD) (d : Dp) : MD := if 40 ≤ m.ds.length ∨ m.nx < 1 ∨ 100000 ≤ m.nx then m else { m with ds := m.ds ++ [⟨m.nx, d.kd, d.io, d.pt, d.bk, d.sl, d.nm, d.bt, d.ot, d.af, d.bl⟩], nx := m.nx + 1 }
/-- Its number, 0 without room. -/
def putN (m : MD) : Int := if 40 ≤ m.ds.length ∨ m.nx < 1 ∨ 100000 ≤ m.nx then 0 else m.nx
theorem putS_any (id kd io pt bk sl : Int) (nm : ByteArray) (bt ot : Bool) (af : Int) (bl : List Int) (p : Value) (u v iv bv dv pv : Value) (m : MD) (w : World) (h : MR w u v iv bv dv pv m) (hB : BigM 1048576 m) (hv : RInts w p bl) (hl : bl.length ≤ 1048576) :
    Calls Tryz.prog 17 #[.agg #[u, v, iv, bv, dv, pv, .int .i64 m.nx], .agg #[.int .i64 id, .int .i64 kd, .int .i64 io, .int .i64 pt, .int .i64 bk, .int .i64 sl, .string nm, .bool bt, .bool ot, .int .i64 af, p]] w fun e w' => ∃ u' v' i' b' d' p', e = .returned (.tuple #[.agg #[u', v', i', b', d', p', .int .i64 (putR m (⟨id, kd, io, pt, bk, sl, nm, bt, ot, af, bl⟩ : Dp)).nx], .int .i64 (putN m)]) ∧ MO w' (fun k => w.heap.size ≤ k) u' v' i' b' d' p' (putR m (⟨id, kd, io, pt, bk, sl, nm, bt, ot, af, bl⟩ : Dp)) ∧ Below w.heap.size w w' := by
  by_cases hf : 40 ≤ m.ds.length
  · have e1 : putR m (⟨id, kd, io, pt, bk, sl, nm, bt, ot, af, bl⟩ : Dp) = m := by unfold putR; rw [if_pos (.inl hf)]
    have e2 : putN m = 0 := by unfold putN; rw [if_pos (.inl hf)]
    rw [e1, e2]
    exact putS_full id kd io pt bk sl nm bt ot af bl p u v iv bv dv pv m w h hB hv hl hf
  · cases hx : inB m.nx 1 99999 with
    | false =>
      have c : 40 ≤ m.ds.length ∨ m.nx < 1 ∨ 100000 ≤ m.nx := by have := inB_false hx; omega
      have e1 : putR m (⟨id, kd, io, pt, bk, sl, nm, bt, ot, af, bl⟩ : Dp) = m := by unfold putR; rw [if_pos c]
      have e2 : putN m = 0 := by unfold putN; rw [if_pos c]
      rw [e1, e2]
      exact putS_next id kd io pt bk sl nm bt ot af bl p u v iv bv dv pv m w h hB hv hl (by omega) hx
    | true =>
      have c : ¬ (40 ≤ m.ds.length ∨ m.nx < 1 ∨ 100000 ≤ m.nx) := by have := inB_true hx; omega
      have e1 : putR m (⟨id, kd, io, pt, bk, sl, nm, bt, ot, af, bl⟩ : Dp) = { m with ds := m.ds ++ [⟨m.nx, kd, io, pt, bk, sl, nm, bt, ot, af, bl⟩], nx := m.nx + 1 } := by unfold putR; rw [if_neg c]
      have e2 : putN m = m.nx := by unfold putN; rw [if_neg c]
      rw [e1, e2]
      exact putS_yes id kd io pt bk sl nm bt ot af bl p u v iv bv dv pv m w h hB hv hl (by omega) hx
theorem putI_any (id kd io pt bk sl : Int) (nm : ByteArray) (bt ot : Bool) (af : Int) (bl : List Int) (p : Value) (u v iv bv dv pv : Value) (m : MD) (w : World) (h : MR w u v iv bv dv pv m) (hB : BigM 1048576 m) (hv : RInts w p bl) (hl : bl.length ≤ 1048576) (hn : nm.size ≤ 1048576) (hw : ∀ (j : Nat) (h : j < m.ds.length), (Lit.int .i64 m.ds[j].id).wf = true) (hnw : (Lit.int .i64 m.nx).wf = true) :
    Calls Tryz.prog 19 #[.agg #[u, v, iv, bv, dv, pv, .int .i64 m.nx], .agg #[.int .i64 id, .int .i64 kd, .int .i64 io, .int .i64 pt, .int .i64 bk, .int .i64 sl, .string nm, .bool bt, .bool ot, .int .i64 af, p]] w fun e w' => ∃ u' v' i' b' d' p', e = .returned (.tuple #[.agg #[u', v', i', b', d', p', .int .i64 (putR m (⟨id, kd, io, pt, bk, sl, nm, bt, ot, af, bl⟩ : Dp)).nx], .int .i64 (putN m)]) ∧ MO w' (fun k => w.heap.size ≤ k) u' v' i' b' d' p' (putR m (⟨id, kd, io, pt, bk, sl, nm, bt, ot, af, bl⟩ : Dp)) ∧ Below w.heap.size w w' := by
  by_cases hf : 40 ≤ m.ds.length ∨ m.nx < 1 ∨ 100000 ≤ m.nx
  · have e1 : putR m (⟨id, kd, io, pt, bk, sl, nm, bt, ot, af, bl⟩ : Dp) = m := by unfold putR; rw [if_pos hf]
    have e2 : putN m = 0 := by unfold putN; rw [if_pos hf]
    rw [e1, e2]
    by_cases c1 : 40 ≤ m.ds.length
    · exact putI_full id kd io pt bk sl nm bt ot af bl p u v iv bv dv pv m w h hB hv hl hn hw c1
    · by_cases c2 : m.nx < 1
      · exact putI_low id kd io pt bk sl nm bt ot af bl p u v iv bv dv pv m w h hB hv hl hn hw (by omega) c2
      · exact putI_high id kd io pt bk sl nm bt ot af bl p u v iv bv dv pv m w h hB hv hl hn hw (by omega) (by omega) (by omega)
  · have e1 : putR m (⟨id, kd, io, pt, bk, sl, nm, bt, ot, af, bl⟩ : Dp) = { m with ds := m.ds ++ [⟨m.nx, kd, io, pt, bk, sl, nm, bt, ot, af, bl⟩], nx := m.nx + 1 } := by unfold putR; rw [if_neg hf]
    have e2 : putN m = m.nx := by unfold putN; rw [if_neg hf]
    rw [e1, e2]
    exact putI_yes id kd io pt bk sl nm bt ot af bl p u v iv bv dv pv m w h hB hv hl hn hw (by omega) (by omega) (by omega) hnw
theorem big_put {m : MD} {d : Dp} (h : BigM 1048576 m) (hl : d.bl.length ≤ 1048576) (hn : d.nm.size ≤ 1048576) : BigM 1048576 (putR m d) := by
  unfold putR
  split
  · exact h
  · rename_i c
    refine ⟨h.d, h.f, by show (m.ds ++ [_]).length ≤ _; rw [List.length_append]; show m.ds.length + 1 ≤ _; omega, fun j hj => ?_, fun j hj => ?_⟩
    · show ((m.ds ++ [_])[j]'hj).bl.length ≤ _
      by_cases e : j < m.ds.length
      · rw [List.getElem_append_left e]; exact h.b j e
      · have e2 : j = m.ds.length := by have : j < (m.ds ++ [_]).length := hj; simp at this; omega
        subst e2
        simpa using hl
    · show ((m.ds ++ [_])[j]'hj).nm.size ≤ _
      by_cases e : j < m.ds.length
      · rw [List.getElem_append_left e]; exact h.t j e
      · have e2 : j = m.ds.length := by have : j < (m.ds ++ [_]).length := hj; simp at this; omega
        subst e2
        simpa using hn
set_option maxRecDepth 100000 in
set_option maxHeartbeats 800000 in
theorem markDep_any (id kd io pt bk sl : Int) (nm : ByteArray) (bt ot : Bool) (af : Int) (bl : List Int) (a : Option Addr) (c : Nat) (base k : Nat) (w : World) (ha : ROwns w base 3 (.slice a bl.length c) (ic bl)) (hk : k ≤ 100000000000000) (hl : bl.length ≤ 1048576) :
    Calls Tryz.prog 21 #[.agg #[.int .i64 id, .int .i64 kd, .int .i64 io, .int .i64 pt, .int .i64 bk, .int .i64 sl, .string nm, .bool bt, .bool ot, .int .i64 af, .slice a bl.length c], .int .i64 k] w fun e w' => e = .returned (.int .i64 (k + bl.length : Nat)) ∧ Chg (fun q => (Value.slice a bl.length c).ownBlock = some q) w w' := by
  have HA := hide ha
  clear ha
  go_enter Tryz.func21, Tryz.ntmps21
  go_wp2_with fail
  refine (markI_any _ bl base k _ (HA.out.alloc _) (by omega) (by omega)).mono ?_
  rintro e w2 ⟨rfl, -, G2⟩
  have HC : Hid (Chg (fun q => (Value.slice a bl.length c).ownBlock = some q) w w2) := (Chg.of_below ((Below.refl _ w).alloc (Nat.le_refl _) _)).trans (Chg.of_grown G2 fun q hq => hq)
  clear G2
  go_wp2
  go_ret
  exact ⟨rfl, HC.out⟩
end Go.Proofs.YtggjillpfclajaaGreat
