/- Texts of the proof, bundled: Ff, Tk. -/
import Derived.Test.YtggjillpfclajaaGreatU02
import Derived.Test.YtggjillpfclajaaGreatU07
import Derived.Test.YtggjillpfclajaaGreatU10
/- FirstFree, and the mark of unit 0, by their contracts. -/
namespace Go.Proofs.YtggjillpfclajaaGreat.Kit
open Go.RowKit
/-- The place of the first false, and 1; 0 without one. -/
def ff : List Bool → Nat
  | [] => 0
  | b :: r => if b then (if ff r = 0 then 0 else ff r + 1) else 1
theorem ff_at (l : List Bool) (j : Nat) (h : j < l.length) (hf : l[j] = false) (ha : ∀ (i : Nat) (hi : i < j), l[i] = true) : ff l = j + 1 := by
  induction l generalizing j with
  | nil => simp at h
  | cons b r ih =>
    cases j with
    | zero => simp at hf; simp [ff, hf]
    | succ j =>
      have h0 : b = true := ha 0 (by omega)
      have h1 := ih j (by simpa using h) (by simpa using hf) (fun i hi => by have := ha (i + 1) (by omega); simpa using this)
      simp [ff, h0, h1]
theorem ff_none (l : List Bool) (ha : ∀ (i : Nat) (hi : i < l.length), l[i] = true) : ff l = 0 := by
  induction l with
  | nil => rfl
  | cons b r ih =>
    have h0 : b = true := ha 0 (by simp)
    have h1 := ih (fun i hi => by have := ha (i + 1) (by simp; omega); simpa using this)
    simp [ff, h0, h1]
theorem ff_or (l : List Bool) : (ff l = 0 ∧ ∀ (i : Nat) (hi : i < l.length), l[i] = true) ∨ ∃ (k : Nat) (hk : k < l.length), ff l = k + 1 ∧ l[k] = false ∧ ∀ (i : Nat) (hi : i < k), l[i] = true := by
  induction l with
  | nil => left; exact ⟨rfl, fun i hi => by simp at hi⟩
  | cons b r ih =>
    cases b with
    | false => right; exact ⟨0, by simp, rfl, rfl, fun i hi => by omega⟩
    | true =>
      rcases ih with ⟨e, h⟩ | ⟨k, hk, e, h1, h2⟩
      · left
        refine ⟨by simp [ff, e], fun i hi => ?_⟩
        cases i with
        | zero => rfl
        | succ i => simpa using h i (by simpa using hi)
      · right
        refine ⟨k + 1, by simpa using hk, by simp [ff, e], by simpa using h1, fun i hi => ?_⟩
        cases i with
        | zero => rfl
        | succ i => simpa using h2 i (by omega)
theorem ff_le (l : List Bool) : ff l ≤ l.length := by
  rcases ff_or l with ⟨e, _⟩ | ⟨k, hk, e, _⟩ <;> omega
end Go.Proofs.YtggjillpfclajaaGreat.Kit
namespace Go.Proofs.YtggjillpfclajaaGreat
open Go.RowKit Kit

theorem fc_set (l : List Bool) (k : Nat) (b : Bool) : fc (l.set k b) = (fc l).set k (.bool b) := by simp [fc, List.map_set]
set_option maxRecDepth 100000 in
set_option maxHeartbeats 1600000 in
theorem firstFreeI_any (v : Value) (l : List Bool) (w : World) (hv : RFl w v l) (hl : l.length ≤ 1048576) :
    Calls Tryz.prog 59 #[v] w fun e w' => e = .returned (.int .i64 (ff l : Nat)) ∧ w = w' := by
  obtain ⟨a, c, rfl, ha⟩ := hv
  have HA := hide ha
  clear ha
  go_enter Tryz.func59, Tryz.ntmps59
  go_wp2
  go_loopw [7] (fun i wr => ∃ j : Nat, j ≤ l.length ∧ i = .int .i64 j ∧ Hid (∀ (i : Nat) (h1 : i < j) (h2 : i < l.length), l[i] = true) ∧ w = wr) (fun i _ => l.length - (intOf i).toNat)
  case atStart => exact ⟨0, Nat.zero_le _, rfl, hide (fun i h1 h2 => by omega), rfl⟩
  case round =>
    obtain ⟨j, hj, rfl, HT, rfl⟩ := hrel
    by_cases hlt : j < l.length
    · obtain ⟨g, off, rfl, _, k1⟩ := HA.out j hlt
      obtain ⟨t, ht⟩ : ∃ t, l[j] = t := ⟨_, rfl⟩
      rw [ht] at k1
      have j0 : (0 : Int) ≤ (j : Int) := by omega
      have j1 : (j : Int) < (l.length : Int) := by omega
      cases t with
      | true =>
        have HT2 : Hid (∀ (i : Nat) (h1 : i < j + 1) (h2 : i < l.length), l[i] = true) := hide (fun i h1 h2 => by
          by_cases e : i = j
          · subst e; exact ht
          · exact HT.out i (by omega) h2)
        clear ht
        go_wp2
        go_roundw
        case rel => exact ⟨j + 1, by omega, by go_num, HT2, trivial⟩
        case measure => simp [intOf]; omega
      | false =>
        have HF := hide (ff_at l j hlt ht (fun i hi => HT.out i hi (by omega)))
        clear ht
        go_wp2
        go_ret
        exact ⟨ret_of (show Value.int .i64 _ = Value.int .i64 _ by rw [HF.out]; rfl), rfl⟩
    · have HF := hide (ff_none l (fun i hi => HT.out i (by omega) hi))
      go_wp2
      go_ret
      exact ⟨by rw [HF.out]; rfl, rfl⟩
set_option maxRecDepth 100000 in
set_option maxHeartbeats 1600000 in
theorem firstFreeS_any (v : Value) (l : List Bool) (w : World) (hv : RFl w v l) (hl : l.length ≤ 1048576) :
    Calls Tryz.prog 28 #[v] w fun e w' => e = .returned (.int .i64 (ff l : Nat)) ∧ w = w' := by
  obtain ⟨a, c, rfl, ha⟩ := hv
  have HA := hide ha
  clear ha
  go_enter Tryz.func28, Tryz.ntmps28
  go_wp2
  go_loopw [3] (fun i wr => ∃ j : Nat, j ≤ l.length ∧ i = .int .i64 j ∧ Hid (∀ (i : Nat) (h1 : i < j) (h2 : i < l.length), l[i] = true) ∧ w = wr) (fun i _ => l.length - (intOf i).toNat)
  case atStart => exact ⟨0, Nat.zero_le _, rfl, hide (fun i h1 h2 => by omega), rfl⟩
  case round =>
    obtain ⟨j, hj, rfl, HT, rfl⟩ := hrel
    by_cases hlt : j < l.length
    · obtain ⟨g, off, rfl, _, k1⟩ := HA.out j hlt
      obtain ⟨t, ht⟩ : ∃ t, l[j] = t := ⟨_, rfl⟩
      rw [ht] at k1
      have j0 : (0 : Int) ≤ (j : Int) := by omega
      have j1 : (j : Int) < (l.length : Int) := by omega
      cases t with
      | true =>
        have HT2 : Hid (∀ (i : Nat) (h1 : i < j + 1) (h2 : i < l.length), l[i] = true) := hide (fun i h1 h2 => by
          by_cases e : i = j
          · subst e; exact ht
          · exact HT.out i (by omega) h2)
        clear ht
        go_wp2
        go_roundw
        case rel => exact ⟨j + 1, by omega, by go_num, HT2, trivial⟩
        case measure => simp [intOf]; omega
      | false =>
        have HF := hide (ff_at l j hlt ht (fun i hi => HT.out i hi (by omega)))
        clear ht
        go_wp2
        go_ret
        exact ⟨ret_of (show Value.int .i64 _ = Value.int .i64 _ by rw [HF.out]; rfl), rfl⟩
    · have HF := hide (ff_none l (fun i hi => HT.out i (by omega) hi))
      go_wp2
      go_ret
      exact ⟨by rw [HF.out]; rfl, rfl⟩
set_option maxRecDepth 100000 in
set_option maxHeartbeats 1600000 in
theorem mark29_any (b : Nat) (u v iv bv pv : Value) (a : Option Addr) (c : Nat) (fs : List Bool) (nx : Int) (w : World) (h : AtC w b 40 #[u, v, iv, bv, .slice a fs.length c, pv, .int .i64 nx]) (ho : ROwns w 0 4 (.slice a fs.length c) (fc fs)) :
    Calls Tryz.prog 29 #[.pointer (some ⟨b, 0, none⟩), .int .i64 0] w fun e w' => e = .returned (.tuple #[]) ∧ ROwns w' 0 4 (.slice a fs.length c) (fc (fs.set 0 true)) ∧ w.grownBy w' (Value.slice a fs.length c).ownBlock := by
  have x4 : w.cell? ⟨b, 4, none⟩ = some (.slice a fs.length c) := h.cell 4
  have HO := hide ho
  clear ho h
  by_cases hl : 0 < fs.length
  · obtain ⟨g, cap, e1, k1, k2, k3, k4⟩ := HO.out.at 0 (by rw [fc_length]; exact hl)
    rw [fc_length] at e1
    simp only [Value.slice.injEq, true_and] at e1
    obtain ⟨rfl, rfl⟩ := e1
    have k1' : w.cell? ⟨g, 0, none⟩ = some (.bool fs[0]) := k1.trans (by simp [fc, hl])
    generalize fs[0] = t0 at k1'
    clear k1
    have HS := hide (ROwns.stored (l := fc fs) (g := g) (cap := c) (by rw [fc_length]; exact HO.out) 0 (.bool true))
    have hl1 : (0 : Int) < (fs.length : Int) := by omega
    have hd : decide ((0 : Int) < (fs.length : Int)) = true := decide_eq_true hl1
    clear HO
    go_enter Tryz.func29, Tryz.ntmps29
    go_wp2
    go_end0
    have q := HS.out.1
    rw [fc_length, ← fc_set] at q
    exact ⟨rfl, q, HS.out.2⟩
  · have hl1 : ¬ (0 : Int) < (fs.length : Int) := by omega
    have hd : decide ((0 : Int) < (fs.length : Int)) = false := decide_eq_false hl1
    have hfs : fs = [] := List.length_eq_zero_iff.1 (by omega)
    have HF := hide hfs
    clear hfs
    go_enter Tryz.func29, Tryz.ntmps29
    go_wp2
    go_end0
    have e := HF.out
    refine ⟨rfl, ?_, grownBy_below (Below.refl _ _) _⟩
    rw [show fs.set 0 true = fs by rw [e]; rfl]
    exact HO.out
set_option maxRecDepth 100000 in
set_option maxHeartbeats 1600000 in
theorem mark60_any (b : Nat) (u v iv bv pv : Value) (a : Option Addr) (c : Nat) (fs : List Bool) (nx : Int) (w : World) (h : AtC w b 40 #[u, v, iv, bv, .slice a fs.length c, pv, .int .i64 nx]) (ho : ROwns w 0 4 (.slice a fs.length c) (fc fs)) :
    Calls Tryz.prog 60 #[.pointer (some ⟨b, 0, none⟩), .int .i64 0] w fun e w' => e = .returned (.tuple #[]) ∧ ROwns w' 0 4 (.slice a fs.length c) (fc (fs.set 0 true)) ∧ w.grownBy w' (Value.slice a fs.length c).ownBlock := by
  have x4 : w.cell? ⟨b, 4, none⟩ = some (.slice a fs.length c) := h.cell 4
  have HO := hide ho
  clear ho h
  by_cases hl : 0 < fs.length
  · obtain ⟨g, cap, e1, k1, k2, k3, k4⟩ := HO.out.at 0 (by rw [fc_length]; exact hl)
    rw [fc_length] at e1
    simp only [Value.slice.injEq, true_and] at e1
    obtain ⟨rfl, rfl⟩ := e1
    have k1' : w.cell? ⟨g, 0, none⟩ = some (.bool fs[0]) := k1.trans (by simp [fc, hl])
    generalize fs[0] = t0 at k1'
    clear k1
    have HS := hide (ROwns.stored (l := fc fs) (g := g) (cap := c) (by rw [fc_length]; exact HO.out) 0 (.bool true))
    have hl1 : (0 : Int) < (fs.length : Int) := by omega
    have hd : decide ((0 : Int) < (fs.length : Int)) = true := decide_eq_true hl1
    clear HO
    go_enter Tryz.func60, Tryz.ntmps60
    go_wp2
    go_end0
    have q := HS.out.1
    rw [fc_length, ← fc_set] at q
    exact ⟨rfl, q, HS.out.2⟩
  · have hl1 : ¬ (0 : Int) < (fs.length : Int) := by omega
    have hd : decide ((0 : Int) < (fs.length : Int)) = false := decide_eq_false hl1
    have hfs : fs = [] := List.length_eq_zero_iff.1 (by omega)
    have HF := hide hfs
    clear hfs
    go_enter Tryz.func60, Tryz.ntmps60
    go_wp2
    go_end0
    have e := HF.out
    refine ⟨rfl, ?_, grownBy_below (Below.refl _ _) _⟩
    rw [show fs.set 0 true = fs by rw [e]; rfl]
    exact HO.out
end Go.Proofs.YtggjillpfclajaaGreat
/- TakeBlock and TakeIno of the specification by their contracts. -/
namespace Go.Proofs.YtggjillpfclajaaGreat.Kit
open Go.RowKit
theorem MO.turnX {w w' : World} {S : Nat → Prop} {u v iv bv dv pv : Value} {m : MD} (h : MO w S u v iv bv dv pv m) {l : List Bool} (hr : ROwns w' 0 4 u (fc l)) (hg : w.grownBy w' u.ownBlock) : MO w' S u v iv bv dv pv { m with xs := l } := by
  obtain ⟨S1, S2, S3, ts, h1, h2, h3, h4, h5, h6, h7⟩ := h
  obtain ⟨T1, T2, T3, ti, tb, k1, k2, k3, k4, k5, k6, k7⟩ := h1
  have un : ∀ k, k < w.heap.size → u.ownBlock ≠ some k → w'.heap[k]? = w.heap[k]? := fun k hk hne => hg.block k hk (fun e => hne e.symm)
  exact ⟨S1, S2, S3, ts, ⟨T1, T2, T3, ti, tb, ⟨hr, k1.b.of_heap fun k hk => un k (k1.b.lt k hk).2 fun e => k1.ne k e hk, k1.ne⟩, k2, k3.of_heap fun k hs hk => un k hk fun e => (k5 k (k2 k (.inl e))).1 hs, k4.of_heap fun k hs hk => un k hk fun e => (k5 k (k2 k (.inl e))).2 hs, k5, k6, k7⟩, h2.of_heap fun k hk => un k (h2.lt k hk).2 fun e => (h5 k (k7 k (.inl (k2 k (.inl e))))).1 (h3 k hk), h3, h4.of_heap fun k hs hk => un k hk fun e => (h5 k (k7 k (.inl (k2 k (.inl e))))).2 hs, h5, h6, h7⟩
theorem MO.turnY {w w' : World} {S : Nat → Prop} {u v iv bv dv pv : Value} {m : MD} (h : MO w S u v iv bv dv pv m) {l : List Bool} (hr : ROwns w' 0 4 v (fc l)) (hg : w.grownBy w' v.ownBlock) : MO w' S u v iv bv dv pv { m with ys := l } := by
  obtain ⟨S1, S2, S3, ts, h1, h2, h3, h4, h5, h6, h7⟩ := h
  obtain ⟨T1, T2, T3, ti, tb, k1, k2, k3, k4, k5, k6, k7⟩ := h1
  have un : ∀ k, k < w.heap.size → v.ownBlock ≠ some k → w'.heap[k]? = w.heap[k]? := fun k hk hne => hg.block k hk (fun e => hne e.symm)
  exact ⟨S1, S2, S3, ts, ⟨T1, T2, T3, ti, tb, ⟨k1.a.of_heap fun k hk => un k (k1.a.lt k hk).2 fun e => k1.ne k hk e, hr, k1.ne⟩, k2, k3.of_heap fun k hs hk => un k hk fun e => (k5 k (k2 k (.inr e))).1 hs, k4.of_heap fun k hs hk => un k hk fun e => (k5 k (k2 k (.inr e))).2 hs, k5, k6, k7⟩, h2.of_heap fun k hk => un k (h2.lt k hk).2 fun e => (h5 k (k7 k (.inl (k2 k (.inr e))))).1 (h3 k hk), h3, h4.of_heap fun k hs hk => un k hk fun e => (h5 k (k7 k (.inl (k2 k (.inr e))))).2 hs, h5, h6, h7⟩
theorem MO.turnF {w w' : World} {S : Nat → Prop} {u v iv bv dv pv : Value} {m : MD} (h : MO w S u v iv bv dv pv m) {l : List Bool} (hr : ROwns w' 0 4 dv (fc l)) (hg : w.grownBy w' dv.ownBlock) : MO w' S u v iv bv dv pv { m with fs := l } := by
  obtain ⟨S1, S2, S3, ts, h1, h2, h3, h4, h5, h6, h7⟩ := h
  obtain ⟨T1, T2, T3, ti, tb, k1, k2, k3, k4, k5, k6, k7⟩ := h1
  have un : ∀ k, k < w.heap.size → dv.ownBlock ≠ some k → w'.heap[k]? = w.heap[k]? := fun k hk hne => hg.block k hk (fun e => hne e.symm)
  exact ⟨S1, S2, S3, ts, DO.of_heap ⟨T1, T2, T3, ti, tb, k1, k2, k3, k4, k5, k6, k7⟩ fun k hs hk => un k hk fun e => (h5 k hs).1 (h3 k e), hr, h3, h4.of_heap fun k hs hk => un k hk fun e => h6 k (h3 k e) hs, h5, h6, h7⟩
/-- What is taken. -/
def takeB (m : MD) : MD := if ff m.xs = 0 then m else { m with xs := m.xs.set (ff m.xs - 1) true, fs := m.fs.set 0 true }
theorem takeB_nx (m : MD) : (takeB m).nx = m.nx := by unfold takeB; split <;> rfl
/-- What is taken. -/
def takeI (m : MD) : MD := if ff m.ys = 0 then m else { m with ys := m.ys.set (ff m.ys - 1) true, fs := m.fs.set 0 true }
theorem takeI_nx (m : MD) : (takeI m).nx = m.nx := by unfold takeI; split <;> rfl
end Go.Proofs.YtggjillpfclajaaGreat.Kit
namespace Go.Proofs.YtggjillpfclajaaGreat
open Go.RowKit Kit
set_option maxRecDepth 100000 in
set_option maxHeartbeats 3200000 in
theorem takeBS_any (u v iv bv dv pv : Value) (m : MD) (w : World) (h : MR w u v iv bv dv pv m) (hB : BigM 1048576 m) :
    Calls Tryz.prog 8 #[.agg #[u, v, iv, bv, dv, pv, .int .i64 m.nx]] w fun e w' => ∃ u' v' i' b' d' p', e = .returned (.tuple #[.agg #[u', v', i', b', d', p', .int .i64 m.nx], .int .i64 (ff m.xs : Nat)]) ∧ MO w' (fun k => w.heap.size ≤ k) u' v' i' b' d' p' (takeB m) ∧ Below w.heap.size w w' := by
  have H := hide h
  have HG := hide hB
  have hxl : m.xs.length ≤ 1048576 := hB.d.x
  obtain ⟨a1, c1, a2, c2, a3, c3, a4, c4, a5, c5, a6, c6, rfl, rfl, rfl, rfl, rfl, rfl⟩ := h.form
  clear h hB
  have HC : Hid (∀ W, Below ((w.alloc (.cells #[.slice a1 m.xs.length c1, .slice a2 m.ys.length c2, .slice a3 m.is.length c3, .slice a4 m.bs.length c4, .slice a5 m.fs.length c5, .slice a6 m.ds.length c6, .int .i64 m.nx] 40)).alloc (.cells noM 40)).heap.size ((w.alloc (.cells #[.slice a1 m.xs.length c1, .slice a2 m.ys.length c2, .slice a3 m.is.length c3, .slice a4 m.bs.length c4, .slice a5 m.fs.length c5, .slice a6 m.ds.length c6, .int .i64 m.nx] 40)).alloc (.cells noM 40)) W → AtC W w.heap.size 40 #[.slice a1 m.xs.length c1, .slice a2 m.ys.length c2, .slice a3 m.is.length c3, .slice a4 m.bs.length c4, .slice a5 m.fs.length c5, .slice a6 m.ds.length c6, .int .i64 m.nx] ∧ AtC W (w.heap.size + 1) 40 noM ∧ Below w.heap.size w W ∧ w.heap.size + 1 + 1 ≤ W.heap.size) := fun W b2 => by
    have k1 := (AtC.new (w.alloc (.cells #[.slice a1 m.xs.length c1, .slice a2 m.ys.length c2, .slice a3 m.is.length c3, .slice a4 m.bs.length c4, .slice a5 m.fs.length c5, .slice a6 m.ds.length c6, .int .i64 m.nx] 40)) 40 noM).over b2
    have sz := b2.size
    simp at k1 sz
    exact ⟨((AtC.new w 40 _).alloc _).over b2, k1, (((Below.refl _ w).alloc (Nat.le_refl _) _).alloc (by simp) _).trans (b2.mono (by simp; omega)), sz⟩
  go_enter Tryz.func8, Tryz.ntmps8
  go_wp2_with fail
  refine (copyM_any _ _ _ _ _ _ m _ (H.out.below (HC.out _ (Below.refl _ _)).2.2.1 (Nat.le_refl _)) HG.out).mono ?_
  rintro e w2 ⟨u1, u2, u3, u4, u5, u6, rfl, O2, B2⟩
  obtain ⟨b1, d1, b2, d2, b3, d3, b4, d4, b5, d5, b6, d6, rfl, rfl, rfl, rfl, rfl, rfl⟩ := O2.mr.form
  have hz2 := (HC.out w2 B2).2.2.2
  have O3 := (O2.mono (S' := fun k => w.heap.size + 1 + 1 ≤ k) (fun k hk => by simp at hk; omega)).bound
  have HS : Hid (AtC (w2.alloc (.cells #[.slice b1 m.xs.length d1, .slice b2 m.ys.length d2, .slice b3 m.is.length d3, .slice b4 m.bs.length d4, .slice b5 m.fs.length d5, .slice b6 m.ds.length d6, .int .i64 m.nx] 40)) w.heap.size 40 #[.slice a1 m.xs.length c1, .slice a2 m.ys.length c2, .slice a3 m.is.length c3, .slice a4 m.bs.length c4, .slice a5 m.fs.length c5, .slice a6 m.ds.length c6, .int .i64 m.nx] ∧ AtC (w2.alloc (.cells #[.slice b1 m.xs.length d1, .slice b2 m.ys.length d2, .slice b3 m.is.length d3, .slice b4 m.bs.length d4, .slice b5 m.fs.length d5, .slice b6 m.ds.length d6, .int .i64 m.nx] 40)) (w.heap.size + 1) 40 noM ∧ AtC (w2.alloc (.cells #[.slice b1 m.xs.length d1, .slice b2 m.ys.length d2, .slice b3 m.is.length d3, .slice b4 m.bs.length d4, .slice b5 m.fs.length d5, .slice b6 m.ds.length d6, .int .i64 m.nx] 40)) w2.heap.size 40 #[.slice b1 m.xs.length d1, .slice b2 m.ys.length d2, .slice b3 m.is.length d3, .slice b4 m.bs.length d4, .slice b5 m.fs.length d5, .slice b6 m.ds.length d6, .int .i64 m.nx] ∧ MO (w2.alloc (.cells #[.slice b1 m.xs.length d1, .slice b2 m.ys.length d2, .slice b3 m.is.length d3, .slice b4 m.bs.length d4, .slice b5 m.fs.length d5, .slice b6 m.ds.length d6, .int .i64 m.nx] 40)) (fun k => w.heap.size + 1 + 1 ≤ k ∧ k < w2.heap.size) (.slice b1 m.xs.length d1) (.slice b2 m.ys.length d2) (.slice b3 m.is.length d3) (.slice b4 m.bs.length d4) (.slice b5 m.fs.length d5) (.slice b6 m.ds.length d6) m ∧ Below w.heap.size w (w2.alloc (.cells #[.slice b1 m.xs.length d1, .slice b2 m.ys.length d2, .slice b3 m.is.length d3, .slice b4 m.bs.length d4, .slice b5 m.fs.length d5, .slice b6 m.ds.length d6, .int .i64 m.nx] 40))) := by
    have q := HC.out (w2.alloc (.cells #[.slice b1 m.xs.length d1, .slice b2 m.ys.length d2, .slice b3 m.is.length d3, .slice b4 m.bs.length d4, .slice b5 m.fs.length d5, .slice b6 m.ds.length d6, .int .i64 m.nx] 40)) (B2.alloc B2.size _)
    exact ⟨q.1, q.2.1, AtC.new w2 40 _, O3.alloc _, q.2.2.1⟩
  have x0 : (w2.alloc (.cells #[.slice b1 m.xs.length d1, .slice b2 m.ys.length d2, .slice b3 m.is.length d3, .slice b4 m.bs.length d4, .slice b5 m.fs.length d5, .slice b6 m.ds.length d6, .int .i64 m.nx] 40)).cell? ⟨w.heap.size, 0, none⟩ = some (.slice a1 m.xs.length c1) := HS.out.1.cell 0
  clear O2 O3 B2
  go_wp2_with fail
  refine (firstFreeS_any _ m.xs _ ((H.out.d.below HS.out.2.2.2.2 (Nat.le_refl _)).a) hxl).mono ?_
  rintro e w3 ⟨rfl, rfl⟩
  rcases ff_or m.xs with ⟨hff, -⟩ | ⟨k, hk, hff, hkf, -⟩
  · have HFF := hide hff
    rw [hff]
    clear hff x0
    have q9 := HS.out.2.1
    have r0 : (w2.alloc (.cells #[.slice b1 m.xs.length d1, .slice b2 m.ys.length d2, .slice b3 m.is.length d3, .slice b4 m.bs.length d4, .slice b5 m.fs.length d5, .slice b6 m.ds.length d6, .int .i64 m.nx] 40)).cell? ⟨w.heap.size + 1, 0, none⟩ = some (.slice none 0 0) := q9.cell 0
    have v0 := q9.frozen 0
    have r1 : (w2.alloc (.cells #[.slice b1 m.xs.length d1, .slice b2 m.ys.length d2, .slice b3 m.is.length d3, .slice b4 m.bs.length d4, .slice b5 m.fs.length d5, .slice b6 m.ds.length d6, .int .i64 m.nx] 40)).cell? ⟨w.heap.size + 1, 1, none⟩ = some (.slice none 0 0) := q9.cell 1
    have v1 := q9.frozen 1
    have r2 : (w2.alloc (.cells #[.slice b1 m.xs.length d1, .slice b2 m.ys.length d2, .slice b3 m.is.length d3, .slice b4 m.bs.length d4, .slice b5 m.fs.length d5, .slice b6 m.ds.length d6, .int .i64 m.nx] 40)).cell? ⟨w.heap.size + 1, 2, none⟩ = some (.slice none 0 0) := q9.cell 2
    have v2 := q9.frozen 2
    have r3 : (w2.alloc (.cells #[.slice b1 m.xs.length d1, .slice b2 m.ys.length d2, .slice b3 m.is.length d3, .slice b4 m.bs.length d4, .slice b5 m.fs.length d5, .slice b6 m.ds.length d6, .int .i64 m.nx] 40)).cell? ⟨w.heap.size + 1, 3, none⟩ = some (.slice none 0 0) := q9.cell 3
    have v3 := q9.frozen 3
    have r4 : (w2.alloc (.cells #[.slice b1 m.xs.length d1, .slice b2 m.ys.length d2, .slice b3 m.is.length d3, .slice b4 m.bs.length d4, .slice b5 m.fs.length d5, .slice b6 m.ds.length d6, .int .i64 m.nx] 40)).cell? ⟨w.heap.size + 1, 4, none⟩ = some (.slice none 0 0) := q9.cell 4
    have v4 := q9.frozen 4
    have r5 : (w2.alloc (.cells #[.slice b1 m.xs.length d1, .slice b2 m.ys.length d2, .slice b3 m.is.length d3, .slice b4 m.bs.length d4, .slice b5 m.fs.length d5, .slice b6 m.ds.length d6, .int .i64 m.nx] 40)).cell? ⟨w.heap.size + 1, 5, none⟩ = some (.slice none 0 0) := q9.cell 5
    have v5 := q9.frozen 5
    have r6 : (w2.alloc (.cells #[.slice b1 m.xs.length d1, .slice b2 m.ys.length d2, .slice b3 m.is.length d3, .slice b4 m.bs.length d4, .slice b5 m.fs.length d5, .slice b6 m.ds.length d6, .int .i64 m.nx] 40)).cell? ⟨w.heap.size + 1, 6, none⟩ = some (.int .i64 0) := q9.cell 6
    have v6 := q9.frozen 6
    have q8 := HS.out.2.2.1
    have y0 : (w2.alloc (.cells #[.slice b1 m.xs.length d1, .slice b2 m.ys.length d2, .slice b3 m.is.length d3, .slice b4 m.bs.length d4, .slice b5 m.fs.length d5, .slice b6 m.ds.length d6, .int .i64 m.nx] 40)).cell? ⟨w2.heap.size, 0, none⟩ = some (.slice b1 m.xs.length d1) := q8.cell 0
    have y1 : (w2.alloc (.cells #[.slice b1 m.xs.length d1, .slice b2 m.ys.length d2, .slice b3 m.is.length d3, .slice b4 m.bs.length d4, .slice b5 m.fs.length d5, .slice b6 m.ds.length d6, .int .i64 m.nx] 40)).cell? ⟨w2.heap.size, 1, none⟩ = some (.slice b2 m.ys.length d2) := q8.cell 1
    have y2 : (w2.alloc (.cells #[.slice b1 m.xs.length d1, .slice b2 m.ys.length d2, .slice b3 m.is.length d3, .slice b4 m.bs.length d4, .slice b5 m.fs.length d5, .slice b6 m.ds.length d6, .int .i64 m.nx] 40)).cell? ⟨w2.heap.size, 2, none⟩ = some (.slice b3 m.is.length d3) := q8.cell 2
    have y3 : (w2.alloc (.cells #[.slice b1 m.xs.length d1, .slice b2 m.ys.length d2, .slice b3 m.is.length d3, .slice b4 m.bs.length d4, .slice b5 m.fs.length d5, .slice b6 m.ds.length d6, .int .i64 m.nx] 40)).cell? ⟨w2.heap.size, 3, none⟩ = some (.slice b4 m.bs.length d4) := q8.cell 3
    have y4 : (w2.alloc (.cells #[.slice b1 m.xs.length d1, .slice b2 m.ys.length d2, .slice b3 m.is.length d3, .slice b4 m.bs.length d4, .slice b5 m.fs.length d5, .slice b6 m.ds.length d6, .int .i64 m.nx] 40)).cell? ⟨w2.heap.size, 4, none⟩ = some (.slice b5 m.fs.length d5) := q8.cell 4
    have y5 : (w2.alloc (.cells #[.slice b1 m.xs.length d1, .slice b2 m.ys.length d2, .slice b3 m.is.length d3, .slice b4 m.bs.length d4, .slice b5 m.fs.length d5, .slice b6 m.ds.length d6, .int .i64 m.nx] 40)).cell? ⟨w2.heap.size, 5, none⟩ = some (.slice b6 m.ds.length d6) := q8.cell 5
    have y6 : (w2.alloc (.cells #[.slice b1 m.xs.length d1, .slice b2 m.ys.length d2, .slice b3 m.is.length d3, .slice b4 m.bs.length d4, .slice b5 m.fs.length d5, .slice b6 m.ds.length d6, .int .i64 m.nx] 40)).cell? ⟨w2.heap.size, 6, none⟩ = some (.int .i64 m.nx) := q8.cell 6
    have HM : Hid (MO (((((((((w2.alloc (.cells #[.slice b1 m.xs.length d1, .slice b2 m.ys.length d2, .slice b3 m.is.length d3, .slice b4 m.bs.length d4, .slice b5 m.fs.length d5, .slice b6 m.ds.length d6, .int .i64 m.nx] 40)).setCell ⟨w.heap.size + 1, 0, none⟩ (.slice b1 m.xs.length d1)).setCell ⟨w.heap.size + 1, 1, none⟩ (.slice b2 m.ys.length d2)).setCell ⟨w.heap.size + 1, 2, none⟩ (.slice b3 m.is.length d3)).setCell ⟨w.heap.size + 1, 3, none⟩ (.slice b4 m.bs.length d4)).setCell ⟨w.heap.size + 1, 4, none⟩ (.slice b5 m.fs.length d5)).setCell ⟨w.heap.size + 1, 5, none⟩ (.slice b6 m.ds.length d6)).setCell ⟨w.heap.size + 1, 6, none⟩ (.int .i64 m.nx))) (fun k => w.heap.size ≤ k) (.slice b1 m.xs.length d1) (.slice b2 m.ys.length d2) (.slice b3 m.is.length d3) (.slice b4 m.bs.length d4) (.slice b5 m.fs.length d5) (.slice b6 m.ds.length d6) (takeB m) ∧ Below w.heap.size w (((((((((w2.alloc (.cells #[.slice b1 m.xs.length d1, .slice b2 m.ys.length d2, .slice b3 m.is.length d3, .slice b4 m.bs.length d4, .slice b5 m.fs.length d5, .slice b6 m.ds.length d6, .int .i64 m.nx] 40)).setCell ⟨w.heap.size + 1, 0, none⟩ (.slice b1 m.xs.length d1)).setCell ⟨w.heap.size + 1, 1, none⟩ (.slice b2 m.ys.length d2)).setCell ⟨w.heap.size + 1, 2, none⟩ (.slice b3 m.is.length d3)).setCell ⟨w.heap.size + 1, 3, none⟩ (.slice b4 m.bs.length d4)).setCell ⟨w.heap.size + 1, 4, none⟩ (.slice b5 m.fs.length d5)).setCell ⟨w.heap.size + 1, 5, none⟩ (.slice b6 m.ds.length d6)).setCell ⟨w.heap.size + 1, 6, none⟩ (.int .i64 m.nx)))) := by
      have e : takeB m = m := by unfold takeB; rw [if_pos HFF.out]
      rw [e]
      exact ⟨(HS.out.2.2.2.1.of_heap fun k hk _ => ((((((heap_setCell_other _ ⟨w.heap.size + 1, 6, none⟩ k _ (by show k ≠ w.heap.size + 1; omega)).trans (heap_setCell_other _ ⟨w.heap.size + 1, 5, none⟩ k _ (by show k ≠ w.heap.size + 1; omega))).trans (heap_setCell_other _ ⟨w.heap.size + 1, 4, none⟩ k _ (by show k ≠ w.heap.size + 1; omega))).trans (heap_setCell_other _ ⟨w.heap.size + 1, 3, none⟩ k _ (by show k ≠ w.heap.size + 1; omega))).trans (heap_setCell_other _ ⟨w.heap.size + 1, 2, none⟩ k _ (by show k ≠ w.heap.size + 1; omega))).trans (heap_setCell_other _ ⟨w.heap.size + 1, 1, none⟩ k _ (by show k ≠ w.heap.size + 1; omega))).trans (heap_setCell_other _ ⟨w.heap.size + 1, 0, none⟩ k _ (by show k ≠ w.heap.size + 1; omega))).mono fun k hk => by omega, (((((((HS.out.2.2.2.2).setCell (by simp) _).setCell (by simp) _).setCell (by simp) _).setCell (by simp) _).setCell (by simp) _).setCell (by simp) _).setCell (by simp) _⟩
    clear q9 q8 HS
    go_wp2
    refine bodyPost_ret (v := .tuple #[.agg #[.slice b1 m.xs.length d1, .slice b2 m.ys.length d2, .slice b3 m.is.length d3, .slice b4 m.bs.length d4, .slice b5 m.fs.length d5, .slice b6 m.ds.length d6, .int .i64 m.nx], .int .i64 0]) (by simp [results, go_sem, r0, r1, r2, r3, r4, r5, r6]) rfl ⟨_, _, _, _, _, _, by rw [HFF.out]; rfl, HM.out.1, HM.out.2⟩
  · obtain ⟨S1, S2, S3, ts, k1, -⟩ := HS.out.2.2.2.1
    obtain ⟨g, cap, e1, k1c, k1f, -, hg, -⟩ := k1.two.a.at k (by rw [fc_length]; exact hk)
    rw [fc_length] at e1
    simp only [Value.slice.injEq, true_and] at e1
    obtain ⟨rfl, rfl⟩ := e1
    have k1d : (w2.alloc (.cells #[.slice (some ⟨g, 0, none⟩) m.xs.length d1, .slice b2 m.ys.length d2, .slice b3 m.is.length d3, .slice b4 m.bs.length d4, .slice b5 m.fs.length d5, .slice b6 m.ds.length d6, .int .i64 m.nx] 40)).cell? ⟨g, k, none⟩ = some (.bool false) := k1c.trans (by simp [fc, hk, hkf])
    have HX : Hid (∃ w5, w5 = (w2.alloc (.cells #[.slice (some ⟨g, 0, none⟩) m.xs.length d1, .slice b2 m.ys.length d2, .slice b3 m.is.length d3, .slice b4 m.bs.length d4, .slice b5 m.fs.length d5, .slice b6 m.ds.length d6, .int .i64 m.nx] 40)).setCell ⟨g, k, none⟩ (.bool true) ∧ AtC w5 (w.heap.size + 1) 40 noM ∧ AtC w5 w2.heap.size 40 #[.slice (some ⟨g, 0, none⟩) m.xs.length d1, .slice b2 m.ys.length d2, .slice b3 m.is.length d3, .slice b4 m.bs.length d4, .slice b5 m.fs.length d5, .slice b6 m.ds.length d6, .int .i64 m.nx] ∧ MO w5 (fun k => w.heap.size + 1 + 1 ≤ k ∧ k < w2.heap.size) (.slice (some ⟨g, 0, none⟩) m.xs.length d1) (.slice b2 m.ys.length d2) (.slice b3 m.is.length d3) (.slice b4 m.bs.length d4) (.slice b5 m.fs.length d5) (.slice b6 m.ds.length d6) { m with xs := m.xs.set k true } ∧ Below w.heap.size w w5) := by
      obtain ⟨-, q2, q3, q4, q5⟩ := HS.out
      have st := ROwns.stored (l := fc m.xs) (g := g) (cap := d1) (by rw [fc_length]; exact k1.two.a) k (.bool true)
      rw [fc_length, ← fc_set] at st
      have hgS : w.heap.size + 1 + 1 ≤ g ∧ g < w2.heap.size := by
        obtain ⟨S1', S2', S3', ts', p1, -, -, -, -, -, p7⟩ := q4
        obtain ⟨T1, T2, T3, ti, tb, z1, z2, -, -, -, -, z7⟩ := p1
        exact p7 g (.inl (z7 g (.inl (z2 g (.inl rfl)))))
      exact ⟨_, rfl, (heap_setCell_other _ ⟨g, k, none⟩ _ _ (by show w.heap.size + 1 ≠ g; omega)).trans q2, (heap_setCell_other _ ⟨g, k, none⟩ _ _ (by show w2.heap.size ≠ g; omega)).trans q3, q4.turnX st.1 st.2, q5.setCell (by show w.heap.size ≤ g; omega) _⟩
    have kn : ((ff m.xs : Nat) : Int) - 1 = (k : Int) := by omega
    have kp : ¬ ((ff m.xs : Nat) : Int) = 0 := by omega
    have kl : (k : Int) < (m.xs.length : Int) := by omega
    have kz : (0 : Int) ≤ (k : Int) := by omega
    have kb : ((ff m.xs : Nat) : Int) ≤ 1048576 := by omega
    have yb0 : (w2.alloc (.cells #[.slice (some ⟨g, 0, none⟩) m.xs.length d1, .slice b2 m.ys.length d2, .slice b3 m.is.length d3, .slice b4 m.bs.length d4, .slice b5 m.fs.length d5, .slice b6 m.ds.length d6, .int .i64 m.nx] 40)).cell? ⟨w2.heap.size, 0, none⟩ = some (.slice (some ⟨g, 0, none⟩) m.xs.length d1) := HS.out.2.2.1.cell 0
    have HFF := hide hff
    clear k1 k1c hff hkf x0 HS
    generalize hF : ff m.xs = F at *
    go_wp2_with fail
    obtain ⟨w5, hw5, q2, q3, q4, q5⟩ := HX.out
    rw [← hw5]
    have hd5 : ROwns w5 0 4 (.slice b5 m.fs.length d5) (fc m.fs) ∧ ∀ k, (Value.slice b5 m.fs.length d5).ownBlock = some k → w.heap.size + 1 + 1 ≤ k ∧ k < w2.heap.size := by
      obtain ⟨S1', S2', S3', ts', -, p2, p3, -, -, -, p7⟩ := q4
      exact ⟨p2, fun k hk => p7 k (.inr (.inl (p3 k hk)))⟩
    refine (mark29_any w2.heap.size _ _ _ _ _ b5 d5 m.fs m.nx w5 q3 hd5.1).mono ?_
    rintro e w6 ⟨rfl, O6, G6⟩
    have M6 := q4.turnF O6 G6
    have q9 : AtC w6 (w.heap.size + 1) 40 noM := q2.grown G6 (fun e => by have := hd5.2 _ e; omega)
    have q8 : AtC w6 w2.heap.size 40 #[.slice (some ⟨g, 0, none⟩) m.xs.length d1, .slice b2 m.ys.length d2, .slice b3 m.is.length d3, .slice b4 m.bs.length d4, .slice b5 m.fs.length d5, .slice b6 m.ds.length d6, .int .i64 m.nx] := q3.grown G6 (fun e => by have := hd5.2 _ e; omega)
    have bel6 : Below w.heap.size w w6 := q5.grown G6 q5.size (fun k hk => by have := hd5.2 k hk; omega)
    have r0 : w6.cell? ⟨w.heap.size + 1, 0, none⟩ = some (.slice none 0 0) := q9.cell 0
    have v0 := q9.frozen 0
    have r1 : w6.cell? ⟨w.heap.size + 1, 1, none⟩ = some (.slice none 0 0) := q9.cell 1
    have v1 := q9.frozen 1
    have r2 : w6.cell? ⟨w.heap.size + 1, 2, none⟩ = some (.slice none 0 0) := q9.cell 2
    have v2 := q9.frozen 2
    have r3 : w6.cell? ⟨w.heap.size + 1, 3, none⟩ = some (.slice none 0 0) := q9.cell 3
    have v3 := q9.frozen 3
    have r4 : w6.cell? ⟨w.heap.size + 1, 4, none⟩ = some (.slice none 0 0) := q9.cell 4
    have v4 := q9.frozen 4
    have r5 : w6.cell? ⟨w.heap.size + 1, 5, none⟩ = some (.slice none 0 0) := q9.cell 5
    have v5 := q9.frozen 5
    have r6 : w6.cell? ⟨w.heap.size + 1, 6, none⟩ = some (.int .i64 0) := q9.cell 6
    have v6 := q9.frozen 6
    have y0 : w6.cell? ⟨w2.heap.size, 0, none⟩ = some (.slice (some ⟨g, 0, none⟩) m.xs.length d1) := q8.cell 0
    have y1 : w6.cell? ⟨w2.heap.size, 1, none⟩ = some (.slice b2 m.ys.length d2) := q8.cell 1
    have y2 : w6.cell? ⟨w2.heap.size, 2, none⟩ = some (.slice b3 m.is.length d3) := q8.cell 2
    have y3 : w6.cell? ⟨w2.heap.size, 3, none⟩ = some (.slice b4 m.bs.length d4) := q8.cell 3
    have y4 : w6.cell? ⟨w2.heap.size, 4, none⟩ = some (.slice b5 m.fs.length d5) := q8.cell 4
    have y5 : w6.cell? ⟨w2.heap.size, 5, none⟩ = some (.slice b6 m.ds.length d6) := q8.cell 5
    have y6 : w6.cell? ⟨w2.heap.size, 6, none⟩ = some (.int .i64 m.nx) := q8.cell 6
    have HM : Hid (MO ((((((((w6.setCell ⟨w.heap.size + 1, 0, none⟩ (.slice (some ⟨g, 0, none⟩) m.xs.length d1)).setCell ⟨w.heap.size + 1, 1, none⟩ (.slice b2 m.ys.length d2)).setCell ⟨w.heap.size + 1, 2, none⟩ (.slice b3 m.is.length d3)).setCell ⟨w.heap.size + 1, 3, none⟩ (.slice b4 m.bs.length d4)).setCell ⟨w.heap.size + 1, 4, none⟩ (.slice b5 m.fs.length d5)).setCell ⟨w.heap.size + 1, 5, none⟩ (.slice b6 m.ds.length d6)).setCell ⟨w.heap.size + 1, 6, none⟩ (.int .i64 m.nx))) (fun k => w.heap.size ≤ k) (.slice (some ⟨g, 0, none⟩) m.xs.length d1) (.slice b2 m.ys.length d2) (.slice b3 m.is.length d3) (.slice b4 m.bs.length d4) (.slice b5 m.fs.length d5) (.slice b6 m.ds.length d6) (takeB m) ∧ Below w.heap.size w ((((((((w6.setCell ⟨w.heap.size + 1, 0, none⟩ (.slice (some ⟨g, 0, none⟩) m.xs.length d1)).setCell ⟨w.heap.size + 1, 1, none⟩ (.slice b2 m.ys.length d2)).setCell ⟨w.heap.size + 1, 2, none⟩ (.slice b3 m.is.length d3)).setCell ⟨w.heap.size + 1, 3, none⟩ (.slice b4 m.bs.length d4)).setCell ⟨w.heap.size + 1, 4, none⟩ (.slice b5 m.fs.length d5)).setCell ⟨w.heap.size + 1, 5, none⟩ (.slice b6 m.ds.length d6)).setCell ⟨w.heap.size + 1, 6, none⟩ (.int .i64 m.nx)))) := by
      have e : takeB m = { m with xs := m.xs.set k true, fs := m.fs.set 0 true } := by
        unfold takeB
        rw [hF, if_neg (by omega), show F - 1 = k by omega]
      rw [e]
      exact ⟨(M6.of_heap fun k hk _ => ((((((heap_setCell_other _ ⟨w.heap.size + 1, 6, none⟩ k _ (by show k ≠ w.heap.size + 1; omega)).trans (heap_setCell_other _ ⟨w.heap.size + 1, 5, none⟩ k _ (by show k ≠ w.heap.size + 1; omega))).trans (heap_setCell_other _ ⟨w.heap.size + 1, 4, none⟩ k _ (by show k ≠ w.heap.size + 1; omega))).trans (heap_setCell_other _ ⟨w.heap.size + 1, 3, none⟩ k _ (by show k ≠ w.heap.size + 1; omega))).trans (heap_setCell_other _ ⟨w.heap.size + 1, 2, none⟩ k _ (by show k ≠ w.heap.size + 1; omega))).trans (heap_setCell_other _ ⟨w.heap.size + 1, 1, none⟩ k _ (by show k ≠ w.heap.size + 1; omega))).trans (heap_setCell_other _ ⟨w.heap.size + 1, 0, none⟩ k _ (by show k ≠ w.heap.size + 1; omega))).mono fun k hk => by omega, (((((((bel6).setCell (by simp) _).setCell (by simp) _).setCell (by simp) _).setCell (by simp) _).setCell (by simp) _).setCell (by simp) _).setCell (by simp) _⟩
    clear q9 q8 q2 q3 q4 q5 M6 O6 G6 bel6 hd5 HX k1d k1f yb0 hw5
    go_wp2
    refine bodyPost_ret (v := .tuple #[.agg #[.slice (some ⟨g, 0, none⟩) m.xs.length d1, .slice b2 m.ys.length d2, .slice b3 m.is.length d3, .slice b4 m.bs.length d4, .slice b5 m.fs.length d5, .slice b6 m.ds.length d6, .int .i64 m.nx], .int .i64 (F : Nat)]) (by simp [results, go_sem, r0, r1, r2, r3, r4, r5, r6]) rfl ⟨_, _, _, _, _, _, by rw [hF], HM.out.1, HM.out.2⟩
set_option maxRecDepth 100000 in
set_option maxHeartbeats 3200000 in
theorem takeIS_any (u v iv bv dv pv : Value) (m : MD) (w : World) (h : MR w u v iv bv dv pv m) (hB : BigM 1048576 m) :
    Calls Tryz.prog 14 #[.agg #[u, v, iv, bv, dv, pv, .int .i64 m.nx]] w fun e w' => ∃ u' v' i' b' d' p', e = .returned (.tuple #[.agg #[u', v', i', b', d', p', .int .i64 m.nx], .int .i64 (ff m.ys : Nat)]) ∧ MO w' (fun k => w.heap.size ≤ k) u' v' i' b' d' p' (takeI m) ∧ Below w.heap.size w w' := by
  have H := hide h
  have HG := hide hB
  have hxl : m.ys.length ≤ 1048576 := hB.d.y
  obtain ⟨a1, c1, a2, c2, a3, c3, a4, c4, a5, c5, a6, c6, rfl, rfl, rfl, rfl, rfl, rfl⟩ := h.form
  clear h hB
  have HC : Hid (∀ W, Below ((w.alloc (.cells #[.slice a1 m.xs.length c1, .slice a2 m.ys.length c2, .slice a3 m.is.length c3, .slice a4 m.bs.length c4, .slice a5 m.fs.length c5, .slice a6 m.ds.length c6, .int .i64 m.nx] 40)).alloc (.cells noM 40)).heap.size ((w.alloc (.cells #[.slice a1 m.xs.length c1, .slice a2 m.ys.length c2, .slice a3 m.is.length c3, .slice a4 m.bs.length c4, .slice a5 m.fs.length c5, .slice a6 m.ds.length c6, .int .i64 m.nx] 40)).alloc (.cells noM 40)) W → AtC W w.heap.size 40 #[.slice a1 m.xs.length c1, .slice a2 m.ys.length c2, .slice a3 m.is.length c3, .slice a4 m.bs.length c4, .slice a5 m.fs.length c5, .slice a6 m.ds.length c6, .int .i64 m.nx] ∧ AtC W (w.heap.size + 1) 40 noM ∧ Below w.heap.size w W ∧ w.heap.size + 1 + 1 ≤ W.heap.size) := fun W b2 => by
    have k1 := (AtC.new (w.alloc (.cells #[.slice a1 m.xs.length c1, .slice a2 m.ys.length c2, .slice a3 m.is.length c3, .slice a4 m.bs.length c4, .slice a5 m.fs.length c5, .slice a6 m.ds.length c6, .int .i64 m.nx] 40)) 40 noM).over b2
    have sz := b2.size
    simp at k1 sz
    exact ⟨((AtC.new w 40 _).alloc _).over b2, k1, (((Below.refl _ w).alloc (Nat.le_refl _) _).alloc (by simp) _).trans (b2.mono (by simp; omega)), sz⟩
  go_enter Tryz.func14, Tryz.ntmps14
  go_wp2_with fail
  refine (copyM_any _ _ _ _ _ _ m _ (H.out.below (HC.out _ (Below.refl _ _)).2.2.1 (Nat.le_refl _)) HG.out).mono ?_
  rintro e w2 ⟨u1, u2, u3, u4, u5, u6, rfl, O2, B2⟩
  obtain ⟨b1, d1, b2, d2, b3, d3, b4, d4, b5, d5, b6, d6, rfl, rfl, rfl, rfl, rfl, rfl⟩ := O2.mr.form
  have hz2 := (HC.out w2 B2).2.2.2
  have O3 := (O2.mono (S' := fun k => w.heap.size + 1 + 1 ≤ k) (fun k hk => by simp at hk; omega)).bound
  have HS : Hid (AtC (w2.alloc (.cells #[.slice b1 m.xs.length d1, .slice b2 m.ys.length d2, .slice b3 m.is.length d3, .slice b4 m.bs.length d4, .slice b5 m.fs.length d5, .slice b6 m.ds.length d6, .int .i64 m.nx] 40)) w.heap.size 40 #[.slice a1 m.xs.length c1, .slice a2 m.ys.length c2, .slice a3 m.is.length c3, .slice a4 m.bs.length c4, .slice a5 m.fs.length c5, .slice a6 m.ds.length c6, .int .i64 m.nx] ∧ AtC (w2.alloc (.cells #[.slice b1 m.xs.length d1, .slice b2 m.ys.length d2, .slice b3 m.is.length d3, .slice b4 m.bs.length d4, .slice b5 m.fs.length d5, .slice b6 m.ds.length d6, .int .i64 m.nx] 40)) (w.heap.size + 1) 40 noM ∧ AtC (w2.alloc (.cells #[.slice b1 m.xs.length d1, .slice b2 m.ys.length d2, .slice b3 m.is.length d3, .slice b4 m.bs.length d4, .slice b5 m.fs.length d5, .slice b6 m.ds.length d6, .int .i64 m.nx] 40)) w2.heap.size 40 #[.slice b1 m.xs.length d1, .slice b2 m.ys.length d2, .slice b3 m.is.length d3, .slice b4 m.bs.length d4, .slice b5 m.fs.length d5, .slice b6 m.ds.length d6, .int .i64 m.nx] ∧ MO (w2.alloc (.cells #[.slice b1 m.xs.length d1, .slice b2 m.ys.length d2, .slice b3 m.is.length d3, .slice b4 m.bs.length d4, .slice b5 m.fs.length d5, .slice b6 m.ds.length d6, .int .i64 m.nx] 40)) (fun k => w.heap.size + 1 + 1 ≤ k ∧ k < w2.heap.size) (.slice b1 m.xs.length d1) (.slice b2 m.ys.length d2) (.slice b3 m.is.length d3) (.slice b4 m.bs.length d4) (.slice b5 m.fs.length d5) (.slice b6 m.ds.length d6) m ∧ Below w.heap.size w (w2.alloc (.cells #[.slice b1 m.xs.length d1, .slice b2 m.ys.length d2, .slice b3 m.is.length d3, .slice b4 m.bs.length d4, .slice b5 m.fs.length d5, .slice b6 m.ds.length d6, .int .i64 m.nx] 40))) := by
    have q := HC.out (w2.alloc (.cells #[.slice b1 m.xs.length d1, .slice b2 m.ys.length d2, .slice b3 m.is.length d3, .slice b4 m.bs.length d4, .slice b5 m.fs.length d5, .slice b6 m.ds.length d6, .int .i64 m.nx] 40)) (B2.alloc B2.size _)
    exact ⟨q.1, q.2.1, AtC.new w2 40 _, O3.alloc _, q.2.2.1⟩
  have x0 : (w2.alloc (.cells #[.slice b1 m.xs.length d1, .slice b2 m.ys.length d2, .slice b3 m.is.length d3, .slice b4 m.bs.length d4, .slice b5 m.fs.length d5, .slice b6 m.ds.length d6, .int .i64 m.nx] 40)).cell? ⟨w.heap.size, 1, none⟩ = some (.slice a2 m.ys.length c2) := HS.out.1.cell 1
  clear O2 O3 B2
  go_wp2_with fail
  refine (firstFreeS_any _ m.ys _ ((H.out.d.below HS.out.2.2.2.2 (Nat.le_refl _)).b) hxl).mono ?_
  rintro e w3 ⟨rfl, rfl⟩
  rcases ff_or m.ys with ⟨hff, -⟩ | ⟨k, hk, hff, hkf, -⟩
  · have HFF := hide hff
    rw [hff]
    clear hff x0
    have q9 := HS.out.2.1
    have r0 : (w2.alloc (.cells #[.slice b1 m.xs.length d1, .slice b2 m.ys.length d2, .slice b3 m.is.length d3, .slice b4 m.bs.length d4, .slice b5 m.fs.length d5, .slice b6 m.ds.length d6, .int .i64 m.nx] 40)).cell? ⟨w.heap.size + 1, 0, none⟩ = some (.slice none 0 0) := q9.cell 0
    have v0 := q9.frozen 0
    have r1 : (w2.alloc (.cells #[.slice b1 m.xs.length d1, .slice b2 m.ys.length d2, .slice b3 m.is.length d3, .slice b4 m.bs.length d4, .slice b5 m.fs.length d5, .slice b6 m.ds.length d6, .int .i64 m.nx] 40)).cell? ⟨w.heap.size + 1, 1, none⟩ = some (.slice none 0 0) := q9.cell 1
    have v1 := q9.frozen 1
    have r2 : (w2.alloc (.cells #[.slice b1 m.xs.length d1, .slice b2 m.ys.length d2, .slice b3 m.is.length d3, .slice b4 m.bs.length d4, .slice b5 m.fs.length d5, .slice b6 m.ds.length d6, .int .i64 m.nx] 40)).cell? ⟨w.heap.size + 1, 2, none⟩ = some (.slice none 0 0) := q9.cell 2
    have v2 := q9.frozen 2
    have r3 : (w2.alloc (.cells #[.slice b1 m.xs.length d1, .slice b2 m.ys.length d2, .slice b3 m.is.length d3, .slice b4 m.bs.length d4, .slice b5 m.fs.length d5, .slice b6 m.ds.length d6, .int .i64 m.nx] 40)).cell? ⟨w.heap.size + 1, 3, none⟩ = some (.slice none 0 0) := q9.cell 3
    have v3 := q9.frozen 3
    have r4 : (w2.alloc (.cells #[.slice b1 m.xs.length d1, .slice b2 m.ys.length d2, .slice b3 m.is.length d3, .slice b4 m.bs.length d4, .slice b5 m.fs.length d5, .slice b6 m.ds.length d6, .int .i64 m.nx] 40)).cell? ⟨w.heap.size + 1, 4, none⟩ = some (.slice none 0 0) := q9.cell 4
    have v4 := q9.frozen 4
    have r5 : (w2.alloc (.cells #[.slice b1 m.xs.length d1, .slice b2 m.ys.length d2, .slice b3 m.is.length d3, .slice b4 m.bs.length d4, .slice b5 m.fs.length d5, .slice b6 m.ds.length d6, .int .i64 m.nx] 40)).cell? ⟨w.heap.size + 1, 5, none⟩ = some (.slice none 0 0) := q9.cell 5
    have v5 := q9.frozen 5
    have r6 : (w2.alloc (.cells #[.slice b1 m.xs.length d1, .slice b2 m.ys.length d2, .slice b3 m.is.length d3, .slice b4 m.bs.length d4, .slice b5 m.fs.length d5, .slice b6 m.ds.length d6, .int .i64 m.nx] 40)).cell? ⟨w.heap.size + 1, 6, none⟩ = some (.int .i64 0) := q9.cell 6
    have v6 := q9.frozen 6
    have q8 := HS.out.2.2.1
    have y0 : (w2.alloc (.cells #[.slice b1 m.xs.length d1, .slice b2 m.ys.length d2, .slice b3 m.is.length d3, .slice b4 m.bs.length d4, .slice b5 m.fs.length d5, .slice b6 m.ds.length d6, .int .i64 m.nx] 40)).cell? ⟨w2.heap.size, 0, none⟩ = some (.slice b1 m.xs.length d1) := q8.cell 0
    have y1 : (w2.alloc (.cells #[.slice b1 m.xs.length d1, .slice b2 m.ys.length d2, .slice b3 m.is.length d3, .slice b4 m.bs.length d4, .slice b5 m.fs.length d5, .slice b6 m.ds.length d6, .int .i64 m.nx] 40)).cell? ⟨w2.heap.size, 1, none⟩ = some (.slice b2 m.ys.length d2) := q8.cell 1
    have y2 : (w2.alloc (.cells #[.slice b1 m.xs.length d1, .slice b2 m.ys.length d2, .slice b3 m.is.length d3, .slice b4 m.bs.length d4, .slice b5 m.fs.length d5, .slice b6 m.ds.length d6, .int .i64 m.nx] 40)).cell? ⟨w2.heap.size, 2, none⟩ = some (.slice b3 m.is.length d3) := q8.cell 2
    have y3 : (w2.alloc (.cells #[.slice b1 m.xs.length d1, .slice b2 m.ys.length d2, .slice b3 m.is.length d3, .slice b4 m.bs.length d4, .slice b5 m.fs.length d5, .slice b6 m.ds.length d6, .int .i64 m.nx] 40)).cell? ⟨w2.heap.size, 3, none⟩ = some (.slice b4 m.bs.length d4) := q8.cell 3
    have y4 : (w2.alloc (.cells #[.slice b1 m.xs.length d1, .slice b2 m.ys.length d2, .slice b3 m.is.length d3, .slice b4 m.bs.length d4, .slice b5 m.fs.length d5, .slice b6 m.ds.length d6, .int .i64 m.nx] 40)).cell? ⟨w2.heap.size, 4, none⟩ = some (.slice b5 m.fs.length d5) := q8.cell 4
    have y5 : (w2.alloc (.cells #[.slice b1 m.xs.length d1, .slice b2 m.ys.length d2, .slice b3 m.is.length d3, .slice b4 m.bs.length d4, .slice b5 m.fs.length d5, .slice b6 m.ds.length d6, .int .i64 m.nx] 40)).cell? ⟨w2.heap.size, 5, none⟩ = some (.slice b6 m.ds.length d6) := q8.cell 5
    have y6 : (w2.alloc (.cells #[.slice b1 m.xs.length d1, .slice b2 m.ys.length d2, .slice b3 m.is.length d3, .slice b4 m.bs.length d4, .slice b5 m.fs.length d5, .slice b6 m.ds.length d6, .int .i64 m.nx] 40)).cell? ⟨w2.heap.size, 6, none⟩ = some (.int .i64 m.nx) := q8.cell 6
    have HM : Hid (MO (((((((((w2.alloc (.cells #[.slice b1 m.xs.length d1, .slice b2 m.ys.length d2, .slice b3 m.is.length d3, .slice b4 m.bs.length d4, .slice b5 m.fs.length d5, .slice b6 m.ds.length d6, .int .i64 m.nx] 40)).setCell ⟨w.heap.size + 1, 0, none⟩ (.slice b1 m.xs.length d1)).setCell ⟨w.heap.size + 1, 1, none⟩ (.slice b2 m.ys.length d2)).setCell ⟨w.heap.size + 1, 2, none⟩ (.slice b3 m.is.length d3)).setCell ⟨w.heap.size + 1, 3, none⟩ (.slice b4 m.bs.length d4)).setCell ⟨w.heap.size + 1, 4, none⟩ (.slice b5 m.fs.length d5)).setCell ⟨w.heap.size + 1, 5, none⟩ (.slice b6 m.ds.length d6)).setCell ⟨w.heap.size + 1, 6, none⟩ (.int .i64 m.nx))) (fun k => w.heap.size ≤ k) (.slice b1 m.xs.length d1) (.slice b2 m.ys.length d2) (.slice b3 m.is.length d3) (.slice b4 m.bs.length d4) (.slice b5 m.fs.length d5) (.slice b6 m.ds.length d6) (takeI m) ∧ Below w.heap.size w (((((((((w2.alloc (.cells #[.slice b1 m.xs.length d1, .slice b2 m.ys.length d2, .slice b3 m.is.length d3, .slice b4 m.bs.length d4, .slice b5 m.fs.length d5, .slice b6 m.ds.length d6, .int .i64 m.nx] 40)).setCell ⟨w.heap.size + 1, 0, none⟩ (.slice b1 m.xs.length d1)).setCell ⟨w.heap.size + 1, 1, none⟩ (.slice b2 m.ys.length d2)).setCell ⟨w.heap.size + 1, 2, none⟩ (.slice b3 m.is.length d3)).setCell ⟨w.heap.size + 1, 3, none⟩ (.slice b4 m.bs.length d4)).setCell ⟨w.heap.size + 1, 4, none⟩ (.slice b5 m.fs.length d5)).setCell ⟨w.heap.size + 1, 5, none⟩ (.slice b6 m.ds.length d6)).setCell ⟨w.heap.size + 1, 6, none⟩ (.int .i64 m.nx)))) := by
      have e : takeI m = m := by unfold takeI; rw [if_pos HFF.out]
      rw [e]
      exact ⟨(HS.out.2.2.2.1.of_heap fun k hk _ => ((((((heap_setCell_other _ ⟨w.heap.size + 1, 6, none⟩ k _ (by show k ≠ w.heap.size + 1; omega)).trans (heap_setCell_other _ ⟨w.heap.size + 1, 5, none⟩ k _ (by show k ≠ w.heap.size + 1; omega))).trans (heap_setCell_other _ ⟨w.heap.size + 1, 4, none⟩ k _ (by show k ≠ w.heap.size + 1; omega))).trans (heap_setCell_other _ ⟨w.heap.size + 1, 3, none⟩ k _ (by show k ≠ w.heap.size + 1; omega))).trans (heap_setCell_other _ ⟨w.heap.size + 1, 2, none⟩ k _ (by show k ≠ w.heap.size + 1; omega))).trans (heap_setCell_other _ ⟨w.heap.size + 1, 1, none⟩ k _ (by show k ≠ w.heap.size + 1; omega))).trans (heap_setCell_other _ ⟨w.heap.size + 1, 0, none⟩ k _ (by show k ≠ w.heap.size + 1; omega))).mono fun k hk => by omega, (((((((HS.out.2.2.2.2).setCell (by simp) _).setCell (by simp) _).setCell (by simp) _).setCell (by simp) _).setCell (by simp) _).setCell (by simp) _).setCell (by simp) _⟩
    clear q9 q8 HS
    go_wp2
    refine bodyPost_ret (v := .tuple #[.agg #[.slice b1 m.xs.length d1, .slice b2 m.ys.length d2, .slice b3 m.is.length d3, .slice b4 m.bs.length d4, .slice b5 m.fs.length d5, .slice b6 m.ds.length d6, .int .i64 m.nx], .int .i64 0]) (by simp [results, go_sem, r0, r1, r2, r3, r4, r5, r6]) rfl ⟨_, _, _, _, _, _, by rw [HFF.out]; rfl, HM.out.1, HM.out.2⟩
  · obtain ⟨S1, S2, S3, ts, k1, -⟩ := HS.out.2.2.2.1
    obtain ⟨g, cap, e1, k1c, k1f, -, hg, -⟩ := k1.two.b.at k (by rw [fc_length]; exact hk)
    rw [fc_length] at e1
    simp only [Value.slice.injEq, true_and] at e1
    obtain ⟨rfl, rfl⟩ := e1
    have k1d : (w2.alloc (.cells #[.slice b1 m.xs.length d1, .slice (some ⟨g, 0, none⟩) m.ys.length d2, .slice b3 m.is.length d3, .slice b4 m.bs.length d4, .slice b5 m.fs.length d5, .slice b6 m.ds.length d6, .int .i64 m.nx] 40)).cell? ⟨g, k, none⟩ = some (.bool false) := k1c.trans (by simp [fc, hk, hkf])
    have HX : Hid (∃ w5, w5 = (w2.alloc (.cells #[.slice b1 m.xs.length d1, .slice (some ⟨g, 0, none⟩) m.ys.length d2, .slice b3 m.is.length d3, .slice b4 m.bs.length d4, .slice b5 m.fs.length d5, .slice b6 m.ds.length d6, .int .i64 m.nx] 40)).setCell ⟨g, k, none⟩ (.bool true) ∧ AtC w5 (w.heap.size + 1) 40 noM ∧ AtC w5 w2.heap.size 40 #[.slice b1 m.xs.length d1, .slice (some ⟨g, 0, none⟩) m.ys.length d2, .slice b3 m.is.length d3, .slice b4 m.bs.length d4, .slice b5 m.fs.length d5, .slice b6 m.ds.length d6, .int .i64 m.nx] ∧ MO w5 (fun k => w.heap.size + 1 + 1 ≤ k ∧ k < w2.heap.size) (.slice b1 m.xs.length d1) (.slice (some ⟨g, 0, none⟩) m.ys.length d2) (.slice b3 m.is.length d3) (.slice b4 m.bs.length d4) (.slice b5 m.fs.length d5) (.slice b6 m.ds.length d6) { m with ys := m.ys.set k true } ∧ Below w.heap.size w w5) := by
      obtain ⟨-, q2, q3, q4, q5⟩ := HS.out
      have st := ROwns.stored (l := fc m.ys) (g := g) (cap := d2) (by rw [fc_length]; exact k1.two.b) k (.bool true)
      rw [fc_length, ← fc_set] at st
      have hgS : w.heap.size + 1 + 1 ≤ g ∧ g < w2.heap.size := by
        obtain ⟨S1', S2', S3', ts', p1, -, -, -, -, -, p7⟩ := q4
        obtain ⟨T1, T2, T3, ti, tb, z1, z2, -, -, -, -, z7⟩ := p1
        exact p7 g (.inl (z7 g (.inl (z2 g (.inr rfl)))))
      exact ⟨_, rfl, (heap_setCell_other _ ⟨g, k, none⟩ _ _ (by show w.heap.size + 1 ≠ g; omega)).trans q2, (heap_setCell_other _ ⟨g, k, none⟩ _ _ (by show w2.heap.size ≠ g; omega)).trans q3, q4.turnY st.1 st.2, q5.setCell (by show w.heap.size ≤ g; omega) _⟩
    have kn : ((ff m.ys : Nat) : Int) - 1 = (k : Int) := by omega
    have kp : ¬ ((ff m.ys : Nat) : Int) = 0 := by omega
    have kl : (k : Int) < (m.ys.length : Int) := by omega
    have kz : (0 : Int) ≤ (k : Int) := by omega
    have kb : ((ff m.ys : Nat) : Int) ≤ 1048576 := by omega
    have yb0 : (w2.alloc (.cells #[.slice b1 m.xs.length d1, .slice (some ⟨g, 0, none⟩) m.ys.length d2, .slice b3 m.is.length d3, .slice b4 m.bs.length d4, .slice b5 m.fs.length d5, .slice b6 m.ds.length d6, .int .i64 m.nx] 40)).cell? ⟨w2.heap.size, 1, none⟩ = some (.slice (some ⟨g, 0, none⟩) m.ys.length d2) := HS.out.2.2.1.cell 1
    have HFF := hide hff
    clear k1 k1c hff hkf x0 HS
    generalize hF : ff m.ys = F at *
    go_wp2_with fail
    obtain ⟨w5, hw5, q2, q3, q4, q5⟩ := HX.out
    rw [← hw5]
    have hd5 : ROwns w5 0 4 (.slice b5 m.fs.length d5) (fc m.fs) ∧ ∀ k, (Value.slice b5 m.fs.length d5).ownBlock = some k → w.heap.size + 1 + 1 ≤ k ∧ k < w2.heap.size := by
      obtain ⟨S1', S2', S3', ts', -, p2, p3, -, -, -, p7⟩ := q4
      exact ⟨p2, fun k hk => p7 k (.inr (.inl (p3 k hk)))⟩
    refine (mark29_any w2.heap.size _ _ _ _ _ b5 d5 m.fs m.nx w5 q3 hd5.1).mono ?_
    rintro e w6 ⟨rfl, O6, G6⟩
    have M6 := q4.turnF O6 G6
    have q9 : AtC w6 (w.heap.size + 1) 40 noM := q2.grown G6 (fun e => by have := hd5.2 _ e; omega)
    have q8 : AtC w6 w2.heap.size 40 #[.slice b1 m.xs.length d1, .slice (some ⟨g, 0, none⟩) m.ys.length d2, .slice b3 m.is.length d3, .slice b4 m.bs.length d4, .slice b5 m.fs.length d5, .slice b6 m.ds.length d6, .int .i64 m.nx] := q3.grown G6 (fun e => by have := hd5.2 _ e; omega)
    have bel6 : Below w.heap.size w w6 := q5.grown G6 q5.size (fun k hk => by have := hd5.2 k hk; omega)
    have r0 : w6.cell? ⟨w.heap.size + 1, 0, none⟩ = some (.slice none 0 0) := q9.cell 0
    have v0 := q9.frozen 0
    have r1 : w6.cell? ⟨w.heap.size + 1, 1, none⟩ = some (.slice none 0 0) := q9.cell 1
    have v1 := q9.frozen 1
    have r2 : w6.cell? ⟨w.heap.size + 1, 2, none⟩ = some (.slice none 0 0) := q9.cell 2
    have v2 := q9.frozen 2
    have r3 : w6.cell? ⟨w.heap.size + 1, 3, none⟩ = some (.slice none 0 0) := q9.cell 3
    have v3 := q9.frozen 3
    have r4 : w6.cell? ⟨w.heap.size + 1, 4, none⟩ = some (.slice none 0 0) := q9.cell 4
    have v4 := q9.frozen 4
    have r5 : w6.cell? ⟨w.heap.size + 1, 5, none⟩ = some (.slice none 0 0) := q9.cell 5
    have v5 := q9.frozen 5
    have r6 : w6.cell? ⟨w.heap.size + 1, 6, none⟩ = some (.int .i64 0) := q9.cell 6
    have v6 := q9.frozen 6
    have y0 : w6.cell? ⟨w2.heap.size, 0, none⟩ = some (.slice b1 m.xs.length d1) := q8.cell 0
    have y1 : w6.cell? ⟨w2.heap.size, 1, none⟩ = some (.slice (some ⟨g, 0, none⟩) m.ys.length d2) := q8.cell 1
    have y2 : w6.cell? ⟨w2.heap.size, 2, none⟩ = some (.slice b3 m.is.length d3) := q8.cell 2
    have y3 : w6.cell? ⟨w2.heap.size, 3, none⟩ = some (.slice b4 m.bs.length d4) := q8.cell 3
    have y4 : w6.cell? ⟨w2.heap.size, 4, none⟩ = some (.slice b5 m.fs.length d5) := q8.cell 4
    have y5 : w6.cell? ⟨w2.heap.size, 5, none⟩ = some (.slice b6 m.ds.length d6) := q8.cell 5
    have y6 : w6.cell? ⟨w2.heap.size, 6, none⟩ = some (.int .i64 m.nx) := q8.cell 6
    have HM : Hid (MO ((((((((w6.setCell ⟨w.heap.size + 1, 0, none⟩ (.slice b1 m.xs.length d1)).setCell ⟨w.heap.size + 1, 1, none⟩ (.slice (some ⟨g, 0, none⟩) m.ys.length d2)).setCell ⟨w.heap.size + 1, 2, none⟩ (.slice b3 m.is.length d3)).setCell ⟨w.heap.size + 1, 3, none⟩ (.slice b4 m.bs.length d4)).setCell ⟨w.heap.size + 1, 4, none⟩ (.slice b5 m.fs.length d5)).setCell ⟨w.heap.size + 1, 5, none⟩ (.slice b6 m.ds.length d6)).setCell ⟨w.heap.size + 1, 6, none⟩ (.int .i64 m.nx))) (fun k => w.heap.size ≤ k) (.slice b1 m.xs.length d1) (.slice (some ⟨g, 0, none⟩) m.ys.length d2) (.slice b3 m.is.length d3) (.slice b4 m.bs.length d4) (.slice b5 m.fs.length d5) (.slice b6 m.ds.length d6) (takeI m) ∧ Below w.heap.size w ((((((((w6.setCell ⟨w.heap.size + 1, 0, none⟩ (.slice b1 m.xs.length d1)).setCell ⟨w.heap.size + 1, 1, none⟩ (.slice (some ⟨g, 0, none⟩) m.ys.length d2)).setCell ⟨w.heap.size + 1, 2, none⟩ (.slice b3 m.is.length d3)).setCell ⟨w.heap.size + 1, 3, none⟩ (.slice b4 m.bs.length d4)).setCell ⟨w.heap.size + 1, 4, none⟩ (.slice b5 m.fs.length d5)).setCell ⟨w.heap.size + 1, 5, none⟩ (.slice b6 m.ds.length d6)).setCell ⟨w.heap.size + 1, 6, none⟩ (.int .i64 m.nx)))) := by
      have e : takeI m = { m with ys := m.ys.set k true, fs := m.fs.set 0 true } := by
        unfold takeI
        rw [hF, if_neg (by omega), show F - 1 = k by omega]
      rw [e]
      exact ⟨(M6.of_heap fun k hk _ => ((((((heap_setCell_other _ ⟨w.heap.size + 1, 6, none⟩ k _ (by show k ≠ w.heap.size + 1; omega)).trans (heap_setCell_other _ ⟨w.heap.size + 1, 5, none⟩ k _ (by show k ≠ w.heap.size + 1; omega))).trans (heap_setCell_other _ ⟨w.heap.size + 1, 4, none⟩ k _ (by show k ≠ w.heap.size + 1; omega))).trans (heap_setCell_other _ ⟨w.heap.size + 1, 3, none⟩ k _ (by show k ≠ w.heap.size + 1; omega))).trans (heap_setCell_other _ ⟨w.heap.size + 1, 2, none⟩ k _ (by show k ≠ w.heap.size + 1; omega))).trans (heap_setCell_other _ ⟨w.heap.size + 1, 1, none⟩ k _ (by show k ≠ w.heap.size + 1; omega))).trans (heap_setCell_other _ ⟨w.heap.size + 1, 0, none⟩ k _ (by show k ≠ w.heap.size + 1; omega))).mono fun k hk => by omega, (((((((bel6).setCell (by simp) _).setCell (by simp) _).setCell (by simp) _).setCell (by simp) _).setCell (by simp) _).setCell (by simp) _).setCell (by simp) _⟩
    clear q9 q8 q2 q3 q4 q5 M6 O6 G6 bel6 hd5 HX k1d k1f yb0 hw5
    go_wp2
    refine bodyPost_ret (v := .tuple #[.agg #[.slice b1 m.xs.length d1, .slice (some ⟨g, 0, none⟩) m.ys.length d2, .slice b3 m.is.length d3, .slice b4 m.bs.length d4, .slice b5 m.fs.length d5, .slice b6 m.ds.length d6, .int .i64 m.nx], .int .i64 (F : Nat)]) (by simp [results, go_sem, r0, r1, r2, r3, r4, r5, r6]) rfl ⟨_, _, _, _, _, _, by rw [hF], HM.out.1, HM.out.2⟩
end Go.Proofs.YtggjillpfclajaaGreat
