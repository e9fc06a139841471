/- Texts of the proof, bundled: Mw, Lo, Nm. -/
import Derived.MapKept
import Derived.Test.YtggjillpfclajaaGreatU11
import Derived.Test.YtggjillpfclajaaGreatU07
import Derived.Test.YtggjillpfclajaaGreatU12
import Derived.Test.YtggjillpfclajaaGreatU06
/- A memory with these that lean: impl.memWith by its contract. -/
namespace Go.Proofs.YtggjillpfclajaaGreat.Kit
open Go.RowKit Go.Maps
/-- Flags copied. -/
def MkWg (k : Nat) (xs : List Bool) : Mk := .val [k] (fun lo hi w v => ∃ a c, v = .slice a xs.length c ∧ ROwns w lo 4 v (fc xs) ∧ ∀ i, v.ownBlock = some i → i < hi)
  (fun _ _ _ _ _ h hb => by obtain ⟨a, c, h1, h2, h3⟩ := h; exact ⟨a, c, h1, h2.below hb (Nat.le_refl _), h3⟩)
/-- The list of those that lean. -/
def MkWo (k n : Nat) (ps : List Value) (ds : List Dp) : Mk := .val [k] (fun lo hi w v => ∃ a c ts, v = .slice a n c ∧ GN KDep w (fun k => (∃ (i : Nat) (hi : i < ps.length), ps[i].ownBlock = some k) ∨ (lo ≤ k ∧ k < hi)) v ts ds)
  (fun _ _ _ _ _ h hb => by obtain ⟨a, c, ts, h1, h2⟩ := h; exact ⟨a, c, ts, h1, h2.below hb (Nat.le_refl _)⟩)
/-- A memory built. -/
def MkM7 (k l o q n1 n2 n3 n4 n5 n6 : Nat) (nx : Int) : Mk := ⟨[k, l, o, q], fun _ _ _ v x => ∃ a1 c1 a2 c2 a3 c3 a4 c4 a5 c5 a6 c6, x k = .agg #[.slice a1 n1 c1, .slice a2 n2 c2, .slice a3 n3 c3, .slice a4 n4 c4] ∧ x l = .slice a5 n5 c5 ∧ x o = .slice a6 n6 c6 ∧ v = .agg #[.slice a1 n1 c1, .slice a2 n2 c2, .slice a3 n3 c3, .slice a4 n4 c4, .slice a5 n5 c5, .slice a6 n6 c6, .int .i64 nx], fun _ _ _ _ _ _ h _ => h, fun _ _ _ _ x x' e h => by
  obtain ⟨a1, c1, a2, c2, a3, c3, a4, c4, a5, c5, a6, c6, h1, h2, h3, h4⟩ := h
  exact ⟨a1, c1, a2, c2, a3, c3, a4, c4, a5, c5, a6, c6, by rw [← e k (by simp), h1], by rw [← e l (by simp), h2], by rw [← e o (by simp), h3], h4⟩⟩
end Go.Proofs.YtggjillpfclajaaGreat.Kit
namespace Go.Proofs.YtggjillpfclajaaGreat
open Go.RowKit Kit Go.Maps
set_option maxRecDepth 100000 in
set_option maxHeartbeats 3200000 in
theorem memWith_any {N : Nat} (L B : Nat) (E : List Ln) (ps : List Value) (u v iv bv dv pv : Value) (m : MD) (w : World) (h : MR w u v iv bv dv pv m) (hB : BigM 1048576 m) (hE : LEN Tryz.prog w L B E ps N) (hpl : ∀ i j : Fin E.length, i < j → E[i].pl < E[j].pl) (hEl : E.length ≤ 1048576) (hL : L ≤ w.heap.size) :
    Calls Tryz.prog 49 #[.agg #[u, v, iv, bv, dv, pv, .int .i64 m.nx], .map (some B)] w fun e w' => ∃ u' v' i' b' d' p', e = .returned (.agg #[u', v', i', b', d', p', .int .i64 m.nx]) ∧ MO w' (fun k => L ≤ k) u' v' i' b' d' p' { m with ds := E.map (·.d) } ∧ Below w.heap.size w w' := by
  have H := hide h
  have HG := hide hB
  have HE := hide hE
  have HPL := hide hpl
  have HEL := hide hEl
  have HL := hide hL
  obtain ⟨a1, c1, a2, c2, a3, c3, a4, c4, a5, c5, a6, c6, rfl, rfl, rfl, rfl, rfl, rfl⟩ := h.form
  clear h hB hE hpl hEl hL
  go_enter Tryz.func49, Tryz.ntmps49
  go_wp2_with fail
  have HC : Hid (∀ W, Below ((w.alloc (.cells #[.slice a1 m.xs.length c1, .slice a2 m.ys.length c2, .slice a3 m.is.length c3, .slice a4 m.bs.length c4, .slice a5 m.fs.length c5, .slice a6 m.ds.length c6, .int .i64 m.nx] 40)).alloc (.cells noM 40)).drew.heap.size ((w.alloc (.cells #[.slice a1 m.xs.length c1, .slice a2 m.ys.length c2, .slice a3 m.is.length c3, .slice a4 m.bs.length c4, .slice a5 m.fs.length c5, .slice a6 m.ds.length c6, .int .i64 m.nx] 40)).alloc (.cells noM 40)).drew W → AtC W w.heap.size 40 #[.slice a1 m.xs.length c1, .slice a2 m.ys.length c2, .slice a3 m.is.length c3, .slice a4 m.bs.length c4, .slice a5 m.fs.length c5, .slice a6 m.ds.length c6, .int .i64 m.nx] ∧ AtC W (w.heap.size + 1) 40 noM ∧ Below w.heap.size w W ∧ w.heap.size + 1 + 1 ≤ W.heap.size) := fun W b => by
    have b2 := of_drew b
    have k1 := (AtC.new (w.alloc (.cells #[.slice a1 m.xs.length c1, .slice a2 m.ys.length c2, .slice a3 m.is.length c3, .slice a4 m.bs.length c4, .slice a5 m.fs.length c5, .slice a6 m.ds.length c6, .int .i64 m.nx] 40)) 40 noM).over b2
    have sz := b2.size
    simp at k1 sz
    exact ⟨((AtC.new w 40 _).alloc _).over b2, k1, (((Below.refl _ w).alloc (Nat.le_refl _) _).alloc (by simp) _).trans (b2.mono (by simp; omega)), sz⟩
  refine wp_region_frm (by kernel_rfl) [0, 1, 2, 3, 4, 5, 6, 7, 8, 9, 10] [11] (fun i => match i with | 0 => .const [] (.pointer (some ⟨w.heap.size, 0, none⟩)) | 1 => .const [0] (.agg #[.slice a1 m.xs.length c1, .slice a2 m.ys.length c2, .slice a3 m.is.length c3, .slice a4 m.bs.length c4]) | 2 => MkD 1 m.xs m.ys m.is m.bs | 3 => .const [] (.pointer (some ⟨w.heap.size, 4, none⟩)) | 4 => .const [3] (.slice a5 m.fs.length c5) | 5 => MkWg 4 m.fs | 6 => .const [] (.map (some B)) | 7 => MkWo 6 E.length ps (E.map (·.d)) | 8 => .const [] (.pointer (some ⟨w.heap.size, 6, none⟩)) | 9 => .const [8] (.int .i64 m.nx) | 10 => MkM7 2 5 7 9 m.xs.length m.ys.length m.is.length m.bs.length m.fs.length E.length m.nx | _ => .triv) (fun x => ⟨#[Value.agg #[Value.slice a1 m.xs.length c1, Value.slice a2 m.ys.length c2, Value.slice a3 m.is.length c3, Value.slice a4 m.bs.length c4, Value.slice a5 m.fs.length c5, Value.slice a6 m.ds.length c6, Value.int IntKind.i64 m.nx], Value.map (some B), Value.pointer (some { block := w.heap.size, off := 0 }), undef, Value.pointer (some { block := w.heap.size + 1, off := 0 }), x 0, x 1, x 2, x 3, x 4, x 5, x 6, x 7, x 8, x 9, x 10], []⟩) (fun i => match i with | 0 => undef | 1 => undef | 2 => undef | 3 => undef | 4 => undef | 5 => undef | 6 => undef | 7 => undef | 8 => undef | 9 => undef | 10 => undef | _ => undef) rfl (by kernel_rfl) (by kernel_rfl) (by kernel_rfl) rfl ?_ ?_
  · intro jo hj so x iw W hd hp K hK
    simp only [List.mem_cons, List.not_mem_nil, or_false] at hj
    rcases hj with rfl | rfl | rfl | rfl | rfl | rfl | rfl | rfl | rfl | rfl | rfl
    · refine wpOp_step (o := _) rfl fun K' hK' => ?_
      have HK : Hid (∀ v W', Below W.heap.size W W' → ((Mk.const [] (.pointer (some ⟨w.heap.size, 0, none⟩)) : Mk)).P W.heap.size W'.heap.size W' v (upd x 0 v) → K' ⟨#[Value.agg #[Value.slice a1 m.xs.length c1, Value.slice a2 m.ys.length c2, Value.slice a3 m.is.length c3, Value.slice a4 m.bs.length c4, Value.slice a5 m.fs.length c5, Value.slice a6 m.ds.length c6, Value.int IntKind.i64 m.nx], Value.map (some B), Value.pointer (some { block := w.heap.size, off := 0 }), undef, Value.pointer (some { block := w.heap.size + 1, off := 0 }), v, x 1, x 2, x 3, x 4, x 5, x 6, x 7, x 8, x 9, x 10], []⟩ W') := fun v W' h1 h2 => hK' _ _ (hK v W' h1 h2)
      clear hK hK' hp hd
      go_simp
      exact HK.out _ _ (Below.refl _ _) rfl
    · refine wpOp_step (o := _) rfl fun K' hK' => ?_
      have HK : Hid (∀ v W', Below W.heap.size W W' → ((Mk.const [0] (.agg #[.slice a1 m.xs.length c1, .slice a2 m.ys.length c2, .slice a3 m.is.length c3, .slice a4 m.bs.length c4]) : Mk)).P W.heap.size W'.heap.size W' v (upd x 1 v) → K' ⟨#[Value.agg #[Value.slice a1 m.xs.length c1, Value.slice a2 m.ys.length c2, Value.slice a3 m.is.length c3, Value.slice a4 m.bs.length c4, Value.slice a5 m.fs.length c5, Value.slice a6 m.ds.length c6, Value.int IntKind.i64 m.nx], Value.map (some B), Value.pointer (some { block := w.heap.size, off := 0 }), undef, Value.pointer (some { block := w.heap.size + 1, off := 0 }), x 0, v, x 2, x 3, x 4, x 5, x 6, x 7, x 8, x 9, x 10], []⟩ W') := fun v W' h1 h2 => hK' _ _ (hK v W' h1 h2)
      have e0 : x 0 = .pointer (some ⟨w.heap.size, 0, none⟩) := hp.post 0 (hd 0 (show 0 ∈ [0] from by decide))
      have k0 := (HC.out W hp.bel).1
      have q0 : W.cell? ⟨w.heap.size, 0, none⟩ = some (.slice a1 m.xs.length c1) := k0.cell 0
      have q1 : W.cell? ⟨w.heap.size, 1, none⟩ = some (.slice a2 m.ys.length c2) := k0.cell 1
      have q2 : W.cell? ⟨w.heap.size, 2, none⟩ = some (.slice a3 m.is.length c3) := k0.cell 2
      have q3 : W.cell? ⟨w.heap.size, 3, none⟩ = some (.slice a4 m.bs.length c4) := k0.cell 3
      clear k0
      clear hK hK' hp hd
      simp only [e0] at HK ⊢
      go_simp
      exact HK.out _ _ (Below.refl _ _) rfl
    · refine wpOp_step (o := _) rfl fun K' hK' => ?_
      have HK : Hid (∀ v W', Below W.heap.size W W' → (MkD 1 m.xs m.ys m.is m.bs).P W.heap.size W'.heap.size W' v (upd x 2 v) → K' ⟨#[Value.agg #[Value.slice a1 m.xs.length c1, Value.slice a2 m.ys.length c2, Value.slice a3 m.is.length c3, Value.slice a4 m.bs.length c4, Value.slice a5 m.fs.length c5, Value.slice a6 m.ds.length c6, Value.int IntKind.i64 m.nx], Value.map (some B), Value.pointer (some { block := w.heap.size, off := 0 }), undef, Value.pointer (some { block := w.heap.size + 1, off := 0 }), x 0, x 1, v, x 3, x 4, x 5, x 6, x 7, x 8, x 9, x 10], []⟩ W') := fun v W' h1 h2 => hK' _ _ (hK v W' h1 h2)
      have e1 : x 1 = .agg #[.slice a1 m.xs.length c1, .slice a2 m.ys.length c2, .slice a3 m.is.length c3, .slice a4 m.bs.length c4] := hp.post 1 (hd 1 (show 1 ∈ [1] from by decide))
      have bl := (HC.out W hp.bel).2.2.1
      clear hK hK' hp hd
      simp only [e1] at HK ⊢
      go_simp
      refine (newDisk_any _ _ _ _ m.xs m.ys m.is m.bs W (H.out.d.below bl (Nat.le_refl _)) HG.out.d).mono ?_
      rintro e w6 ⟨p1, p2, p3, p4, rfl, O6, B6⟩
      obtain ⟨b1, d1, b2, d2, b3, d3, b4, d4, rfl, rfl, rfl, rfl⟩ := O6.dr.form
      go_simp
      exact HK.out _ _ B6 ⟨b1, d1, b2, d2, b3, d3, b4, d4, rfl, O6.bound⟩
    · refine wpOp_step (o := _) rfl fun K' hK' => ?_
      have HK : Hid (∀ v W', Below W.heap.size W W' → ((Mk.const [] (.pointer (some ⟨w.heap.size, 4, none⟩)) : Mk)).P W.heap.size W'.heap.size W' v (upd x 3 v) → K' ⟨#[Value.agg #[Value.slice a1 m.xs.length c1, Value.slice a2 m.ys.length c2, Value.slice a3 m.is.length c3, Value.slice a4 m.bs.length c4, Value.slice a5 m.fs.length c5, Value.slice a6 m.ds.length c6, Value.int IntKind.i64 m.nx], Value.map (some B), Value.pointer (some { block := w.heap.size, off := 0 }), undef, Value.pointer (some { block := w.heap.size + 1, off := 0 }), x 0, x 1, x 2, v, x 4, x 5, x 6, x 7, x 8, x 9, x 10], []⟩ W') := fun v W' h1 h2 => hK' _ _ (hK v W' h1 h2)
      clear hK hK' hp hd
      go_simp
      exact HK.out _ _ (Below.refl _ _) rfl
    · refine wpOp_step (o := _) rfl fun K' hK' => ?_
      have HK : Hid (∀ v W', Below W.heap.size W W' → ((Mk.const [3] (.slice a5 m.fs.length c5) : Mk)).P W.heap.size W'.heap.size W' v (upd x 4 v) → K' ⟨#[Value.agg #[Value.slice a1 m.xs.length c1, Value.slice a2 m.ys.length c2, Value.slice a3 m.is.length c3, Value.slice a4 m.bs.length c4, Value.slice a5 m.fs.length c5, Value.slice a6 m.ds.length c6, Value.int IntKind.i64 m.nx], Value.map (some B), Value.pointer (some { block := w.heap.size, off := 0 }), undef, Value.pointer (some { block := w.heap.size + 1, off := 0 }), x 0, x 1, x 2, x 3, v, x 5, x 6, x 7, x 8, x 9, x 10], []⟩ W') := fun v W' h1 h2 => hK' _ _ (hK v W' h1 h2)
      have e3 : x 3 = .pointer (some ⟨w.heap.size, 4, none⟩) := hp.post 3 (hd 3 (show 3 ∈ [3] from by decide))
      have q0 : W.cell? ⟨w.heap.size, 4, none⟩ = some (.slice a5 m.fs.length c5) := (HC.out W hp.bel).1.cell 4
      clear hK hK' hp hd
      simp only [e3] at HK ⊢
      go_simp
      exact HK.out _ _ (Below.refl _ _) rfl
    · refine wpOp_step (o := _) rfl fun K' hK' => ?_
      have HK : Hid (∀ v W', Below W.heap.size W W' → (MkWg 4 m.fs).P W.heap.size W'.heap.size W' v (upd x 5 v) → K' ⟨#[Value.agg #[Value.slice a1 m.xs.length c1, Value.slice a2 m.ys.length c2, Value.slice a3 m.is.length c3, Value.slice a4 m.bs.length c4, Value.slice a5 m.fs.length c5, Value.slice a6 m.ds.length c6, Value.int IntKind.i64 m.nx], Value.map (some B), Value.pointer (some { block := w.heap.size, off := 0 }), undef, Value.pointer (some { block := w.heap.size + 1, off := 0 }), x 0, x 1, x 2, x 3, x 4, v, x 6, x 7, x 8, x 9, x 10], []⟩ W') := fun v W' h1 h2 => hK' _ _ (hK v W' h1 h2)
      have e4 : x 4 = .slice a5 m.fs.length c5 := hp.post 4 (hd 4 (show 4 ∈ [4] from by decide))
      have bl := (HC.out W hp.bel).2.2.1
      clear hK hK' hp hd
      simp only [e4] at HK ⊢
      go_simp
      refine (newB_any _ m.fs W (H.out.f.below bl (Nat.le_refl _)) HG.out.f).mono ?_
      rintro e w6 ⟨u, rfl, O6, B6⟩
      obtain ⟨b1, d1, rfl⟩ := O6.rfl.form
      go_simp
      exact HK.out _ _ B6 ⟨b1, d1, rfl, O6, fun i hi => (O6.lt i hi).2⟩
    · refine wpOp_step (o := _) rfl fun K' hK' => ?_
      have HK : Hid (∀ v W', Below W.heap.size W W' → ((Mk.const [] (.map (some B)) : Mk)).P W.heap.size W'.heap.size W' v (upd x 6 v) → K' ⟨#[Value.agg #[Value.slice a1 m.xs.length c1, Value.slice a2 m.ys.length c2, Value.slice a3 m.is.length c3, Value.slice a4 m.bs.length c4, Value.slice a5 m.fs.length c5, Value.slice a6 m.ds.length c6, Value.int IntKind.i64 m.nx], Value.map (some B), Value.pointer (some { block := w.heap.size, off := 0 }), undef, Value.pointer (some { block := w.heap.size + 1, off := 0 }), x 0, x 1, x 2, x 3, x 4, x 5, v, x 7, x 8, x 9, x 10], []⟩ W') := fun v W' h1 h2 => hK' _ _ (hK v W' h1 h2)
      clear hK hK' hp hd
      go_simp
      exact HK.out _ _ (Below.refl _ _) rfl
    · refine wpOp_step (o := _) rfl fun K' hK' => ?_
      have HK : Hid (∀ v W', Below W.heap.size W W' → (MkWo 6 E.length ps (E.map (·.d))).P W.heap.size W'.heap.size W' v (upd x 7 v) → K' ⟨#[Value.agg #[Value.slice a1 m.xs.length c1, Value.slice a2 m.ys.length c2, Value.slice a3 m.is.length c3, Value.slice a4 m.bs.length c4, Value.slice a5 m.fs.length c5, Value.slice a6 m.ds.length c6, Value.int IntKind.i64 m.nx], Value.map (some B), Value.pointer (some { block := w.heap.size, off := 0 }), undef, Value.pointer (some { block := w.heap.size + 1, off := 0 }), x 0, x 1, x 2, x 3, x 4, x 5, x 6, v, x 8, x 9, x 10], []⟩ W') := fun v W' h1 h2 => hK' _ _ (hK v W' h1 h2)
      have e6 : x 6 = .map (some B) := hp.post 6 (hd 6 (show 6 ∈ [6] from by decide))
      have bl := (HC.out W hp.bel).2.2.1
      clear hK hK' hp hd
      simp only [e6] at HK ⊢
      go_simp
      refine (inOrder_any L B E ps W (HE.out.below bl) HPL.out HEL.out).mono ?_
      rintro e w6 ⟨lv, ts, rfl, O6, B6⟩
      obtain ⟨b1, d1, ef⟩ := O6.form
      rw [List.length_map] at ef
      subst ef
      have O7 : GN KDep w6 (fun k => (∃ (i : Nat) (hi : i < ps.length), ps[i].ownBlock = some k) ∨ (W.heap.size ≤ k ∧ k < w6.heap.size)) (.slice b1 E.length d1) ts (E.map (·.d)) := O6.bound.mono fun k hk => hk.1.elim (fun e => Or.inl e) fun e => Or.inr ⟨e, hk.2⟩
      go_simp
      exact HK.out _ _ B6 ⟨b1, d1, ts, rfl, O7⟩
    · refine wpOp_step (o := _) rfl fun K' hK' => ?_
      have HK : Hid (∀ v W', Below W.heap.size W W' → ((Mk.const [] (.pointer (some ⟨w.heap.size, 6, none⟩)) : Mk)).P W.heap.size W'.heap.size W' v (upd x 8 v) → K' ⟨#[Value.agg #[Value.slice a1 m.xs.length c1, Value.slice a2 m.ys.length c2, Value.slice a3 m.is.length c3, Value.slice a4 m.bs.length c4, Value.slice a5 m.fs.length c5, Value.slice a6 m.ds.length c6, Value.int IntKind.i64 m.nx], Value.map (some B), Value.pointer (some { block := w.heap.size, off := 0 }), undef, Value.pointer (some { block := w.heap.size + 1, off := 0 }), x 0, x 1, x 2, x 3, x 4, x 5, x 6, x 7, v, x 9, x 10], []⟩ W') := fun v W' h1 h2 => hK' _ _ (hK v W' h1 h2)
      clear hK hK' hp hd
      go_simp
      exact HK.out _ _ (Below.refl _ _) rfl
    · refine wpOp_step (o := _) rfl fun K' hK' => ?_
      have HK : Hid (∀ v W', Below W.heap.size W W' → ((Mk.const [8] (.int .i64 m.nx) : Mk)).P W.heap.size W'.heap.size W' v (upd x 9 v) → K' ⟨#[Value.agg #[Value.slice a1 m.xs.length c1, Value.slice a2 m.ys.length c2, Value.slice a3 m.is.length c3, Value.slice a4 m.bs.length c4, Value.slice a5 m.fs.length c5, Value.slice a6 m.ds.length c6, Value.int IntKind.i64 m.nx], Value.map (some B), Value.pointer (some { block := w.heap.size, off := 0 }), undef, Value.pointer (some { block := w.heap.size + 1, off := 0 }), x 0, x 1, x 2, x 3, x 4, x 5, x 6, x 7, x 8, v, x 10], []⟩ W') := fun v W' h1 h2 => hK' _ _ (hK v W' h1 h2)
      have e8 : x 8 = .pointer (some ⟨w.heap.size, 6, none⟩) := hp.post 8 (hd 8 (show 8 ∈ [8] from by decide))
      have q0 : W.cell? ⟨w.heap.size, 6, none⟩ = some (.int .i64 m.nx) := (HC.out W hp.bel).1.cell 6
      clear hK hK' hp hd
      simp only [e8] at HK ⊢
      go_simp
      exact HK.out _ _ (Below.refl _ _) rfl
    · refine wpOp_step (o := _) rfl fun K' hK' => ?_
      have HK : Hid (∀ v W', Below W.heap.size W W' → (MkM7 2 5 7 9 m.xs.length m.ys.length m.is.length m.bs.length m.fs.length E.length m.nx).P W.heap.size W'.heap.size W' v (upd x 10 v) → K' ⟨#[Value.agg #[Value.slice a1 m.xs.length c1, Value.slice a2 m.ys.length c2, Value.slice a3 m.is.length c3, Value.slice a4 m.bs.length c4, Value.slice a5 m.fs.length c5, Value.slice a6 m.ds.length c6, Value.int IntKind.i64 m.nx], Value.map (some B), Value.pointer (some { block := w.heap.size, off := 0 }), undef, Value.pointer (some { block := w.heap.size + 1, off := 0 }), x 0, x 1, x 2, x 3, x 4, x 5, x 6, x 7, x 8, x 9, v], []⟩ W') := fun v W' h1 h2 => hK' _ _ (hK v W' h1 h2)
      have e2 : ∃ a1 c1 a2 c2 a3 c3 a4 c4, x 2 = .agg #[.slice a1 m.xs.length c1, .slice a2 m.ys.length c2, .slice a3 m.is.length c3, .slice a4 m.bs.length c4] ∧ DO W (fun q => (iw 2).1 ≤ q ∧ q < (iw 2).2) (.slice a1 m.xs.length c1) (.slice a2 m.ys.length c2) (.slice a3 m.is.length c3) (.slice a4 m.bs.length c4) m.xs m.ys m.is m.bs := hp.post 2 (hd 2 (show 2 ∈ [2, 5, 7, 9] from by decide))
      have e5 : ∃ a c, x 5 = .slice a m.fs.length c ∧ ROwns W (iw 5).1 4 (x 5) (fc m.fs) ∧ ∀ i, (x 5).ownBlock = some i → i < (iw 5).2 := hp.post 5 (hd 5 (show 5 ∈ [2, 5, 7, 9] from by decide))
      have e7 : ∃ a c ts, x 7 = .slice a E.length c ∧ GN KDep W (fun k => (∃ (i : Nat) (hi : i < ps.length), ps[i].ownBlock = some k) ∨ ((iw 7).1 ≤ k ∧ k < (iw 7).2)) (x 7) ts (E.map (·.d)) := hp.post 7 (hd 7 (show 7 ∈ [2, 5, 7, 9] from by decide))
      have e9 : x 9 = .int .i64 m.nx := hp.post 9 (hd 9 (show 9 ∈ [2, 5, 7, 9] from by decide))
      clear hK hK' hp hd
      obtain ⟨b1, d1, b2, d2, b3, d3, b4, d4, e2, -⟩ := e2
      obtain ⟨b5, d5, e5, -⟩ := e5
      obtain ⟨b6, d6, ts, e7, -⟩ := e7
      have HE3 := hide (And.intro e2 (And.intro e5 e7))
      simp only [e2, e5, e7, e9] at HK ⊢
      clear e2 e5 e7 e9
      go_simp
      exact HK.out _ _ (Below.refl _ _) ⟨b1, d1, b2, d2, b3, d3, b4, d4, b5, d5, b6, d6, by rw [upd_ne _ _ _ _ (by decide)]; exact HE3.out.1, by rw [upd_ne _ _ _ _ (by decide)]; exact HE3.out.2.1, by rw [upd_ne _ _ _ _ (by decide)]; exact HE3.out.2.2, rfl⟩
  · intro x iw W hp
    obtain ⟨b1, d1, b2, d2, b3, d3, b4, d4, e2, O2⟩ := hp.post 2 (by decide)
    obtain ⟨b5, d5, e5, O5, lt5⟩ := hp.post 5 (by decide)
    obtain ⟨b6, d6, ts, e7, O7⟩ := hp.post 7 (by decide)
    obtain ⟨g1, h1, g2, h2, g3, h3, g4, h4, g5, h5, g6, h6, k2, k5, k7, e10⟩ := hp.post 10 (by decide)
    rw [e2] at k2
    rw [e5] at k5 O5 lt5
    rw [e7] at k7 O7
    simp only [Value.agg.injEq, Array.mk.injEq, List.cons.injEq, Value.slice.injEq, true_and, and_true] at k2 k5 k7
    obtain ⟨⟨rfl, rfl⟩, ⟨rfl, rfl⟩, ⟨rfl, rfl⟩, rfl, rfl⟩ := k2
    obtain ⟨rfl, rfl⟩ := k5
    obtain ⟨rfl, rfl⟩ := k7
    have p25 := hp.apart 2 (by decide) 5 (by decide) (by decide)
    have p27 := hp.apart 2 (by decide) 7 (by decide) (by decide)
    have p57 := hp.apart 5 (by decide) 7 (by decide) (by decide)
    have l2 := hp.lo 2 (by decide)
    have l5 := hp.lo 5 (by decide)
    have l7 := hp.lo 7 (by decide)
    simp [World.drew] at l2 l5 l7
    obtain ⟨kA, kR, bel, -⟩ := HC.out W hp.bel
    have hps : ∀ (i : Nat) (hi : i < ps.length) (k : Nat), ps[i].ownBlock = some k → L ≤ k ∧ k < w.heap.size := fun i hi k hk => ⟨HE.out.lop i hi k hk, ((HE.out.own i (by have := HE.out.len; omega) hi).lt k hk).2⟩
    have hL := HL.out
    have HM : Hid (MO ((((((((W.setCell ⟨w.heap.size + 1, 0, none⟩ (.slice b1 m.xs.length d1)).setCell ⟨w.heap.size + 1, 1, none⟩ (.slice b2 m.ys.length d2)).setCell ⟨w.heap.size + 1, 2, none⟩ (.slice b3 m.is.length d3)).setCell ⟨w.heap.size + 1, 3, none⟩ (.slice b4 m.bs.length d4)).setCell ⟨w.heap.size + 1, 4, none⟩ (.slice b5 m.fs.length d5)).setCell ⟨w.heap.size + 1, 5, none⟩ (.slice b6 E.length d6)).setCell ⟨w.heap.size + 1, 6, none⟩ (.int .i64 m.nx))) (fun k => L ≤ k) (.slice b1 m.xs.length d1) (.slice b2 m.ys.length d2) (.slice b3 m.is.length d3) (.slice b4 m.bs.length d4) (.slice b5 m.fs.length d5) (.slice b6 E.length d6) { m with ds := E.map (·.d) } ∧ Below w.heap.size w ((((((((W.setCell ⟨w.heap.size + 1, 0, none⟩ (.slice b1 m.xs.length d1)).setCell ⟨w.heap.size + 1, 1, none⟩ (.slice b2 m.ys.length d2)).setCell ⟨w.heap.size + 1, 2, none⟩ (.slice b3 m.is.length d3)).setCell ⟨w.heap.size + 1, 3, none⟩ (.slice b4 m.bs.length d4)).setCell ⟨w.heap.size + 1, 4, none⟩ (.slice b5 m.fs.length d5)).setCell ⟨w.heap.size + 1, 5, none⟩ (.slice b6 E.length d6)).setCell ⟨w.heap.size + 1, 6, none⟩ (.int .i64 m.nx)))) := by
      have hoth : ∀ k, k ≠ w.heap.size + 1 → ((((((((W.setCell ⟨w.heap.size + 1, 0, none⟩ (.slice b1 m.xs.length d1)).setCell ⟨w.heap.size + 1, 1, none⟩ (.slice b2 m.ys.length d2)).setCell ⟨w.heap.size + 1, 2, none⟩ (.slice b3 m.is.length d3)).setCell ⟨w.heap.size + 1, 3, none⟩ (.slice b4 m.bs.length d4)).setCell ⟨w.heap.size + 1, 4, none⟩ (.slice b5 m.fs.length d5)).setCell ⟨w.heap.size + 1, 5, none⟩ (.slice b6 E.length d6)).setCell ⟨w.heap.size + 1, 6, none⟩ (.int .i64 m.nx))).heap[k]? = W.heap[k]? := fun k hk => ((((((heap_setCell_other _ ⟨w.heap.size + 1, 6, none⟩ k _ (by show k ≠ w.heap.size + 1; exact hk)).trans (heap_setCell_other _ ⟨w.heap.size + 1, 5, none⟩ k _ (by show k ≠ w.heap.size + 1; exact hk))).trans (heap_setCell_other _ ⟨w.heap.size + 1, 4, none⟩ k _ (by show k ≠ w.heap.size + 1; exact hk))).trans (heap_setCell_other _ ⟨w.heap.size + 1, 3, none⟩ k _ (by show k ≠ w.heap.size + 1; exact hk))).trans (heap_setCell_other _ ⟨w.heap.size + 1, 2, none⟩ k _ (by show k ≠ w.heap.size + 1; exact hk))).trans (heap_setCell_other _ ⟨w.heap.size + 1, 1, none⟩ k _ (by show k ≠ w.heap.size + 1; exact hk))).trans (heap_setCell_other _ ⟨w.heap.size + 1, 0, none⟩ k _ (by show k ≠ w.heap.size + 1; exact hk))
      refine ⟨⟨_, fun k => (iw 5).1 ≤ k ∧ k < (iw 5).2, _, ts, O2.of_heap fun k hk _ => hoth k (by omega), (O5.of_heap fun k hk => hoth k (by have := (O5.lt k hk).1; omega)).base_le (Nat.zero_le _), fun k hk => ⟨(O5.lt k hk).1, lt5 k hk⟩, O7.of_heap fun k hk _ => hoth k ?_, fun k hk => ⟨fun e => ?_, fun e => ?_⟩, fun k hk e => ?_, fun k hk => ?_⟩, (((((((bel).setCell (by simp) _).setCell (by simp) _).setCell (by simp) _).setCell (by simp) _).setCell (by simp) _).setCell (by simp) _).setCell (by simp) _⟩
      · rcases hk with ⟨i, hi, hk⟩ | hk
        · have := hps i hi k hk; omega
        · omega
      · omega
      · rcases e with ⟨i, hi, e⟩ | e
        · have := hps i hi k e; omega
        · omega
      · rcases e with ⟨i, hi, e⟩ | e
        · have := hps i hi k e; omega
        · omega
      · rcases hk with hk | hk | ⟨i, hi, hk⟩ | hk
        · show L ≤ k; omega
        · show L ≤ k; omega
        · exact (hps i hi k hk).1
        · show L ≤ k; omega
    have r0 : W.cell? ⟨w.heap.size + 1, 0, none⟩ = some (.slice none 0 0) := kR.cell 0
    have v0 := kR.frozen 0
    have r1 : W.cell? ⟨w.heap.size + 1, 1, none⟩ = some (.slice none 0 0) := kR.cell 1
    have v1 := kR.frozen 1
    have r2 : W.cell? ⟨w.heap.size + 1, 2, none⟩ = some (.slice none 0 0) := kR.cell 2
    have v2 := kR.frozen 2
    have r3 : W.cell? ⟨w.heap.size + 1, 3, none⟩ = some (.slice none 0 0) := kR.cell 3
    have v3 := kR.frozen 3
    have r4 : W.cell? ⟨w.heap.size + 1, 4, none⟩ = some (.slice none 0 0) := kR.cell 4
    have v4 := kR.frozen 4
    have r5 : W.cell? ⟨w.heap.size + 1, 5, none⟩ = some (.slice none 0 0) := kR.cell 5
    have v5 := kR.frozen 5
    have r6 : W.cell? ⟨w.heap.size + 1, 6, none⟩ = some (.int .i64 0) := kR.cell 6
    have v6 := kR.frozen 6
    clear hp O2 O5 O7 lt5 kA kR bel p25 p27 p57 l2 l5 l7 hps HC
    simp only [e2, e5, e7, e10]
    clear e2 e5 e7 e10
    go_wp2
    rw [List.filterMap_nil]
    go_wp2
    refine bodyPost_ret (v := .agg #[.slice b1 m.xs.length d1, .slice b2 m.ys.length d2, .slice b3 m.is.length d3, .slice b4 m.bs.length d4, .slice b5 m.fs.length d5, .slice b6 E.length d6, .int .i64 m.nx]) (by simp [results, go_sem, r0, r1, r2, r3, r4, r5, r6]) rfl ⟨_, _, _, _, _, _, rfl, HM.out.1, HM.out.2⟩
end Go.Proofs.YtggjillpfclajaaGreat
/- The leaners of a list: impl.leanersOf by its contract. -/
namespace Go.Proofs.YtggjillpfclajaaGreat
open Go.RowKit Kit Go.Maps
theorem run_makeMap_hint (n : Int) (w : World) : (Instr.makeMap 78 (some (.int .i64 n))).run Tryz.prog w = .ok (.map (some w.heap.size)) (w.alloc (.map #[] 0)) := by
  simp [Instr.makeMap, run_underlying Tryz.u78, asInt, asIntOf, Result.andThen]
set_option maxRecDepth 100000 in
set_option maxHeartbeats 1600000 in
theorem leanersOf_any (pv : Value) (ds : List Dp) (w : World) (h : RN KDep w pv ds) (hl : ds.length ≤ 1048576) (hb : ∀ (j : Nat) (h : j < ds.length), ds[j].bl.length ≤ 1048576) (ht : ∀ (j : Nat) (h : j < ds.length), ds[j].nm.size ≤ 1048576) (hw : ∀ (j : Nat) (h : j < ds.length), (Lit.int .i64 ds[j].id).wf = true) :
    Calls Tryz.prog 47 #[pv] w fun e w' => ∃ B E ps, e = .returned (.map (some B)) ∧ LE Tryz.prog w' w.heap.size B E ps ∧ E.map (·.d) = ds ∧ (∀ (j : Nat) (h : j < E.length), E[j].pl = j) ∧ Below w.heap.size w w' := by
  have H := hide h
  have HB := hide hb
  have HT := hide ht
  have HW := hide hw
  obtain ⟨a6, c6, rfl, -⟩ := h.dep
  clear h hb ht hw
  have hmm := run_makeMap_hint
  go_enter Tryz.func47, Tryz.ntmps47
  go_wp2_with fail
  go_loopw [11] (fun i wr => ∃ j : Nat, j ≤ ds.length ∧ i = .int .i64 j ∧ Hid (∃ E ps, LE Tryz.prog wr w.heap.size w.heap.size E ps ∧ E.map (·.d) = ds.take j ∧ (∀ (k : Nat) (h : k < E.length), E[k].pl = k) ∧ Below w.heap.size w wr)) (fun i _ => ds.length - (intOf i).toNat)
  case atStart => exact ⟨0, Nat.zero_le _, rfl, [], [], LE.nil _ w, by simp, fun k h => by simp at h, (Below.refl _ w).alloc (Nat.le_refl _) _⟩
  case round =>
    obtain ⟨j, hj, rfl, HR⟩ := hrel
    by_cases hlt : j < ds.length
    · obtain ⟨E, ps, hE, hd, hp, bel⟩ := HR.out
      obtain ⟨ai, cai, ei, -, hci⟩ := H.out.dep
      obtain ⟨g, off, p, rfl, hg, mm, hpp⟩ := hci j hlt
      simp only [Value.slice.injEq, true_and] at ei
      obtain ⟨rfl, rfl⟩ := ei
      have hbl := HB.out j hlt
      have hnm := HT.out j hlt
      have hwf := HW.out j hlt
      have htk : ds.take j ++ [ds[j]] = ds.take (j + 1) := List.take_append_getElem hlt
      obtain ⟨X, hX⟩ : ∃ X, ds[j] = X := ⟨_, rfl⟩
      rw [hX] at mm hpp hbl hnm hwf htk
      obtain ⟨id, kd, io, pt, bk, sl, nm, bt, ot, af, bl⟩ := X
      simp only at hpp hbl hnm hwf
      obtain ⟨pa, pc, rfl⟩ := hpp.form
      have hEl : E.length = j := by
        have := congrArg List.length hd
        rw [List.length_map, List.length_take] at this
        omega
      have nn := mm.below bel hg
      simp only [DCells] at nn
      obtain ⟨n0, n1, n2, n3, n4, n5, n6, n7, n8, n9, n10⟩ := nn
      have hbw : Below wr.heap.size wr (wr.alloc (.cells #[.int .i64 id, .int .i64 kd, .int .i64 io, .int .i64 pt, .int .i64 bk, .int .i64 sl, .string nm, .bool bt, .bool ot, .int .i64 af, .slice pa bl.length pc] 52)) := (Below.refl _ wr).alloc (Nat.le_refl _) _
      have hsz := bel.size
      have HCALL : Hid (Calls Tryz.prog 48 #[.map (some w.heap.size), .agg #[.int .i64 id, .int .i64 kd, .int .i64 io, .int .i64 pt, .int .i64 bk, .int .i64 sl, .string nm, .bool bt, .bool ot, .int .i64 af, .slice pa bl.length pc], .int .i64 (j : Int)] (wr.alloc (.cells #[.int .i64 id, .int .i64 kd, .int .i64 io, .int .i64 pt, .int .i64 bk, .int .i64 sl, .string nm, .bool bt, .bool ot, .int .i64 af, .slice pa bl.length pc] 52)) fun e w' => e = .returned (.tuple #[]) ∧ ∃ E ps, LE Tryz.prog w' w.heap.size w.heap.size E ps ∧ E.map (·.d) = ds.take (j + 1) ∧ (∀ (k : Nat) (h : k < E.length), E[k].pl = k) ∧ Below w.heap.size w w') := by
        refine Calls.mono (put_any w.heap.size w.heap.size E ps j id kd io pt bk sl nm bt ot af bl (.slice pa bl.length pc) _ (hE.below hbw) ((hpp.below bel (Nat.le_refl _)).below hbw (Nat.le_refl _)) hbl hnm hwf (by omega) (Nat.le_trans hsz hbw.size)) ?_
        rintro e w' ⟨rfl, g', u, L', G'⟩
        refine ⟨rfl, _, _, L', ?_, fun k hk => ?_, ?_⟩
        · rw [List.map_append, hd]; exact htk
        · by_cases e : k < E.length
          · rw [List.getElem_append_left e]; exact hp k e
          · have e2 : k = E.length := by simp at hk; omega
            subst e2
            rw [List.getElem_append_right (Nat.le_refl _)]
            simp [hEl]
        · exact (bel.trans (hbw.mono hsz)).grown G' (Nat.le_trans hsz hbw.size) (fun k hk => by cases hk; exact Nat.le_refl _)
      have j0 : (0 : Int) ≤ (j : Int) := by omega
      have j1 : (j : Int) < (ds.length : Int) := by omega
      clear HR hE hd hp bel hci hX mm hpp hbl hnm hwf htk hbw hg hEl
      go_wp2_with (go_at_call 48; refine HCALL.out.mono ?_; rintro e w9 ⟨rfl, E9, ps9, L9⟩; have H9 := hide L9; clear L9)
      go_roundw
      case rel => exact ⟨j + 1, by omega, by go_num, E9, ps9, H9.out⟩
      case measure => simp [intOf]; omega
    · have hj2 : j = ds.length := by omega
      subst hj2
      go_wp2
      go_ret
      obtain ⟨E, ps, hE, hd, hp, bel⟩ := HR.out
      rw [List.take_length] at hd
      exact ⟨_, E, ps, rfl, hE, hd, hp, bel⟩
end Go.Proofs.YtggjillpfclajaaGreat
/- A memory of its own: impl.newMem by its contract. -/
namespace Go.Proofs.YtggjillpfclajaaGreat.Kit
open Go.RowKit Go.Maps
/-- The leaners of a list. -/
def MkWl (P : Program) (k : Nat) (ds : List Dp) : Mk := .val [k] (fun lo hi w v => ∃ B E ps, v = .map (some B) ∧ LE P w lo B E ps ∧ E.map (·.d) = ds ∧ ∀ (j : Nat) (h : j < E.length), E[j].pl = j)
  (fun _ _ _ _ _ h hb => by obtain ⟨B, E, ps, h1, h2, h3⟩ := h; exact ⟨B, E, ps, h1, h2.below hb, h3⟩)
/-- A memory of its own. -/
def MkWm (k l N : Nat) (m : MD) : Mk := .val [k, l] (fun lo hi w v => ∃ a1 c1 a2 c2 a3 c3 a4 c4 a5 c5 a6 c6, v = .agg #[.slice a1 m.xs.length c1, .slice a2 m.ys.length c2, .slice a3 m.is.length c3, .slice a4 m.bs.length c4, .slice a5 m.fs.length c5, .slice a6 m.ds.length c6, .int .i64 m.nx] ∧ MO w (fun k => N ≤ k) (.slice a1 m.xs.length c1) (.slice a2 m.ys.length c2) (.slice a3 m.is.length c3) (.slice a4 m.bs.length c4) (.slice a5 m.fs.length c5) (.slice a6 m.ds.length c6) m)
  (fun _ _ _ _ _ h hb => by obtain ⟨a1, c1, a2, c2, a3, c3, a4, c4, a5, c5, a6, c6, h1, h2⟩ := h; exact ⟨a1, c1, a2, c2, a3, c3, a4, c4, a5, c5, a6, c6, h1, h2.below hb (Nat.le_refl _)⟩)
/-- The places of those in a list ascend. -/
theorem asc {E : List Ln} (h : ∀ (j : Nat) (h : j < E.length), E[j].pl = j) : ∀ i j : Fin E.length, i < j → E[i].pl < E[j].pl := fun i j hij => by
  have h1 := h i i.2
  have h2 := h j j.2
  show E[i.1].pl < E[j.1].pl
  rw [h1, h2]
  exact hij
end Go.Proofs.YtggjillpfclajaaGreat.Kit
namespace Go.Proofs.YtggjillpfclajaaGreat
open Go.RowKit Kit Go.Maps
set_option maxRecDepth 100000 in
set_option maxHeartbeats 3200000 in
theorem newMem_any (u v iv bv dv pv : Value) (m : MD) (w : World) (h : MR w u v iv bv dv pv m) (hB : BigM 1048576 m) (hw : ∀ (j : Nat) (h : j < m.ds.length), (Lit.int .i64 m.ds[j].id).wf = true) :
    Calls Tryz.prog 33 #[.agg #[u, v, iv, bv, dv, pv, .int .i64 m.nx]] w fun e w' => ∃ u' v' i' b' d' p', e = .returned (.agg #[u', v', i', b', d', p', .int .i64 m.nx]) ∧ MO w' (fun k => w.heap.size ≤ k) u' v' i' b' d' p' m ∧ Below w.heap.size w w' := by
  have H := hide h
  have HG := hide hB
  have HW := hide hw
  obtain ⟨a1, c1, a2, c2, a3, c3, a4, c4, a5, c5, a6, c6, rfl, rfl, rfl, rfl, rfl, rfl⟩ := h.form
  clear h hB hw
  go_enter Tryz.func33, Tryz.ntmps33
  go_wp2_with fail
  have HC : Hid (∀ W, Below ((w.alloc (.cells #[.slice a1 m.xs.length c1, .slice a2 m.ys.length c2, .slice a3 m.is.length c3, .slice a4 m.bs.length c4, .slice a5 m.fs.length c5, .slice a6 m.ds.length c6, .int .i64 m.nx] 40)).alloc (.cells noM 40)).drew.heap.size ((w.alloc (.cells #[.slice a1 m.xs.length c1, .slice a2 m.ys.length c2, .slice a3 m.is.length c3, .slice a4 m.bs.length c4, .slice a5 m.fs.length c5, .slice a6 m.ds.length c6, .int .i64 m.nx] 40)).alloc (.cells noM 40)).drew W → AtC W w.heap.size 40 #[.slice a1 m.xs.length c1, .slice a2 m.ys.length c2, .slice a3 m.is.length c3, .slice a4 m.bs.length c4, .slice a5 m.fs.length c5, .slice a6 m.ds.length c6, .int .i64 m.nx] ∧ AtC W (w.heap.size + 1) 40 noM ∧ Below w.heap.size w W ∧ w.heap.size + 1 + 1 ≤ W.heap.size) := fun W b => by
    have b2 := of_drew b
    have k1 := (AtC.new (w.alloc (.cells #[.slice a1 m.xs.length c1, .slice a2 m.ys.length c2, .slice a3 m.is.length c3, .slice a4 m.bs.length c4, .slice a5 m.fs.length c5, .slice a6 m.ds.length c6, .int .i64 m.nx] 40)) 40 noM).over b2
    have sz := b2.size
    simp at k1 sz
    exact ⟨((AtC.new w 40 _).alloc _).over b2, k1, (((Below.refl _ w).alloc (Nat.le_refl _) _).alloc (by simp) _).trans (b2.mono (by simp; omega)), sz⟩
  refine wp_region_frm (by kernel_rfl) [0, 1, 2, 3, 4] [5] (fun i => match i with | 0 => .const [] (.agg #[.slice a1 m.xs.length c1, .slice a2 m.ys.length c2, .slice a3 m.is.length c3, .slice a4 m.bs.length c4, .slice a5 m.fs.length c5, .slice a6 m.ds.length c6, .int .i64 m.nx]) | 1 => .const [] (.pointer (some ⟨w.heap.size, 5, none⟩)) | 2 => .const [1] (.slice a6 m.ds.length c6) | 3 => MkWl Tryz.prog 2 m.ds | 4 => MkWm 0 3 (w.heap.size + 1 + 1) m | _ => .triv) (fun x => ⟨#[Value.agg #[Value.slice a1 m.xs.length c1, Value.slice a2 m.ys.length c2, Value.slice a3 m.is.length c3, Value.slice a4 m.bs.length c4, Value.slice a5 m.fs.length c5, Value.slice a6 m.ds.length c6, Value.int IntKind.i64 m.nx], Value.pointer (some { block := w.heap.size, off := 0 }), Value.pointer (some { block := w.heap.size + 1, off := 0 }), x 0, x 1, x 2, x 3, x 4], []⟩) (fun i => match i with | 0 => undef | 1 => undef | 2 => undef | 3 => undef | 4 => undef | _ => undef) rfl (by kernel_rfl) (by kernel_rfl) (by kernel_rfl) rfl ?_ ?_
  · intro jo hj so x iw W hd hp K hK
    simp only [List.mem_cons, List.not_mem_nil, or_false] at hj
    rcases hj with rfl | rfl | rfl | rfl | rfl
    · refine wpOp_step (o := _) rfl fun K' hK' => ?_
      have HK : Hid (∀ v W', Below W.heap.size W W' → ((Mk.const [] (.agg #[.slice a1 m.xs.length c1, .slice a2 m.ys.length c2, .slice a3 m.is.length c3, .slice a4 m.bs.length c4, .slice a5 m.fs.length c5, .slice a6 m.ds.length c6, .int .i64 m.nx]) : Mk)).P W.heap.size W'.heap.size W' v (upd x 0 v) → K' ⟨#[Value.agg #[Value.slice a1 m.xs.length c1, Value.slice a2 m.ys.length c2, Value.slice a3 m.is.length c3, Value.slice a4 m.bs.length c4, Value.slice a5 m.fs.length c5, Value.slice a6 m.ds.length c6, Value.int IntKind.i64 m.nx], Value.pointer (some { block := w.heap.size, off := 0 }), Value.pointer (some { block := w.heap.size + 1, off := 0 }), v, x 1, x 2, x 3, x 4], []⟩ W') := fun v W' h1 h2 => hK' _ _ (hK v W' h1 h2)
      have k0 := (HC.out W hp.bel).1
      have q0 : W.cell? ⟨w.heap.size, 0, none⟩ = some (.slice a1 m.xs.length c1) := k0.cell 0
      have q1 : W.cell? ⟨w.heap.size, 1, none⟩ = some (.slice a2 m.ys.length c2) := k0.cell 1
      have q2 : W.cell? ⟨w.heap.size, 2, none⟩ = some (.slice a3 m.is.length c3) := k0.cell 2
      have q3 : W.cell? ⟨w.heap.size, 3, none⟩ = some (.slice a4 m.bs.length c4) := k0.cell 3
      have q4 : W.cell? ⟨w.heap.size, 4, none⟩ = some (.slice a5 m.fs.length c5) := k0.cell 4
      have q5 : W.cell? ⟨w.heap.size, 5, none⟩ = some (.slice a6 m.ds.length c6) := k0.cell 5
      have q6 : W.cell? ⟨w.heap.size, 6, none⟩ = some (.int .i64 m.nx) := k0.cell 6
      clear k0
      clear hK hK' hp hd
      go_simp
      exact HK.out _ _ (Below.refl _ _) rfl
    · refine wpOp_step (o := _) rfl fun K' hK' => ?_
      have HK : Hid (∀ v W', Below W.heap.size W W' → ((Mk.const [] (.pointer (some ⟨w.heap.size, 5, none⟩)) : Mk)).P W.heap.size W'.heap.size W' v (upd x 1 v) → K' ⟨#[Value.agg #[Value.slice a1 m.xs.length c1, Value.slice a2 m.ys.length c2, Value.slice a3 m.is.length c3, Value.slice a4 m.bs.length c4, Value.slice a5 m.fs.length c5, Value.slice a6 m.ds.length c6, Value.int IntKind.i64 m.nx], Value.pointer (some { block := w.heap.size, off := 0 }), Value.pointer (some { block := w.heap.size + 1, off := 0 }), x 0, v, x 2, x 3, x 4], []⟩ W') := fun v W' h1 h2 => hK' _ _ (hK v W' h1 h2)
      clear hK hK' hp hd
      go_simp
      exact HK.out _ _ (Below.refl _ _) rfl
    · refine wpOp_step (o := _) rfl fun K' hK' => ?_
      have HK : Hid (∀ v W', Below W.heap.size W W' → ((Mk.const [1] (.slice a6 m.ds.length c6) : Mk)).P W.heap.size W'.heap.size W' v (upd x 2 v) → K' ⟨#[Value.agg #[Value.slice a1 m.xs.length c1, Value.slice a2 m.ys.length c2, Value.slice a3 m.is.length c3, Value.slice a4 m.bs.length c4, Value.slice a5 m.fs.length c5, Value.slice a6 m.ds.length c6, Value.int IntKind.i64 m.nx], Value.pointer (some { block := w.heap.size, off := 0 }), Value.pointer (some { block := w.heap.size + 1, off := 0 }), x 0, x 1, v, x 3, x 4], []⟩ W') := fun v W' h1 h2 => hK' _ _ (hK v W' h1 h2)
      have e1 : x 1 = .pointer (some ⟨w.heap.size, 5, none⟩) := hp.post 1 (hd 1 (show 1 ∈ [1] from by decide))
      have q0 : W.cell? ⟨w.heap.size, 5, none⟩ = some (.slice a6 m.ds.length c6) := (HC.out W hp.bel).1.cell 5
      clear hK hK' hp hd
      simp only [e1] at HK ⊢
      go_simp
      exact HK.out _ _ (Below.refl _ _) rfl
    · refine wpOp_step (o := _) rfl fun K' hK' => ?_
      have HK : Hid (∀ v W', Below W.heap.size W W' → (MkWl Tryz.prog 2 m.ds).P W.heap.size W'.heap.size W' v (upd x 3 v) → K' ⟨#[Value.agg #[Value.slice a1 m.xs.length c1, Value.slice a2 m.ys.length c2, Value.slice a3 m.is.length c3, Value.slice a4 m.bs.length c4, Value.slice a5 m.fs.length c5, Value.slice a6 m.ds.length c6, Value.int IntKind.i64 m.nx], Value.pointer (some { block := w.heap.size, off := 0 }), Value.pointer (some { block := w.heap.size + 1, off := 0 }), x 0, x 1, x 2, v, x 4], []⟩ W') := fun v W' h1 h2 => hK' _ _ (hK v W' h1 h2)
      have e2 : x 2 = .slice a6 m.ds.length c6 := hp.post 2 (hd 2 (show 2 ∈ [2] from by decide))
      have bl := (HC.out W hp.bel).2.2.1
      clear hK hK' hp hd
      simp only [e2] at HK ⊢
      go_simp
      refine (leanersOf_any _ m.ds W (H.out.p.below bl (Nat.le_refl _)) HG.out.l HG.out.b HG.out.t HW.out).mono ?_
      rintro e w6 ⟨B, E, ps, rfl, O6, F6, G6, B6⟩
      go_simp
      exact HK.out _ _ B6 ⟨B, E, ps, rfl, O6, F6, G6⟩
    · refine wpOp_step (o := _) rfl fun K' hK' => ?_
      have HK : Hid (∀ v W', Below W.heap.size W W' → (MkWm 0 3 (w.heap.size + 1 + 1) m).P W.heap.size W'.heap.size W' v (upd x 4 v) → K' ⟨#[Value.agg #[Value.slice a1 m.xs.length c1, Value.slice a2 m.ys.length c2, Value.slice a3 m.is.length c3, Value.slice a4 m.bs.length c4, Value.slice a5 m.fs.length c5, Value.slice a6 m.ds.length c6, Value.int IntKind.i64 m.nx], Value.pointer (some { block := w.heap.size, off := 0 }), Value.pointer (some { block := w.heap.size + 1, off := 0 }), x 0, x 1, x 2, x 3, v], []⟩ W') := fun v W' h1 h2 => hK' _ _ (hK v W' h1 h2)
      have e0 : x 0 = .agg #[.slice a1 m.xs.length c1, .slice a2 m.ys.length c2, .slice a3 m.is.length c3, .slice a4 m.bs.length c4, .slice a5 m.fs.length c5, .slice a6 m.ds.length c6, .int .i64 m.nx] := hp.post 0 (hd 0 (show 0 ∈ [0, 3] from by decide))
      have e3 : ∃ B E ps, x 3 = .map (some B) ∧ LE Tryz.prog W (iw 3).1 B E ps ∧ E.map (·.d) = m.ds ∧ ∀ (j : Nat) (h : j < E.length), E[j].pl = j := hp.post 3 (hd 3 (show 3 ∈ [0, 3] from by decide))
      have bl := (HC.out W hp.bel).2.2.1
      have l3 := hp.lo 3 (hd 3 (show 3 ∈ [0, 3] from by decide))
      simp [World.drew] at l3
      clear hK hK' hp hd
      obtain ⟨B, E, ps, e3, h1, h2, h3⟩ := e3
      simp only [e0, e3] at HK ⊢
      clear e0 e3
      go_simp
      have hEl : E.length ≤ 1048576 := by have q := HG.out.l; rw [← h2, List.length_map] at q; exact q
      refine (memWith_any (iw 3).1 B E ps _ _ _ _ _ _ m W (H.out.below bl (Nat.le_refl _)) HG.out h1 (asc h3) hEl (Nat.le_trans h1.loB (Nat.le_of_lt h1.lt))).mono ?_
      rintro e w6 ⟨u1, u2, u3, u4, u5, u6, rfl, O6, B6⟩
      rw [h2] at O6
      obtain ⟨b1, d1, b2, d2, b3, d3, b4, d4, b5, d5, b6, d6, rfl, rfl, rfl, rfl, rfl, rfl⟩ := O6.mr.form
      go_simp
      exact HK.out _ _ B6 ⟨b1, d1, b2, d2, b3, d3, b4, d4, b5, d5, b6, d6, rfl, O6.mono fun k hk => by omega⟩
  · intro x iw W hp
    obtain ⟨b1, d1, b2, d2, b3, d3, b4, d4, b5, d5, b6, d6, e4, O4⟩ := hp.post 4 (by decide)
    obtain ⟨kA, kR, bel, -⟩ := HC.out W hp.bel
    have HM : Hid (MO ((((((((W.setCell ⟨w.heap.size + 1, 0, none⟩ (.slice b1 m.xs.length d1)).setCell ⟨w.heap.size + 1, 1, none⟩ (.slice b2 m.ys.length d2)).setCell ⟨w.heap.size + 1, 2, none⟩ (.slice b3 m.is.length d3)).setCell ⟨w.heap.size + 1, 3, none⟩ (.slice b4 m.bs.length d4)).setCell ⟨w.heap.size + 1, 4, none⟩ (.slice b5 m.fs.length d5)).setCell ⟨w.heap.size + 1, 5, none⟩ (.slice b6 m.ds.length d6)).setCell ⟨w.heap.size + 1, 6, none⟩ (.int .i64 m.nx))) (fun k => w.heap.size ≤ k) (.slice b1 m.xs.length d1) (.slice b2 m.ys.length d2) (.slice b3 m.is.length d3) (.slice b4 m.bs.length d4) (.slice b5 m.fs.length d5) (.slice b6 m.ds.length d6) m ∧ Below w.heap.size w ((((((((W.setCell ⟨w.heap.size + 1, 0, none⟩ (.slice b1 m.xs.length d1)).setCell ⟨w.heap.size + 1, 1, none⟩ (.slice b2 m.ys.length d2)).setCell ⟨w.heap.size + 1, 2, none⟩ (.slice b3 m.is.length d3)).setCell ⟨w.heap.size + 1, 3, none⟩ (.slice b4 m.bs.length d4)).setCell ⟨w.heap.size + 1, 4, none⟩ (.slice b5 m.fs.length d5)).setCell ⟨w.heap.size + 1, 5, none⟩ (.slice b6 m.ds.length d6)).setCell ⟨w.heap.size + 1, 6, none⟩ (.int .i64 m.nx)))) := by
      refine ⟨(O4.of_heap fun k hk _ => ((((((heap_setCell_other _ ⟨w.heap.size + 1, 6, none⟩ k _ (by show k ≠ w.heap.size + 1; omega)).trans (heap_setCell_other _ ⟨w.heap.size + 1, 5, none⟩ k _ (by show k ≠ w.heap.size + 1; omega))).trans (heap_setCell_other _ ⟨w.heap.size + 1, 4, none⟩ k _ (by show k ≠ w.heap.size + 1; omega))).trans (heap_setCell_other _ ⟨w.heap.size + 1, 3, none⟩ k _ (by show k ≠ w.heap.size + 1; omega))).trans (heap_setCell_other _ ⟨w.heap.size + 1, 2, none⟩ k _ (by show k ≠ w.heap.size + 1; omega))).trans (heap_setCell_other _ ⟨w.heap.size + 1, 1, none⟩ k _ (by show k ≠ w.heap.size + 1; omega))).trans (heap_setCell_other _ ⟨w.heap.size + 1, 0, none⟩ k _ (by show k ≠ w.heap.size + 1; omega))).mono fun k hk => by omega, (((((((bel).setCell (by simp) _).setCell (by simp) _).setCell (by simp) _).setCell (by simp) _).setCell (by simp) _).setCell (by simp) _).setCell (by simp) _⟩
    have r0 : W.cell? ⟨w.heap.size + 1, 0, none⟩ = some (.slice none 0 0) := kR.cell 0
    have v0 := kR.frozen 0
    have r1 : W.cell? ⟨w.heap.size + 1, 1, none⟩ = some (.slice none 0 0) := kR.cell 1
    have v1 := kR.frozen 1
    have r2 : W.cell? ⟨w.heap.size + 1, 2, none⟩ = some (.slice none 0 0) := kR.cell 2
    have v2 := kR.frozen 2
    have r3 : W.cell? ⟨w.heap.size + 1, 3, none⟩ = some (.slice none 0 0) := kR.cell 3
    have v3 := kR.frozen 3
    have r4 : W.cell? ⟨w.heap.size + 1, 4, none⟩ = some (.slice none 0 0) := kR.cell 4
    have v4 := kR.frozen 4
    have r5 : W.cell? ⟨w.heap.size + 1, 5, none⟩ = some (.slice none 0 0) := kR.cell 5
    have v5 := kR.frozen 5
    have r6 : W.cell? ⟨w.heap.size + 1, 6, none⟩ = some (.int .i64 0) := kR.cell 6
    have v6 := kR.frozen 6
    clear hp O4 kA kR bel HC
    simp only [e4]
    clear e4
    go_wp2
    rw [List.filterMap_nil]
    go_wp2
    refine bodyPost_ret (v := .agg #[.slice b1 m.xs.length d1, .slice b2 m.ys.length d2, .slice b3 m.is.length d3, .slice b4 m.bs.length d4, .slice b5 m.fs.length d5, .slice b6 m.ds.length d6, .int .i64 m.nx]) (by simp [results, go_sem, r0, r1, r2, r3, r4, r5, r6]) rfl ⟨_, _, _, _, _, _, rfl, HM.out.1, HM.out.2⟩
end Go.Proofs.YtggjillpfclajaaGreat
