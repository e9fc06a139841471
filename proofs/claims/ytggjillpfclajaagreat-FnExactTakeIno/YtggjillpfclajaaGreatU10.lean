/- Texts of the proof, bundled: C8, Ln, Cm, Srt. -/
import Derived.Maps.RangeWalk
import Derived.Maps.OwnSet
import Derived.BigQuiet
import Derived.Shelf.SlSortCmp.NoneTotal
import Derived.Test.YtggjillpfclajaaGreatProg
import Derived.Test.YtggjillpfclajaaGreatU07
import Derived.Test.YtggjillpfclajaaGreatU09
import Derived.Test.YtggjillpfclajaaGreatU05
/- A copy of a memory: spec.l08Copy by its contract. -/
namespace Go.Proofs.YtggjillpfclajaaGreat.Kit
open Go.RowKit
theorem lit0_one (w : World) (A : Obj) (e : TypeId) (m : Nat) : ((w.alloc A).alloc (.cells #[] e)).ownsRow (w.heap.size + 1) e m (.slice (some ⟨w.heap.size + 1, 0, none⟩) 0 0) 0 [] := by
  have := World.ownsRow_lit (base := w.heap.size + 1) (e := e) (size := m) (w.alloc A) #[] 0 (by simp) (Nat.zero_le _) (by simp)
  simpa using this
theorem cp_one {w w1 : World} {T e : TypeId} {m n : Nat} {cs : Array Value} {ds : List Value} {v' : Value} (R1 : w1.ownsRow (w.heap.size + 1) e m v' n ds)
    (R2 : ((w.alloc (.cells cs T)).alloc (.cells #[] e)).grownBy w1 (Value.slice (some ⟨w.heap.size + 1, 0, none⟩) 0 0).ownBlock) :
    ∃ a1 c1, v' = .slice a1 n c1 ∧ Below w.heap.size w w1 ∧ AtC w1 w.heap.size T cs := by
  obtain ⟨a1, c1, e1⟩ : ∃ a1 c1, v' = .slice a1 n c1 := by
    rcases R1.2 with ⟨h1, h0⟩ | ⟨g, cap, cur, h1, -⟩
    · exact ⟨none, 0, by rw [h1, h0]⟩
    · exact ⟨_, _, h1⟩
  exact ⟨a1, c1, e1, below_of_append (((Below.refl _ w).alloc (Nat.le_refl _) _).alloc (by simp) _) (by simp; omega) R2 (fun k hk => by simp [Value.ownBlock] at hk; omega), ((AtC.new w T cs).alloc _).grown R2 (by simp [Value.ownBlock])⟩
theorem AtC.at_ {w : World} {b : Nat} {T : TypeId} {cs : Array Value} (h : AtC w b T cs) (i : Nat) (u : Value) (hu : cs.toList[i]? = some u) : w.cell? ⟨b, i, none⟩ = some u := by
  rw [cell_of_row w b i cs T (0, 0) h]
  simpa using hu
end Go.Proofs.YtggjillpfclajaaGreat.Kit
namespace Go.Proofs.YtggjillpfclajaaGreat
open Go.RowKit Kit
theorem Tryz.u38 : Tryz.prog.underlying 38 = some (.slice 52) := by kernel_rfl
theorem Tryz.i52 : (Tryz.prog.info? 52).map (fun i => (i.zero, i.size, i.bytes)) = some (some (.agg #[.int .i64 0, .int .i64 0, .int .i64 0, .int .i64 0, .int .i64 0, .int .i64 0, .string ⟨#[]⟩, .bool false, .bool false, .int .i64 0, .slice none 0 0]), 11, 104) := by kernel_rfl
set_option maxRecDepth 100000 in
set_option maxHeartbeats 3200000 in
theorem copyM_any (u v iv bv dv pv : Value) (m : MD) (w : World) (h : MR w u v iv bv dv pv m) (hB : BigM 1048576 m) :
    Calls Tryz.prog 27 #[.agg #[u, v, iv, bv, dv, pv, .int .i64 m.nx]] w fun e w' => ∃ u' v' i' b' d' p', e = .returned (.agg #[u', v', i', b', d', p', .int .i64 m.nx]) ∧ MO w' (fun k => w.heap.size ≤ k) u' v' i' b' d' p' m ∧ Below w.heap.size w w' := by
  have H := hide h
  have HG := hide hB
  have hdl : m.ds.length ≤ 1048576 := hB.l
  have HX : Hid (m.fs.length ≤ 100000000000) := Nat.le_trans hB.f (by decide)
  obtain ⟨a1, c1, a2, c2, a3, c3, a4, c4, a5, c5, a6, c6, rfl, rfl, rfl, rfl, rfl, rfl⟩ := h.form
  clear h hB
  go_enter Tryz.func27, Tryz.ntmps27
  go_wp2_with fail
  have HC : Hid (∀ W, Below ((w.alloc (.cells #[.slice a1 m.xs.length c1, .slice a2 m.ys.length c2, .slice a3 m.is.length c3, .slice a4 m.bs.length c4, .slice a5 m.fs.length c5, .slice a6 m.ds.length c6, .int .i64 m.nx] 40)).alloc (.cells noM 40)).drew.heap.size ((w.alloc (.cells #[.slice a1 m.xs.length c1, .slice a2 m.ys.length c2, .slice a3 m.is.length c3, .slice a4 m.bs.length c4, .slice a5 m.fs.length c5, .slice a6 m.ds.length c6, .int .i64 m.nx] 40)).alloc (.cells noM 40)).drew W → AtC W w.heap.size 40 #[.slice a1 m.xs.length c1, .slice a2 m.ys.length c2, .slice a3 m.is.length c3, .slice a4 m.bs.length c4, .slice a5 m.fs.length c5, .slice a6 m.ds.length c6, .int .i64 m.nx] ∧ AtC W (w.heap.size + 1) 40 noM ∧ Below w.heap.size w W ∧ w.heap.size + 1 + 1 ≤ W.heap.size) := fun W b => by
    have b2 := of_drew b
    have k1 := (AtC.new (w.alloc (.cells #[.slice a1 m.xs.length c1, .slice a2 m.ys.length c2, .slice a3 m.is.length c3, .slice a4 m.bs.length c4, .slice a5 m.fs.length c5, .slice a6 m.ds.length c6, .int .i64 m.nx] 40)) 40 noM).over b2
    have sz := b2.size
    simp at k1 sz
    exact ⟨((AtC.new w 40 _).alloc _).over b2, k1, (((Below.refl _ w).alloc (Nat.le_refl _) _).alloc (by simp) _).trans (b2.mono (by simp; omega)), sz⟩
  refine wp_region_frm (by kernel_rfl) [0, 1, 2, 3, 4, 5, 6, 7, 8, 9, 10] [11] (fun i => match i with | 0 => .const [] (.pointer (some ⟨w.heap.size, 0, none⟩)) | 1 => .const [0] (.agg #[.slice a1 m.xs.length c1, .slice a2 m.ys.length c2, .slice a3 m.is.length c3, .slice a4 m.bs.length c4]) | 2 => MkD 1 m.xs m.ys m.is m.bs | 3 => MkE 4 | 4 => .const [] (.pointer (some ⟨w.heap.size, 4, none⟩)) | 5 => .const [4] (.slice a5 m.fs.length c5) | 6 => MkC 3 5 m.fs (w.heap.size + 1 + 1) | 7 => .const [] (.pointer (some ⟨w.heap.size, 6, none⟩)) | 8 => .const [7] (.int .i64 m.nx) | 9 => MkM3 2 6 8 m.xs.length m.ys.length m.is.length m.bs.length m.fs.length m.nx | 10 => MkW 40 noM | _ => .triv) (fun x => ⟨#[Value.agg #[Value.slice a1 m.xs.length c1, Value.slice a2 m.ys.length c2, Value.slice a3 m.is.length c3, Value.slice a4 m.bs.length c4, Value.slice a5 m.fs.length c5, Value.slice a6 m.ds.length c6, Value.int IntKind.i64 m.nx], Value.pointer (some { block := w.heap.size, off := 0 }), Value.pointer (some { block := w.heap.size + 1, off := 0 }), x 10, undef, undef, x 0, x 1, x 2, x 3, x 4, x 5, x 6, x 7, x 8, x 9, undef, undef, undef, undef, undef, undef, undef, undef, undef, undef, undef, undef, undef, undef, undef, undef, undef, undef, undef, undef, undef, undef, undef, undef], []⟩) (fun i => match i with | 0 => undef | 1 => undef | 2 => undef | 3 => undef | 4 => undef | 5 => undef | 6 => undef | 7 => undef | 8 => undef | 9 => undef | 10 => undef | _ => undef) rfl (by kernel_rfl) (by kernel_rfl) (by kernel_rfl) rfl ?_ ?_
  · intro jo hj so x iw W hd hp K hK
    simp only [List.mem_cons, List.not_mem_nil, or_false] at hj
    rcases hj with rfl | rfl | rfl | rfl | rfl | rfl | rfl | rfl | rfl | rfl | rfl
    · refine wpOp_step (o := _) rfl fun K' hK' => ?_
      have HK : Hid (∀ v W', Below W.heap.size W W' → ((Mk.const [] (.pointer (some ⟨w.heap.size, 0, none⟩)) : Mk)).P W.heap.size W'.heap.size W' v (upd x 0 v) → K' ⟨#[Value.agg #[Value.slice a1 m.xs.length c1, Value.slice a2 m.ys.length c2, Value.slice a3 m.is.length c3, Value.slice a4 m.bs.length c4, Value.slice a5 m.fs.length c5, Value.slice a6 m.ds.length c6, Value.int IntKind.i64 m.nx], Value.pointer (some { block := w.heap.size, off := 0 }), Value.pointer (some { block := w.heap.size + 1, off := 0 }), x 10, undef, undef, v, x 1, x 2, x 3, x 4, x 5, x 6, x 7, x 8, x 9, undef, undef, undef, undef, undef, undef, undef, undef, undef, undef, undef, undef, undef, undef, undef, undef, undef, undef, undef, undef, undef, undef, undef, undef], []⟩ W') := fun v W' h1 h2 => hK' _ _ (hK v W' h1 h2)
      clear hK hK' hp hd
      go_simp
      exact HK.out _ _ (Below.refl _ _) rfl
    · refine wpOp_step (o := _) rfl fun K' hK' => ?_
      have HK : Hid (∀ v W', Below W.heap.size W W' → ((Mk.const [0] (.agg #[.slice a1 m.xs.length c1, .slice a2 m.ys.length c2, .slice a3 m.is.length c3, .slice a4 m.bs.length c4]) : Mk)).P W.heap.size W'.heap.size W' v (upd x 1 v) → K' ⟨#[Value.agg #[Value.slice a1 m.xs.length c1, Value.slice a2 m.ys.length c2, Value.slice a3 m.is.length c3, Value.slice a4 m.bs.length c4, Value.slice a5 m.fs.length c5, Value.slice a6 m.ds.length c6, Value.int IntKind.i64 m.nx], Value.pointer (some { block := w.heap.size, off := 0 }), Value.pointer (some { block := w.heap.size + 1, off := 0 }), x 10, undef, undef, x 0, v, x 2, x 3, x 4, x 5, x 6, x 7, x 8, x 9, undef, undef, undef, undef, undef, undef, undef, undef, undef, undef, undef, undef, undef, undef, undef, undef, undef, undef, undef, undef, undef, undef, undef, undef], []⟩ W') := fun v W' h1 h2 => hK' _ _ (hK v W' h1 h2)
      have e0 : x 0 = .pointer (some ⟨w.heap.size, 0, none⟩) := hp.post 0 (hd 0 (show 0 ∈ [0] from by decide))
      have k0 := (HC.out W hp.bel).1
      have q0 : W.cell? ⟨w.heap.size, 0, none⟩ = some (.slice a1 m.xs.length c1) := k0.cell 0
      have q1 : W.cell? ⟨w.heap.size, 1, none⟩ = some (.slice a2 m.ys.length c2) := k0.cell 1
      have q2 : W.cell? ⟨w.heap.size, 2, none⟩ = some (.slice a3 m.is.length c3) := k0.cell 2
      have q3 : W.cell? ⟨w.heap.size, 3, none⟩ = some (.slice a4 m.bs.length c4) := k0.cell 3
      clear k0
      clear hK hK' hp hd
      simp only [e0] at HK ⊢
      go_simp
      exact HK.out _ _ (Below.refl _ _) rfl
    · refine wpOp_step (o := _) rfl fun K' hK' => ?_
      have HK : Hid (∀ v W', Below W.heap.size W W' → (MkD 1 m.xs m.ys m.is m.bs).P W.heap.size W'.heap.size W' v (upd x 2 v) → K' ⟨#[Value.agg #[Value.slice a1 m.xs.length c1, Value.slice a2 m.ys.length c2, Value.slice a3 m.is.length c3, Value.slice a4 m.bs.length c4, Value.slice a5 m.fs.length c5, Value.slice a6 m.ds.length c6, Value.int IntKind.i64 m.nx], Value.pointer (some { block := w.heap.size, off := 0 }), Value.pointer (some { block := w.heap.size + 1, off := 0 }), x 10, undef, undef, x 0, x 1, v, x 3, x 4, x 5, x 6, x 7, x 8, x 9, undef, undef, undef, undef, undef, undef, undef, undef, undef, undef, undef, undef, undef, undef, undef, undef, undef, undef, undef, undef, undef, undef, undef, undef], []⟩ W') := fun v W' h1 h2 => hK' _ _ (hK v W' h1 h2)
      have e1 : x 1 = .agg #[.slice a1 m.xs.length c1, .slice a2 m.ys.length c2, .slice a3 m.is.length c3, .slice a4 m.bs.length c4] := hp.post 1 (hd 1 (show 1 ∈ [1] from by decide))
      have bl := (HC.out W hp.bel).2.2.1
      clear hK hK' hp hd
      simp only [e1] at HK ⊢
      go_simp
      refine (specCopy_any _ _ _ _ m.xs m.ys m.is m.bs W (H.out.d.below bl (Nat.le_refl _)) HG.out.d).mono ?_
      rintro e w6 ⟨p1, p2, p3, p4, rfl, O6, B6⟩
      obtain ⟨b1, d1, b2, d2, b3, d3, b4, d4, rfl, rfl, rfl, rfl⟩ := O6.dr.form
      go_simp
      exact HK.out _ _ B6 ⟨b1, d1, b2, d2, b3, d3, b4, d4, rfl, O6.bound⟩
    · refine wpOp_step (o := _) rfl fun K' hK' => ?_
      have HK : Hid (∀ v W', Below W.heap.size W W' → (MkE 4).P W.heap.size W'.heap.size W' v (upd x 3 v) → K' ⟨#[Value.agg #[Value.slice a1 m.xs.length c1, Value.slice a2 m.ys.length c2, Value.slice a3 m.is.length c3, Value.slice a4 m.bs.length c4, Value.slice a5 m.fs.length c5, Value.slice a6 m.ds.length c6, Value.int IntKind.i64 m.nx], Value.pointer (some { block := w.heap.size, off := 0 }), Value.pointer (some { block := w.heap.size + 1, off := 0 }), x 10, undef, undef, x 0, x 1, x 2, v, x 4, x 5, x 6, x 7, x 8, x 9, undef, undef, undef, undef, undef, undef, undef, undef, undef, undef, undef, undef, undef, undef, undef, undef, undef, undef, undef, undef, undef, undef, undef, undef], []⟩ W') := fun v W' h1 h2 => hK' _ _ (hK v W' h1 h2)
      clear hK hK' hp hd
      go_simp
      exact HK.out _ _ ((Below.refl _ W).alloc (Nat.le_refl _) _) ⟨rfl, by simp, AtC.new W 4 _⟩
    · refine wpOp_step (o := _) rfl fun K' hK' => ?_
      have HK : Hid (∀ v W', Below W.heap.size W W' → ((Mk.const [] (.pointer (some ⟨w.heap.size, 4, none⟩)) : Mk)).P W.heap.size W'.heap.size W' v (upd x 4 v) → K' ⟨#[Value.agg #[Value.slice a1 m.xs.length c1, Value.slice a2 m.ys.length c2, Value.slice a3 m.is.length c3, Value.slice a4 m.bs.length c4, Value.slice a5 m.fs.length c5, Value.slice a6 m.ds.length c6, Value.int IntKind.i64 m.nx], Value.pointer (some { block := w.heap.size, off := 0 }), Value.pointer (some { block := w.heap.size + 1, off := 0 }), x 10, undef, undef, x 0, x 1, x 2, x 3, v, x 5, x 6, x 7, x 8, x 9, undef, undef, undef, undef, undef, undef, undef, undef, undef, undef, undef, undef, undef, undef, undef, undef, undef, undef, undef, undef, undef, undef, undef, undef], []⟩ W') := fun v W' h1 h2 => hK' _ _ (hK v W' h1 h2)
      clear hK hK' hp hd
      go_simp
      exact HK.out _ _ (Below.refl _ _) rfl
    · refine wpOp_step (o := _) rfl fun K' hK' => ?_
      have HK : Hid (∀ v W', Below W.heap.size W W' → ((Mk.const [4] (.slice a5 m.fs.length c5) : Mk)).P W.heap.size W'.heap.size W' v (upd x 5 v) → K' ⟨#[Value.agg #[Value.slice a1 m.xs.length c1, Value.slice a2 m.ys.length c2, Value.slice a3 m.is.length c3, Value.slice a4 m.bs.length c4, Value.slice a5 m.fs.length c5, Value.slice a6 m.ds.length c6, Value.int IntKind.i64 m.nx], Value.pointer (some { block := w.heap.size, off := 0 }), Value.pointer (some { block := w.heap.size + 1, off := 0 }), x 10, undef, undef, x 0, x 1, x 2, x 3, x 4, v, x 6, x 7, x 8, x 9, undef, undef, undef, undef, undef, undef, undef, undef, undef, undef, undef, undef, undef, undef, undef, undef, undef, undef, undef, undef, undef, undef, undef, undef], []⟩ W') := fun v W' h1 h2 => hK' _ _ (hK v W' h1 h2)
      have e4 : x 4 = .pointer (some ⟨w.heap.size, 4, none⟩) := hp.post 4 (hd 4 (show 4 ∈ [4] from by decide))
      have q0 : W.cell? ⟨w.heap.size, 4, none⟩ = some (.slice a5 m.fs.length c5) := (HC.out W hp.bel).1.cell 4
      clear hK hK' hp hd
      simp only [e4] at HK ⊢
      go_simp
      exact HK.out _ _ (Below.refl _ _) rfl
    · refine wpOp_step (o := _) rfl fun K' hK' => ?_
      have HK : Hid (∀ v W', Below W.heap.size W W' → (MkC 3 5 m.fs (w.heap.size + 1 + 1)).P W.heap.size W'.heap.size W' v (upd x 6 v) → K' ⟨#[Value.agg #[Value.slice a1 m.xs.length c1, Value.slice a2 m.ys.length c2, Value.slice a3 m.is.length c3, Value.slice a4 m.bs.length c4, Value.slice a5 m.fs.length c5, Value.slice a6 m.ds.length c6, Value.int IntKind.i64 m.nx], Value.pointer (some { block := w.heap.size, off := 0 }), Value.pointer (some { block := w.heap.size + 1, off := 0 }), x 10, undef, undef, x 0, x 1, x 2, x 3, x 4, x 5, v, x 7, x 8, x 9, undef, undef, undef, undef, undef, undef, undef, undef, undef, undef, undef, undef, undef, undef, undef, undef, undef, undef, undef, undef, undef, undef, undef, undef], []⟩ W') := fun v W' h1 h2 => hK' _ _ (hK v W' h1 h2)
      have e3 : x 3 = .slice (some ⟨(iw 3).1, 0, none⟩) 0 0 ∧ (iw 3).2 = (iw 3).1 + 1 ∧ AtC W (iw 3).1 4 #[] := hp.post 3 (hd 3 (show 3 ∈ [3, 5] from by decide))
      have e5 : x 5 = .slice a5 m.fs.length c5 := hp.post 5 (hd 5 (show 5 ∈ [3, 5] from by decide))
      have bl := HC.out W hp.bel
      have l0 := (hp.lo 3 (hd 3 (show 3 ∈ [3, 5] from by decide))).1
      simp [World.drew] at l0
      clear hK hK' hp hd
      obtain ⟨f0, -, A0⟩ := e3
      refine step_append_copy0 W rfl (.tmp 9) (.tmp 11) 22 rfl (w.heap.size + 1 + 1) 4 Tryz.underlying22 _ 1 1 Tryz.i4 rfl (by decide) (by decide) (some ⟨(iw 3).1, 0, none⟩) (by exact f0) (A0.empty _ (by omega) 1) bl.2.2.2 (.slice a5 m.fs.length c5) (by exact e5) m.fs.length (fc m.fs) (H.out.f.below bl.2.2.1 (Nat.le_refl _)).rc (by rw [fc_length, Nat.mul_one]) (fc_one m.fs) HX.out ?_
      intro v' w' R1 R2 R3
      have O1 : ROwns w' (w.heap.size + 1 + 1) 4 v' (fc m.fs) := by unfold ROwns; rw [fc_length]; exact R1
      obtain ⟨a8, c8, e8⟩ := O1.rfl.form
      exact HK.out v' w' R2 ⟨a8, c8, e8, O1, fun i hi => R3.elim (fun e => .inr (by rw [upd_ne _ _ _ _ (by decide), f0]; rw [hi] at e; exact e.symm)) (fun e => .inl ⟨by rw [hi] at e; cases e; exact Nat.le_refl _, (O1.lt i hi).2⟩)⟩
    · refine wpOp_step (o := _) rfl fun K' hK' => ?_
      have HK : Hid (∀ v W', Below W.heap.size W W' → ((Mk.const [] (.pointer (some ⟨w.heap.size, 6, none⟩)) : Mk)).P W.heap.size W'.heap.size W' v (upd x 7 v) → K' ⟨#[Value.agg #[Value.slice a1 m.xs.length c1, Value.slice a2 m.ys.length c2, Value.slice a3 m.is.length c3, Value.slice a4 m.bs.length c4, Value.slice a5 m.fs.length c5, Value.slice a6 m.ds.length c6, Value.int IntKind.i64 m.nx], Value.pointer (some { block := w.heap.size, off := 0 }), Value.pointer (some { block := w.heap.size + 1, off := 0 }), x 10, undef, undef, x 0, x 1, x 2, x 3, x 4, x 5, x 6, v, x 8, x 9, undef, undef, undef, undef, undef, undef, undef, undef, undef, undef, undef, undef, undef, undef, undef, undef, undef, undef, undef, undef, undef, undef, undef, undef], []⟩ W') := fun v W' h1 h2 => hK' _ _ (hK v W' h1 h2)
      clear hK hK' hp hd
      go_simp
      exact HK.out _ _ (Below.refl _ _) rfl
    · refine wpOp_step (o := _) rfl fun K' hK' => ?_
      have HK : Hid (∀ v W', Below W.heap.size W W' → ((Mk.const [7] (.int .i64 m.nx) : Mk)).P W.heap.size W'.heap.size W' v (upd x 8 v) → K' ⟨#[Value.agg #[Value.slice a1 m.xs.length c1, Value.slice a2 m.ys.length c2, Value.slice a3 m.is.length c3, Value.slice a4 m.bs.length c4, Value.slice a5 m.fs.length c5, Value.slice a6 m.ds.length c6, Value.int IntKind.i64 m.nx], Value.pointer (some { block := w.heap.size, off := 0 }), Value.pointer (some { block := w.heap.size + 1, off := 0 }), x 10, undef, undef, x 0, x 1, x 2, x 3, x 4, x 5, x 6, x 7, v, x 9, undef, undef, undef, undef, undef, undef, undef, undef, undef, undef, undef, undef, undef, undef, undef, undef, undef, undef, undef, undef, undef, undef, undef, undef], []⟩ W') := fun v W' h1 h2 => hK' _ _ (hK v W' h1 h2)
      have e7 : x 7 = .pointer (some ⟨w.heap.size, 6, none⟩) := hp.post 7 (hd 7 (show 7 ∈ [7] from by decide))
      have q0 : W.cell? ⟨w.heap.size, 6, none⟩ = some (.int .i64 m.nx) := (HC.out W hp.bel).1.cell 6
      clear hK hK' hp hd
      simp only [e7] at HK ⊢
      go_simp
      exact HK.out _ _ (Below.refl _ _) rfl
    · refine wpOp_step (o := _) rfl fun K' hK' => ?_
      have HK : Hid (∀ v W', Below W.heap.size W W' → (MkM3 2 6 8 m.xs.length m.ys.length m.is.length m.bs.length m.fs.length m.nx).P W.heap.size W'.heap.size W' v (upd x 9 v) → K' ⟨#[Value.agg #[Value.slice a1 m.xs.length c1, Value.slice a2 m.ys.length c2, Value.slice a3 m.is.length c3, Value.slice a4 m.bs.length c4, Value.slice a5 m.fs.length c5, Value.slice a6 m.ds.length c6, Value.int IntKind.i64 m.nx], Value.pointer (some { block := w.heap.size, off := 0 }), Value.pointer (some { block := w.heap.size + 1, off := 0 }), x 10, undef, undef, x 0, x 1, x 2, x 3, x 4, x 5, x 6, x 7, x 8, v, undef, undef, undef, undef, undef, undef, undef, undef, undef, undef, undef, undef, undef, undef, undef, undef, undef, undef, undef, undef, undef, undef, undef, undef], []⟩ W') := fun v W' h1 h2 => hK' _ _ (hK v W' h1 h2)
      have e2 : ∃ a1 c1 a2 c2 a3 c3 a4 c4, x 2 = .agg #[.slice a1 m.xs.length c1, .slice a2 m.ys.length c2, .slice a3 m.is.length c3, .slice a4 m.bs.length c4] ∧ DO W (fun q => (iw 2).1 ≤ q ∧ q < (iw 2).2) (.slice a1 m.xs.length c1) (.slice a2 m.ys.length c2) (.slice a3 m.is.length c3) (.slice a4 m.bs.length c4) m.xs m.ys m.is m.bs := hp.post 2 (hd 2 (show 2 ∈ [2, 6, 8] from by decide))
      have e6 : ∃ a c, x 6 = .slice a m.fs.length c ∧ ROwns W (w.heap.size + 1 + 1) 4 (x 6) (fc m.fs) ∧ ∀ i, (x 6).ownBlock = some i → ((iw 6).1 ≤ i ∧ i < (iw 6).2) ∨ (x 3).ownBlock = some i := hp.post 6 (hd 6 (show 6 ∈ [2, 6, 8] from by decide))
      have e8 : x 8 = .int .i64 m.nx := hp.post 8 (hd 8 (show 8 ∈ [2, 6, 8] from by decide))
      clear hK hK' hp hd
      obtain ⟨b1, d1, b2, d2, b3, d3, b4, d4, e2, -⟩ := e2
      obtain ⟨b5, d5, e6, -⟩ := e6
      have HE := hide (And.intro e2 e6)
      simp only [e2, e6, e8] at HK ⊢
      clear e2 e6 e8
      go_simp
      exact HK.out _ _ (Below.refl _ _) ⟨b1, d1, b2, d2, b3, d3, b4, d4, b5, d5, by rw [upd_ne _ _ _ _ (by decide)]; exact HE.out.1, by rw [upd_ne _ _ _ _ (by decide)]; exact HE.out.2, rfl⟩
    · refine wpOp_step (o := _) rfl fun K' hK' => ?_
      have HK : Hid (∀ v W', Below W.heap.size W W' → (MkW 40 noM).P W.heap.size W'.heap.size W' v (upd x 10 v) → K' ⟨#[Value.agg #[Value.slice a1 m.xs.length c1, Value.slice a2 m.ys.length c2, Value.slice a3 m.is.length c3, Value.slice a4 m.bs.length c4, Value.slice a5 m.fs.length c5, Value.slice a6 m.ds.length c6, Value.int IntKind.i64 m.nx], Value.pointer (some { block := w.heap.size, off := 0 }), Value.pointer (some { block := w.heap.size + 1, off := 0 }), v, undef, undef, x 0, x 1, x 2, x 3, x 4, x 5, x 6, x 7, x 8, x 9, undef, undef, undef, undef, undef, undef, undef, undef, undef, undef, undef, undef, undef, undef, undef, undef, undef, undef, undef, undef, undef, undef, undef, undef], []⟩ W') := fun v W' h1 h2 => hK' _ _ (hK v W' h1 h2)
      clear hK hK' hp hd
      go_simp
      exact HK.out _ _ ((Below.refl _ W).alloc (Nat.le_refl _) _) ⟨rfl, by simp, AtC.new W 40 _⟩
  · intro x iw W hp
    obtain ⟨b1, d1, b2, d2, b3, d3, b4, d4, e2, O2⟩ := hp.post 2 (by decide)
    obtain ⟨f3, z3, -⟩ := hp.post 3 (by decide)
    obtain ⟨b5, d5, e6, O6, own6⟩ := hp.post 6 (by decide)
    have e8 : x 8 = .int .i64 m.nx := hp.post 8 (by decide)
    obtain ⟨g1, h1, g2, h2, g3, h3, g4, h4, g5, h5, k2, k6, e9⟩ := hp.post 9 (by decide)
    obtain ⟨e10, z10, A10⟩ := hp.post 10 (by decide)
    rw [e2] at k2
    rw [e6] at k6
    simp only [Value.agg.injEq, Array.mk.injEq, List.cons.injEq, Value.slice.injEq, true_and, and_true] at k2 k6
    obtain ⟨⟨rfl, rfl⟩, ⟨rfl, rfl⟩, ⟨rfl, rfl⟩, rfl, rfl⟩ := k2
    obtain ⟨rfl, rfl⟩ := k6
    have p210 := hp.apart 2 (by decide) 10 (by decide) (by decide)
    have p26 := hp.apart 2 (by decide) 6 (by decide) (by decide)
    have p23 := hp.apart 2 (by decide) 3 (by decide) (by decide)
    have p610 := hp.apart 6 (by decide) 10 (by decide) (by decide)
    have p310 := hp.apart 3 (by decide) 10 (by decide) (by decide)
    have l2 := hp.lo 2 (by decide)
    have l3 := hp.lo 3 (by decide)
    have l6 := hp.lo 6 (by decide)
    have l10 := hp.lo 10 (by decide)
    simp [World.drew] at l2 l3 l6 l10
    obtain ⟨kA, kR, bel, -⟩ := HC.out W hp.bel
    rw [e6, f3] at own6
    rw [e6] at O6
    have hsep : ∀ k, (Value.slice b5 m.fs.length d5).ownBlock = some k → (k < (iw 2).1 ∨ (iw 2).2 ≤ k) ∧ k ≠ (iw 10).1 := fun k hk => by
      have q := own6 k hk
      simp only [Value.ownBlock, Option.some.injEq] at q
      omega
    have D0 := mz_stored (m := { m with ds := [] }) kA kR A10 O2 O6 hsep (by omega) (by omega) bel (by omega) rfl
    have y0 : W.cell? ⟨(iw 10).1, 0, none⟩ = some (.slice none 0 0) := A10.cell 0
    have y1 : W.cell? ⟨(iw 10).1, 1, none⟩ = some (.slice none 0 0) := A10.cell 1
    have y2 : W.cell? ⟨(iw 10).1, 2, none⟩ = some (.slice none 0 0) := A10.cell 2
    have y3 : W.cell? ⟨(iw 10).1, 3, none⟩ = some (.slice none 0 0) := A10.cell 3
    have y4 : W.cell? ⟨(iw 10).1, 4, none⟩ = some (.slice none 0 0) := A10.cell 4
    have y5 : W.cell? ⟨(iw 10).1, 5, none⟩ = some (.slice none 0 0) := A10.cell 5
    have y6 : W.cell? ⟨(iw 10).1, 6, none⟩ = some (.int .i64 0) := A10.cell 6
    have z0 := A10.frozen 0
    have z1 := A10.frozen 1
    have z2 := A10.frozen 2
    have z3' := A10.frozen 3
    have z4 := A10.frozen 4
    have z5 := A10.frozen 5
    have z6 := A10.frozen 6
    generalize (iw 10).1 = b at *
    have HD := hide D0
    clear hp own6 O6 O2 hsep kA kR bel z10 z3 p210 p26 p23 p610 p310 l2 l3 l6 l10 D0 A10 HC HX f3
    simp only [e2, e6, e8, e9, e10]
    clear e2 e6 e8 e9 e10
    go_wp2_with fail
    obtain ⟨W1, hW1⟩ : ∃ W1, (((((((W.setCell ⟨b, 0, none⟩ (.slice b1 m.xs.length d1)).setCell ⟨b, 1, none⟩ (.slice b2 m.ys.length d2)).setCell ⟨b, 2, none⟩ (.slice b3 m.is.length d3)).setCell ⟨b, 3, none⟩ (.slice b4 m.bs.length d4)).setCell ⟨b, 4, none⟩ (.slice b5 m.fs.length d5)).setCell ⟨b, 5, none⟩ (.slice none 0 0)).setCell ⟨b, 6, none⟩ (.int .i64 m.nx)) = W1 := ⟨_, rfl⟩
    rw [hW1] at HD ⊢
    clear y0 y1 y2 y3 y4 y5 y6 z0 z1 z2 z3' z4 z5 z6 hW1
    go_loopw [4] (fun i wr => ∃ j : Nat, j ≤ m.ds.length ∧ i = .int .i64 j ∧ Hid (∃ pv, Mz w wr #[.slice a1 m.xs.length c1, .slice a2 m.ys.length c2, .slice a3 m.is.length c3, .slice a4 m.bs.length c4, .slice a5 m.fs.length c5, .slice a6 m.ds.length c6, .int .i64 m.nx] b (.slice b1 m.xs.length d1) (.slice b2 m.ys.length d2) (.slice b3 m.is.length d3) (.slice b4 m.bs.length d4) (.slice b5 m.fs.length d5) pv { m with ds := m.ds.take j })) (fun i _ => m.ds.length - (intOf i).toNat)
    case atStart => exact ⟨0, Nat.zero_le _, rfl, _, HD.out⟩
    case round =>
      obtain ⟨j, hj, rfl, HR⟩ := hrel
      obtain ⟨pv, hds⟩ := HR.out
      by_cases hlt : j < m.ds.length
      · obtain ⟨ts, k1, k2, k3⟩ := hds.app
        obtain ⟨gi, ci, rfl, -⟩ := k1.form
        obtain ⟨ai, cai, ei, -, hci⟩ := H.out.p.dep
        obtain ⟨g, off, p, rfl, hg, mm, hp⟩ := hci j hlt
        simp only [Value.slice.injEq, true_and] at ei
        obtain ⟨rfl, rfl⟩ := ei
        have hpl := HG.out.b j hlt
        have htk : m.ds.take j ++ [m.ds[j]] = m.ds.take (j + 1) := List.take_append_getElem hlt
        obtain ⟨X, hX⟩ : ∃ X, m.ds[j] = X := ⟨_, rfl⟩
        rw [hX] at mm hp hpl htk
        obtain ⟨id, kd, io, pt, bk, sl, nm, bt, ot, af, bl⟩ := X
        simp only at hp hpl
        obtain ⟨pa, pc, rfl⟩ := hp.form
        have hti : ts.length = j := by
          rw [k2]
          show (m.ds.take j).length = j
          rw [List.length_take]
          omega
        have nn := mm.below hds.bel hg
        simp only [DCells] at nn
        obtain ⟨n0, n1, n2, n3, n4, n5, n6, n7, n8, n9, n10⟩ := nn
        have HPR : Hid (RInts ((wr.alloc (.cells #[.int .i64 id, .int .i64 kd, .int .i64 io, .int .i64 pt, .int .i64 bk, .int .i64 sl, .string nm, .bool bt, .bool ot, .int .i64 af, .slice pa bl.length pc] 52)).alloc (.cells #[] 3)) (.slice pa bl.length pc) bl) := ((hp.below hds.bel (Nat.le_refl _)).alloc _).alloc _
        have HPL : Hid (bl.length ≤ 100000000000) := Nat.le_trans hpl (by decide)
        have HXX := hide (And.intro k1 (And.intro k3 hti))
        have HDS := hide hds
        have HTK := hide htk
        have xb5 : wr.cell? ⟨w.heap.size, 5, none⟩ = some (.slice (some ⟨g, off, none⟩) m.ds.length c6) := hds.arg.cell 5
        have j0 : (0 : Int) ≤ (j : Int) := by omega
        have j1 : (j : Int) < (m.ds.length : Int) := by omega
        clear k1 k2 k3 hds HR hti mm hp hpl htk hci hX hg
        have HSTEP : Hid (∀ (v9 : Value) (w9 : World), w9.ownsRow (wr.heap.size + 1) 3 1 v9 bl.length (ic bl) → ((wr.alloc (.cells #[.int .i64 id, .int .i64 kd, .int .i64 io, .int .i64 pt, .int .i64 bk, .int .i64 sl, .string nm, .bool bt, .bool ot, .int .i64 af, .slice pa bl.length pc] 52)).alloc (.cells #[] 3)).grownBy w9 (Value.slice (some ⟨wr.heap.size + 1, 0, none⟩) 0 0).ownBlock → ∃ pb pd W10, v9 = .slice pb bl.length pd ∧ w9.setCell ⟨wr.heap.size, 10, none⟩ (.slice pb bl.length pd) = W10 ∧ AtC w9 wr.heap.size 52 #[.int .i64 id, .int .i64 kd, .int .i64 io, .int .i64 pt, .int .i64 bk, .int .i64 sl, .string nm, .bool bt, .bool ot, .int .i64 af, .slice pa bl.length pc] ∧ AtC W10 wr.heap.size 52 #[.int .i64 id, .int .i64 kd, .int .i64 io, .int .i64 pt, .int .i64 bk, .int .i64 sl, .string nm, .bool bt, .bool ot, .int .i64 af, .slice pb bl.length pd] ∧ W10.cell? ⟨b, 5, none⟩ = some (.slice gi ts.length ci) ∧ AtC (W10.alloc (.cells #[.int .i64 id, .int .i64 kd, .int .i64 io, .int .i64 pt, .int .i64 bk, .int .i64 sl, .string nm, .bool bt, .bool ot, .int .i64 af, .slice pb bl.length pd] 52)) W10.heap.size 52 #[.int .i64 id, .int .i64 kd, .int .i64 io, .int .i64 pt, .int .i64 bk, .int .i64 sl, .string nm, .bool bt, .bool ot, .int .i64 af, .slice pb bl.length pd] ∧ NOwns (W10.alloc (.cells #[.int .i64 id, .int .i64 kd, .int .i64 io, .int .i64 pt, .int .i64 bk, .int .i64 sl, .string nm, .bool bt, .bool ot, .int .i64 af, .slice pb bl.length pd] 52)) 52 11 (.slice gi ts.length ci) ts ∧ ∀ v' w', NOwns w' 52 11 v' (ts ++ [(⟨id, kd, io, pt, bk, sl, nm, bt, ot, af, bl⟩ : Dp).row (.slice pb bl.length pd)]) → (W10.alloc (.cells #[.int .i64 id, .int .i64 kd, .int .i64 io, .int .i64 pt, .int .i64 bk, .int .i64 sl, .string nm, .bool bt, .bool ot, .int .i64 af, .slice pb bl.length pd] 52)).grownBy w' (Value.slice gi ts.length ci).ownBlock → (∀ k, v'.ownBlock = some k → (Value.slice gi ts.length ci).ownBlock = some k ∨ (W10.alloc (.cells #[.int .i64 id, .int .i64 kd, .int .i64 io, .int .i64 pt, .int .i64 bk, .int .i64 sl, .string nm, .bool bt, .bool ot, .int .i64 af, .slice pb bl.length pd] 52)).heap.size ≤ k) → AtC w' b 40 #[.slice b1 m.xs.length d1, .slice b2 m.ys.length d2, .slice b3 m.is.length d3, .slice b4 m.bs.length d4, .slice b5 m.fs.length d5, .slice gi ts.length ci, .int .i64 m.nx] ∧ Mz w (w'.setCell ⟨b, 5, none⟩ v') #[.slice a1 m.xs.length c1, .slice a2 m.ys.length c2, .slice a3 m.is.length c3, .slice a4 m.bs.length c4, .slice a5 m.fs.length c5, .slice (some ⟨g, off, none⟩) m.ds.length c6, .int .i64 m.nx] b (.slice b1 m.xs.length d1) (.slice b2 m.ys.length d2) (.slice b3 m.is.length d3) (.slice b4 m.bs.length d4) (.slice b5 m.fs.length d5) v' { m with ds := m.ds.take (j + 1) }) := fun v9 w9 R1 R2 => by
          obtain ⟨pb, pd, rfl, B9, K9⟩ := cp_one R1 R2
          have O9 : ROwns w9 (wr.heap.size + 1) 3 (.slice pb bl.length pd) (ic bl) := by unfold ROwns; rw [ic_length]; exact R1
          have hbl := HDS.out.box.lt
          have hs9 := B9.size
          have hk9 := K9.lt
          have bW : Below wr.heap.size wr ((w9.setCell ⟨wr.heap.size, 10, none⟩ (.slice pb bl.length pd)).alloc (.cells #[.int .i64 id, .int .i64 kd, .int .i64 io, .int .i64 pt, .int .i64 bk, .int .i64 sl, .string nm, .bool bt, .bool ot, .int .i64 af, .slice pb bl.length pd] 52)) := (B9.setCell (Nat.le_refl _) _).alloc (by simp; omega) _
          have K10 : AtC (w9.setCell ⟨wr.heap.size, 10, none⟩ (.slice pb bl.length pd)) wr.heap.size 52 #[.int .i64 id, .int .i64 kd, .int .i64 io, .int .i64 pt, .int .i64 bk, .int .i64 sl, .string nm, .bool bt, .bool ot, .int .i64 af, .slice pb bl.length pd] := K9.set 10 (.slice pb bl.length pd)
          have O10 : ROwns ((w9.setCell ⟨wr.heap.size, 10, none⟩ (.slice pb bl.length pd)).alloc (.cells #[.int .i64 id, .int .i64 kd, .int .i64 io, .int .i64 pt, .int .i64 bk, .int .i64 sl, .string nm, .bool bt, .bool ot, .int .i64 af, .slice pb bl.length pd] 52)) (wr.heap.size + 1) 3 (.slice pb bl.length pd) (ic bl) := (O9.setCell_other (by omega) _).alloc _
          refine ⟨pb, pd, _, rfl, rfl, K9, K10, ((HDS.out.below B9).box.other (by omega) _).cell 5, AtC.new _ 52 _, HXX.out.1.of_heap fun k hk => bW.block k (HXX.out.1.lt k hk), fun v' w' h1 h2 h3 => ?_⟩
          have := HXX.out.2.1 _ w' v' _ ⟨id, kd, io, pt, bk, sl, nm, bt, ot, af, bl⟩ bW ⟨_, rfl, O10.base_le (Nat.zero_le _)⟩ (fun k hk => by have := (O10.lt k hk).1; omega) h1 h2 h3
          rw [show ({ m with ds := m.ds.take j } : MD).ds ++ [(⟨id, kd, io, pt, bk, sl, nm, bt, ot, af, bl⟩ : Dp)] = m.ds.take (j + 1) from HTK.out] at this
          exact this
        have HTL : Hid (ts.length ≤ 100000000000) := by have := HXX.out.2.2; show ts.length ≤ _; omega
        clear HXX HDS
        go_wp2_with (first | (at_builtin; refine wpList_append_copy _ rfl _ _ 47 rfl (wr.heap.size + 1) 3 Tryz.underlying47 _ 1 8 Tryz.i3 rfl (by decide) (by decide) (.slice (some ⟨wr.heap.size + 1, 0, none⟩) 0 0) rfl (lit0_one wr _ 3 1) (by simp) _ rfl bl.length (ic bl) HPR.out.rc (by rw [ic_length, Nat.mul_one]) (ic_one bl) HPL.out ?_; intro v9 w9 R1 R2 R3; obtain ⟨pb, pd, W10, rfl, hW10, K9, K10, cb5, K11, T11, S11⟩ := HSTEP.out v9 w9 R1 R2; have y10 : w9.cell? ⟨wr.heap.size, 10, none⟩ = some (.slice pa bl.length pc) := K9.cell 10; have yf := K9.frozen 10; have kc0 : W10.cell? ⟨wr.heap.size, 0, none⟩ = some (.int .i64 id) := K10.cell 0; have kc1 : W10.cell? ⟨wr.heap.size, 1, none⟩ = some (.int .i64 kd) := K10.cell 1; have kc2 : W10.cell? ⟨wr.heap.size, 2, none⟩ = some (.int .i64 io) := K10.cell 2; have kc3 : W10.cell? ⟨wr.heap.size, 3, none⟩ = some (.int .i64 pt) := K10.cell 3; have kc4 : W10.cell? ⟨wr.heap.size, 4, none⟩ = some (.int .i64 bk) := K10.cell 4; have kc5 : W10.cell? ⟨wr.heap.size, 5, none⟩ = some (.int .i64 sl) := K10.cell 5; have kc6 : W10.cell? ⟨wr.heap.size, 6, none⟩ = some (.string nm) := K10.cell 6; have kc7 : W10.cell? ⟨wr.heap.size, 7, none⟩ = some (.bool bt) := K10.cell 7; have kc8 : W10.cell? ⟨wr.heap.size, 8, none⟩ = some (.bool ot) := K10.cell 8; have kc9 : W10.cell? ⟨wr.heap.size, 9, none⟩ = some (.int .i64 af) := K10.cell 9; have kc10 : W10.cell? ⟨wr.heap.size, 10, none⟩ = some (.slice pb bl.length pd) := K10.cell 10; have HK11 := hide K11; have HT11 := hide T11; have HS11 := hide S11; clear R1 R2 R3 K9 K10 K11 T11 S11) | (at_builtin; refine wpList_step fun K' hK' => ?_; refine step_append_n _ rfl (.tmp 34) (.tmp 36) 38 rfl 52 Tryz.u38 _ 11 104 Tryz.i52 rfl (by decide) (by decide) (.slice gi ts.length ci) ts rfl HT11.out W10.heap.size ((⟨id, kd, io, pt, bk, sl, nm, bt, ot, af, bl⟩ : Dp).row (.slice pb bl.length pd)) rfl rfl (fun i u hu => (HK11.out.at_ i u hu)) (by simp [Dp.row, Value.oneCell']) HTL.out ?_; intro v12 w12 T12 G12 V12; refine hK' _ _ ?_; obtain ⟨e12, D12⟩ := HS11.out v12 w12 T12 G12 V12; obtain ⟨g12, c12, rfl, -⟩ := T12.form; rw [show (ts ++ [(⟨id, kd, io, pt, bk, sl, nm, bt, ot, af, bl⟩ : Dp).row (.slice pb bl.length pd)]).length = ts.length + 1 from List.length_append] at D12 ⊢; have z2 := e12.frozen 5; have z3 : w12.cell? ⟨b, 5, none⟩ = some (.slice gi ts.length ci) := e12.cell 5; have H12 := hide D12; clear e12 D12 T12 G12 V12 hK'))
        go_roundw
        case rel => exact ⟨j + 1, by omega, by go_num, _, H12.out⟩
        case measure => simp [intOf]; omega
      · have hj2 : j = m.ds.length := by omega
        subst hj2
        rw [List.take_length] at hds
        obtain ⟨g6, l6, e6⟩ := hds.own.mr.p.form
        simp only at e6
        subst e6
        have H7 := hide hds
        have xb5 : wr.cell? ⟨w.heap.size, 5, none⟩ = some (.slice a6 m.ds.length c6) := hds.arg.cell 5
        have y0 : wr.cell? ⟨b, 0, none⟩ = some (.slice b1 m.xs.length d1) := hds.box.cell 0
        have y1 : wr.cell? ⟨b, 1, none⟩ = some (.slice b2 m.ys.length d2) := hds.box.cell 1
        have y2 : wr.cell? ⟨b, 2, none⟩ = some (.slice b3 m.is.length d3) := hds.box.cell 2
        have y3 : wr.cell? ⟨b, 3, none⟩ = some (.slice b4 m.bs.length d4) := hds.box.cell 3
        have y4 : wr.cell? ⟨b, 4, none⟩ = some (.slice b5 m.fs.length d5) := hds.box.cell 4
        have y5 : wr.cell? ⟨b, 5, none⟩ = some (.slice g6 m.ds.length l6) := hds.box.cell 5
        have y6 : wr.cell? ⟨b, 6, none⟩ = some (.int .i64 m.nx) := hds.box.cell 6
        have r0 : wr.cell? ⟨w.heap.size + 1, 0, none⟩ = some (.slice none 0 0) := hds.res.cell 0
        have v0 := hds.res.frozen 0
        have r1 : wr.cell? ⟨w.heap.size + 1, 1, none⟩ = some (.slice none 0 0) := hds.res.cell 1
        have v1 := hds.res.frozen 1
        have r2 : wr.cell? ⟨w.heap.size + 1, 2, none⟩ = some (.slice none 0 0) := hds.res.cell 2
        have v2 := hds.res.frozen 2
        have r3 : wr.cell? ⟨w.heap.size + 1, 3, none⟩ = some (.slice none 0 0) := hds.res.cell 3
        have v3 := hds.res.frozen 3
        have r4 : wr.cell? ⟨w.heap.size + 1, 4, none⟩ = some (.slice none 0 0) := hds.res.cell 4
        have v4 := hds.res.frozen 4
        have r5 : wr.cell? ⟨w.heap.size + 1, 5, none⟩ = some (.slice none 0 0) := hds.res.cell 5
        have v5 := hds.res.frozen 5
        have r6 : wr.cell? ⟨w.heap.size + 1, 6, none⟩ = some (.int .i64 0) := hds.res.cell 6
        have v6 := hds.res.frozen 6
        clear hds HR
        go_wp2
        refine bodyPost_ret (v := .agg #[.slice b1 m.xs.length d1, .slice b2 m.ys.length d2, .slice b3 m.is.length d3, .slice b4 m.bs.length d4, .slice b5 m.fs.length d5, .slice g6 m.ds.length l6, .int .i64 m.nx]) (by simp [results, go_sem, r0, r1, r2, r3, r4, r5, r6]) rfl ⟨_, _, _, _, _, _, rfl, ?_, ?_⟩
        · exact (H7.out.own.of_heap fun k hk _ => ((((((heap_setCell_other _ ⟨w.heap.size + 1, 6, none⟩ k _ (by show k ≠ w.heap.size + 1; omega)).trans (heap_setCell_other _ ⟨w.heap.size + 1, 5, none⟩ k _ (by show k ≠ w.heap.size + 1; omega))).trans (heap_setCell_other _ ⟨w.heap.size + 1, 4, none⟩ k _ (by show k ≠ w.heap.size + 1; omega))).trans (heap_setCell_other _ ⟨w.heap.size + 1, 3, none⟩ k _ (by show k ≠ w.heap.size + 1; omega))).trans (heap_setCell_other _ ⟨w.heap.size + 1, 2, none⟩ k _ (by show k ≠ w.heap.size + 1; omega))).trans (heap_setCell_other _ ⟨w.heap.size + 1, 1, none⟩ k _ (by show k ≠ w.heap.size + 1; omega))).trans (heap_setCell_other _ ⟨w.heap.size + 1, 0, none⟩ k _ (by show k ≠ w.heap.size + 1; omega))).mono fun k hk => by omega
        · exact (((((((H7.out.bel).setCell (by simp) _).setCell (by simp) _).setCell (by simp) _).setCell (by simp) _).setCell (by simp) _).setCell (by simp) _).setCell (by simp) _
end Go.Proofs.YtggjillpfclajaaGreat
/- Leaners: a map of pointers by Id; how they lie. No Go function is spoken of. -/
namespace Go.Proofs.YtggjillpfclajaaGreat.Kit
open Go.RowKit Go.Maps
/-- A leaner: its place, what it holds, its block. -/
structure Ln where
  pl : Nat
  d : Dp
  b : Nat
/-- A pointer to a block, or none. -/
def ptrV : Option Nat → Value
  | none => .pointer none
  | some b => .pointer (some ⟨b, 0, none⟩)
def datP : Option Nat → DataW Nat
  | none => .nil
  | some b => .held b
/-- How such a pointer reads. -/
def ptrE : Value → Option (DataW Nat × List MemPlace)
  | .pointer none => some (.nil, [])
  | .pointer (some ⟨b, 0, none⟩) => some (.held b, [])
  | _ => none
theorem ptrE_mk (o : Option Nat) : ptrE (ptrV o) = some (datP o, []) := by cases o <;> rfl
theorem ptrE_inv {v : Value} {y : DataW Nat × List MemPlace} (h : ptrE v = some y) : ∃ o, v = ptrV o ∧ y = (datP o, []) := by
  unfold ptrE at h
  split at h
  · cases h; exact ⟨none, rfl, rfl⟩
  · cases h; exact ⟨some _, rfl, rfl⟩
  · cases h
theorem datP_inj {o o' : Option Nat} (h : datP o = datP o') : o = o' := by
  cases o <;> cases o' <;> simp [datP] at h ⊢
  exact h
/-- The last one's block with this Id. -/
def lastP (id : Int) (E : List Ln) : Option Nat := E.foldl (fun acc e => if e.d.id = id then some e.b else acc) none
theorem lastP_nil (id : Int) : lastP id [] = none := rfl
theorem lastP_snoc (id : Int) (E : List Ln) (e : Ln) : lastP id (E ++ [e]) = if e.d.id = id then some e.b else lastP id E := by simp [lastP, List.foldl_append]
theorem lastP_take (id : Int) (E : List Ln) (j : Nat) (h : j < E.length) : lastP id (E.take (j + 1)) = if E[j].d.id = id then some E[j].b else lastP id (E.take j) := by
  rw [← List.take_append_getElem h, lastP_snoc]
theorem lastP_spec (id : Int) (E : List Ln) : ∀ (t : Nat), t ≤ E.length → (lastP id (E.take t) = none ∧ ∀ (j : Nat) (h : j < E.length), j < t → E[j].d.id ≠ id) ∨ ∃ (i : Nat) (h : i < E.length), i < t ∧ lastP id (E.take t) = some E[i].b ∧ E[i].d.id = id ∧ ∀ (j : Nat) (h : j < E.length), i < j → j < t → E[j].d.id ≠ id := by
  intro t
  induction t with
  | zero => exact fun _ => .inl ⟨by simp [lastP], fun j _ h => by omega⟩
  | succ t ih =>
    intro ht
    rw [lastP_take id E t (by omega)]
    by_cases e : E[t].d.id = id
    · refine .inr ⟨t, by omega, by omega, by rw [if_pos e], e, fun j hj h1 h2 => by omega⟩
    · rw [if_neg e]
      rcases ih (by omega) with ⟨h1, h2⟩ | ⟨i, hi, h1, h2, h3, h4⟩
      · exact .inl ⟨h1, fun j hj hjt => by
          by_cases e2 : j = t
          · subst e2; exact e
          · exact h2 j hj (by omega)⟩
      · exact .inr ⟨i, hi, by omega, h2, h3, fun j hj h5 h6 => by
          by_cases e2 : j = t
          · subst e2; exact e
          · exact h4 j hj h5 (by omega)⟩
/-- The cells of a leaner. -/
def lnRow (d : Dp) (p : Value) (pl : Nat) (o : Option Nat) : Array Value := #[.int .i64 d.id, .int .i64 d.kd, .int .i64 d.io, .int .i64 d.pt, .int .i64 d.bk, .int .i64 d.sl, .string d.nm, .bool d.bt, .bool d.ot, .int .i64 d.af, p, .int .i64 (pl : Int), ptrV o]
/-- The map in block B holds the leaners E, whose lists are ps; all of it in blocks from L on. -/
structure LEN (P : Program) (w : World) (L B : Nat) (E : List Ln) (ps : List Value) (N : Nat) : Prop where
  len : ps.length = E.length
  map : ∃ D, w.ownsMap P 3 ptrE B N D ∧ (∀ id, (Lit.int .i64 id).wf = true → D.atKey (.int .i64 id) .nil = datP (lastP id E)) ∧ ∀ id, (Lit.int .i64 id).wf = true → Maps.has D (.int .i64 id) = (lastP id E).isSome
  cell : ∀ (j : Nat) (h : j < E.length) (h' : j < ps.length), AtC w E[j].b 101 (lnRow E[j].d ps[j] E[j].pl (lastP E[j].d.id (E.take j)))
  own : ∀ (j : Nat) (h : j < E.length) (h' : j < ps.length), ROwns w 0 3 ps[j] (ic E[j].d.bl)
  loB : L ≤ B
  lob : ∀ (j : Nat) (h : j < E.length), L ≤ E[j].b
  lop : ∀ (j : Nat) (h : j < ps.length) (k : Nat), ps[j].ownBlock = some k → L ≤ k
  nb : ∀ (i j : Nat) (hi : i < E.length) (hj : j < E.length), i ≠ j → E[i].b ≠ E[j].b
  nB : ∀ (j : Nat) (h : j < E.length), E[j].b ≠ B
  np : ∀ (i j : Nat) (hi : i < ps.length) (hj : j < ps.length), i ≠ j → ∀ k, ps[i].ownBlock = some k → ps[j].ownBlock ≠ some k
  npb : ∀ (i j : Nat) (hi : i < ps.length) (hj : j < E.length) (k : Nat), ps[i].ownBlock = some k → E[j].b ≠ k
  npB : ∀ (i : Nat) (hi : i < ps.length) (k : Nat), ps[i].ownBlock = some k → k ≠ B
  wf : ∀ (j : Nat) (h : j < E.length), (Lit.int .i64 E[j].d.id).wf = true
/-- The same, the map no longer than the list. -/
abbrev LE (P : Program) (w : World) (L B : Nat) (E : List Ln) (ps : List Value) : Prop := LEN P w L B E ps E.length
namespace LEN
variable {P : Program} {w w' w1 w2 : World} {L B : Nat} {E : List Ln} {ps : List Value} {N : Nat}
theorem lt (h : LEN P w L B E ps N) : B < w.heap.size := by obtain ⟨D, h1, -⟩ := h.map; exact h1.lt
theorem below (h : LEN P w L B E ps N) (hb : Below w.heap.size w w') : LEN P w' L B E ps N := by
  obtain ⟨D, h1, h2, h3⟩ := h.map
  exact ⟨h.len, ⟨D, h1.kept (grownBy_below hb none) (by simp), h2, h3⟩, fun j hj hj' => (h.cell j hj hj').over hb, fun j hj hj' => (h.own j hj hj').below hb (Nat.le_refl _), h.loB, h.lob, h.lop, h.nb, h.nB, h.np, h.npb, h.npB, h.wf⟩
theorem mono (h : LEN P w L B E ps N) {L' : Nat} (hl : L' ≤ L) : LEN P w L' B E ps N :=
  ⟨h.len, h.map, h.cell, h.own, Nat.le_trans hl h.loB, fun j hj => Nat.le_trans hl (h.lob j hj), fun j hj k hk => Nat.le_trans hl (h.lop j hj k hk), h.nb, h.nB, h.np, h.npb, h.npB, h.wf⟩
/-- What lies at an Id. -/
theorem look (h : LEN P w L B E ps N) {t e : TypeId} (hk : P.underlying 3 = some (.int .i64)) (ht : P.underlying t = some (.map 3 e)) (hz : ∀ w, (zeroValue e).run P w = .ok (.pointer none) w) {id : Int} (hw : (Lit.int .i64 id).wf = true) :
    (Instr.lookup t (.map (some B)) (.int .i64 id) false).run P w = .ok (ptrV (lastP id E)) w := by
  obtain ⟨D, h1, h2, -⟩ := h.map
  obtain ⟨v, q, hr, hv⟩ := h1.lookup (int_keyed hk) ht (hz w) (ptrE_mk none) (keyOf_int_mk hk hw)
  obtain ⟨o, rfl, ho⟩ := ptrE_inv hv
  have e1 : D.atKey (.int .i64 id) .nil = datP o := by
    have := congrArg Prod.fst ho
    exact this
  rw [h2 id hw] at e1
  rw [hr, datP_inj e1]
end LEN
namespace LE
variable {P : Program} {w w' w1 w2 : World} {L B : Nat} {E : List Ln} {ps : List Value}
theorem nil (P : Program) (w : World) : LE P (w.alloc (.map #[] 0)) w.heap.size w.heap.size [] [] :=
  ⟨rfl, ⟨_, World.ownsMap_made _ _ _ _, fun id _ => rfl, fun id _ => rfl⟩, fun j h => by simp at h, fun j h => by simp at h, Nat.le_refl _, fun j h => by simp at h, fun j h => by simp at h, fun i j h => by simp at h, fun j h => by simp at h, fun i j h => by simp at h, fun i j h => by simp at h, fun i h => by simp at h, fun j h => by simp at h⟩
/-- A leaner is put: in a world w1 that has only grown it lies in a block of its own, its list too; then the map is stored into. -/
theorem put (h : LE P w L B E ps) (hk : P.underlying 3 = some (.int .i64)) (hb : Below w.heap.size w w1) {g : Nat} {p : Value} {d : Dp} {pl : Nat} (hg : AtC w1 g 101 (lnRow d p pl (lastP d.id E))) (hgl : w.heap.size ≤ g) (hp : ROwns w1 0 3 p (ic d.bl)) (hpl : ∀ k, p.ownBlock = some k → w.heap.size ≤ k ∧ k ≠ g) (hw : (Lit.int .i64 d.id).wf = true) (hL : L ≤ w.heap.size) :
    ∃ D, w1.ownsMap P 3 ptrE B E.length D ∧ ∀ w2, w2.ownsMap P 3 ptrE B (E.length + 1) (D.put (.int .i64 d.id) (.held g)) → w1.grownBy w2 (some B) → LE P w2 L B (E ++ [⟨pl, d, g⟩]) (ps ++ [p]) := by
  have h1 := h.below hb
  have hBl := h.lt
  have hbl : ∀ (j : Nat) (hj : j < E.length), E[j].b < w.heap.size := fun j hj => (h.cell j hj (by rw [h.len]; exact hj)).lt
  have hpl0 : ∀ (j : Nat) (hj : j < ps.length) (k : Nat), ps[j].ownBlock = some k → k < w.heap.size := fun j hj k hk => ((h.own j (by rw [← h.len]; exact hj) hj).lt k hk).2
  obtain ⟨D, m1, m2, m3⟩ := h1.map
  refine ⟨D, m1, fun w2 hm hgr => ?_⟩
  have hsz := hb.size
  have oth : ∀ k, k < w1.heap.size → k ≠ B → w2.heap[k]? = w1.heap[k]? := fun k hk hne => hgr.block k hk (fun e => hne (by cases e; rfl))
  have hkl : WideAt.IsKeyLit (.int .i64 d.id) := (int_keyed hk).key (keyOf_int_mk hk hw)
  have hlen := h.len
  have at_e : ∀ (j : Nat) (hj : j < (E ++ [(⟨pl, d, g⟩ : Ln)]).length), (∃ h' : j < E.length, (E ++ [(⟨pl, d, g⟩ : Ln)])[j] = E[j] ∧ (E ++ [(⟨pl, d, g⟩ : Ln)]).take j = E.take j) ∨ (j = E.length ∧ (E ++ [(⟨pl, d, g⟩ : Ln)])[j] = ⟨pl, d, g⟩ ∧ (E ++ [(⟨pl, d, g⟩ : Ln)]).take j = E) := fun j hj => by
    by_cases e : j < E.length
    · exact .inl ⟨e, List.getElem_append_left e, List.take_append_of_le_length (Nat.le_of_lt e)⟩
    · have e2 : j = E.length := by simp at hj; omega
      subst e2
      exact .inr ⟨rfl, by simp, by simp⟩
  have at_p : ∀ (j : Nat) (hj : j < (ps ++ [p]).length), (∃ h' : j < ps.length, (ps ++ [p])[j] = ps[j]) ∨ (j = ps.length ∧ (ps ++ [p])[j] = p) := fun j hj => by
    by_cases e : j < ps.length
    · exact .inl ⟨e, List.getElem_append_left e⟩
    · have e2 : j = ps.length := by simp at hj; omega
      subst e2
      exact .inr ⟨rfl, by simp⟩
  refine ⟨by simp [hlen], ⟨_, by rw [List.length_append]; exact hm, fun id hid => ?_, fun id hid => ?_⟩, fun j hj hj' => ?_, fun j hj hj' => ?_, h.loB, fun j hj => ?_, fun j hj k hk => ?_, fun i j hi hj hne => ?_, fun j hj => ?_, fun i j hi hj hne k e1 e2 => ?_, fun i j hi hj k e1 => ?_, fun i hi k e1 => ?_, fun j hj => ?_⟩
  · rw [lastP_snoc]
    by_cases e : d.id = id
    · subst e
      rw [if_pos rfl, atKey_put_same m1.isMap hkl]
      rfl
    · rw [if_neg e, atKey_put_other (fun q => e (by injection q with _ q2; exact q2.symm)), m2 id hid]
  · rw [lastP_snoc]
    by_cases e : d.id = id
    · subst e
      rw [if_pos rfl, has_put_same m1.isMap hkl]
      rfl
    · rw [if_neg e, has_put_other (fun q => e (by injection q with _ q2; exact q2.symm)), m3 id hid]
  · rcases at_e j hj with ⟨h', q1, q2⟩ | ⟨q0, q1, q2⟩
    · rcases at_p j hj' with ⟨h2, r1⟩ | ⟨r0, -⟩
      · rw [q1, q2, r1]
        exact (oth _ (by have := hbl j h'; omega) (h.nB j h')).trans (h1.cell j h' h2)
      · omega
    · rcases at_p j hj' with ⟨h2, -⟩ | ⟨-, r1⟩
      · omega
      · rw [q1, q2, r1]
        exact (oth g hg.lt (by omega)).trans hg
  · rcases at_e j hj with ⟨h', q1, -⟩ | ⟨q0, q1, -⟩
    · rcases at_p j hj' with ⟨h2, r1⟩ | ⟨r0, -⟩
      · rw [q1, r1]
        exact (h1.own j h' h2).of_heap fun k hk => oth k (by have := hpl0 j h2 k hk; omega) (h.npB j h2 k hk)
      · omega
    · rcases at_p j hj' with ⟨h2, -⟩ | ⟨-, r1⟩
      · omega
      · rw [q1, r1]
        exact hp.of_heap fun k hk => oth k (hp.lt k hk).2 (by have := (hpl k hk).1; omega)
  · rcases at_e j hj with ⟨h', q1, -⟩ | ⟨-, q1, -⟩
    · rw [q1]; exact h.lob j h'
    · rw [q1]; show L ≤ g; omega
  · rcases at_p j hj with ⟨h2, r1⟩ | ⟨-, r1⟩
    · rw [r1] at hk; exact h.lop j h2 k hk
    · rw [r1] at hk; have := (hpl k hk).1; omega
  · rcases at_e i hi with ⟨h1', q1, -⟩ | ⟨q0, q1, -⟩ <;> rcases at_e j hj with ⟨h2', r1, -⟩ | ⟨r0, r1, -⟩ <;> rw [q1, r1]
    · exact h.nb i j h1' h2' hne
    · have := hbl i h1'; show E[i].b ≠ g; omega
    · have := hbl j h2'; show g ≠ E[j].b; omega
    · omega
  · rcases at_e j hj with ⟨h', q1, -⟩ | ⟨-, q1, -⟩
    · rw [q1]; exact h.nB j h'
    · rw [q1]; show g ≠ B; omega
  · rcases at_p i hi with ⟨h1', q1⟩ | ⟨q0, q1⟩ <;> rcases at_p j hj with ⟨h2', r1⟩ | ⟨r0, r1⟩ <;> rw [q1] at e1 <;> rw [r1] at e2
    · exact h.np i j h1' h2' hne k e1 e2
    · have := hpl0 i h1' k e1; have := (hpl k e2).1; omega
    · have := hpl0 j h2' k e2; have := (hpl k e1).1; omega
    · omega
  · rcases at_p i hi with ⟨h1', q1⟩ | ⟨q0, q1⟩ <;> rcases at_e j hj with ⟨h2', r1, -⟩ | ⟨r0, r1, -⟩ <;> rw [q1] at e1 <;> rw [r1]
    · exact h.npb i j h1' h2' k e1
    · have := hpl0 i h1' k e1; show g ≠ k; omega
    · have := (hpl k e1).1; have := hbl j h2'; show E[j].b ≠ k; omega
    · exact fun e => (hpl k e1).2 e.symm
  · rcases at_p i hi with ⟨h1', q1⟩ | ⟨q0, q1⟩ <;> rw [q1] at e1
    · exact h.npB i h1' k e1
    · have := (hpl k e1).1; omega
  · rcases at_e j hj with ⟨h', q1, -⟩ | ⟨-, q1, -⟩
    · rw [q1]; exact h.wf j h'
    · rw [q1]; exact hw
end LE
end Go.Proofs.YtggjillpfclajaaGreat.Kit
/- Places are compared: cmp.Compare at ints, and the closure of leaners.inOrder. -/
namespace Go.Proofs.YtggjillpfclajaaGreat
open Go.RowKit Kit
def cmpI (x y : Int) : Int := if x < y then -1 else if y < x then 1 else 0
theorem isNaN_any (x : Int) (w : World) : Calls Tryz.prog 100 #[.int .i64 x] w fun e w' => e = .returned (.bool false) ∧ w' = w := by
  go_enter Tryz.func100, Tryz.ntmps100
  go_wp2
  go_ret
  simp
theorem compare_any (x y : Int) (w : World) : Calls Tryz.prog 92 #[.int .i64 x, .int .i64 y] w fun e w' => e = .returned (.int .i64 (cmpI x y)) ∧ w' = w := by
  unfold cmpI
  go_enter Tryz.func92, Tryz.ntmps92
  by_cases h : x < y
  · go_wp2_with (go_at_call 100; refine (isNaN_any _ _).mono ?_; rintro e w1 ⟨rfl, rfl⟩)
    go_ret
    simp
  · by_cases h2 : y < x
    · go_wp2_with (go_at_call 100; refine (isNaN_any _ _).mono ?_; rintro e w1 ⟨rfl, rfl⟩)
      go_ret
      simp
    · go_wp2_with (go_at_call 100; refine (isNaN_any _ _).mono ?_; rintro e w1 ⟨rfl, rfl⟩)
      go_ret
      simp
theorem byPlace_any (g1 g2 : Nat) (x y : Int) (w : World) (h1 : w.cell? ⟨g1, 11, none⟩ = some (.int .i64 x)) (h2 : w.cell? ⟨g2, 11, none⟩ = some (.int .i64 y)) :
    Calls Tryz.prog 91 #[.pointer (some ⟨g1, 0, none⟩), .pointer (some ⟨g2, 0, none⟩)] w fun e w' => e = .returned (.int .i64 (cmpI x y)) ∧ ∃ q, w' = w.drewN q := by
  go_enter Tryz.func91, Tryz.ntmps91
  go_wp2
  go_quiet ((go_at_call 92; exact Calls.quiet_of_same (compare_any _ _ _)))
  go_wp2_with fail
  go_ret
  exact ⟨rfl, _, rfl⟩
end Go.Proofs.YtggjillpfclajaaGreat
/- Library contracts laid at this translation by the shelf (its own tool, plain mode). -/
namespace Go.Proofs.YtggjillpfclajaaGreat
open Go.Shelf
def Tryz.sortL_ren : Go.Shelf.Ren := ⟨fun | 6 => 90 | 15 => 99 | 14 => 98 | 28 => 112 | 29 => 113 | 20 => 104 | 21 => 105 | 22 => 106 | 23 => 107 | 24 => 108 | 25 => 109 | 26 => 110 | 27 => 111 | 46 => 114 | 47 => 115 | 48 => 116 | 49 => 117 | 50 => 118 | 57 => 119 | n => n, fun | 22 => 124 | 24 => 98 | 25 => 127 | 3 => 3 | 39 => 136 | 0 => 0 | 53 => 152 | 55 => 154 | 4 => 4 | 46 => 145 | 45 => 144 | 50 => 149 | 5 => 5 | 9 => 9 | 66 => 155 | 70 => 159 | 76 => 161 | 77 => 162 | n => n, fun | n => n⟩
theorem Tryz.sortL : Go.Proofs.SlLaysF.n6 Tryz.prog Tryz.sortL_ren := {
  mixed := by kernel_rfl
  f6 := ⟨Tryz.f90.name, by decide, Tryz.func90.trans (congrArg some (by kernel_rfl))⟩
  f14 := ⟨Tryz.f98.name, by decide, Tryz.func98.trans (congrArg some (by kernel_rfl))⟩
  f15 := Tryz.func99.trans (congrArg some (by kernel_rfl))
  f20 := ⟨Tryz.f104.name, by decide, Tryz.func104.trans (congrArg some (by kernel_rfl))⟩
  f21 := ⟨Tryz.f105.name, by decide, Tryz.func105.trans (congrArg some (by kernel_rfl))⟩
  f22 := ⟨Tryz.f106.name, by decide, Tryz.func106.trans (congrArg some (by kernel_rfl))⟩
  f23 := ⟨Tryz.f107.name, by decide, Tryz.func107.trans (congrArg some (by kernel_rfl))⟩
  f24 := ⟨Tryz.f108.name, by decide, Tryz.func108.trans (congrArg some (by kernel_rfl))⟩
  f25 := ⟨Tryz.f109.name, by decide, Tryz.func109.trans (congrArg some (by kernel_rfl))⟩
  f26 := ⟨Tryz.f110.name, by decide, Tryz.func110.trans (congrArg some (by kernel_rfl))⟩
  f27 := ⟨Tryz.f111.name, by decide, Tryz.func111.trans (congrArg some (by kernel_rfl))⟩
  f28 := Tryz.func112.trans (congrArg some (by kernel_rfl))
  f29 := Tryz.func113.trans (congrArg some (by kernel_rfl))
  f46 := ⟨Tryz.f114.name, by decide, Tryz.func114.trans (congrArg some (by kernel_rfl))⟩
  f47 := Tryz.func115.trans (congrArg some (by kernel_rfl))
  f48 := Tryz.func116.trans (congrArg some (by kernel_rfl))
  f49 := ⟨Tryz.f117.name, by decide, Tryz.func117.trans (congrArg some (by kernel_rfl))⟩
  f50 := ⟨Tryz.f118.name, by decide, Tryz.func118.trans (congrArg some (by kernel_rfl))⟩
  f57 := ⟨Tryz.f119.name, by decide, Tryz.func119.trans (congrArg some (by kernel_rfl))⟩
  t0 := Tryz.underlying0
  a0 := Tryz.isAgg0
  z0 := Tryz.sizeOf0
  v0 := Tryz.zeroValue0
  t3 := Tryz.underlying3
  a3 := Tryz.isAgg3
  z3 := Tryz.sizeOf3
  v3 := Tryz.zeroValue3
  t4 := Tryz.underlying4
  a4 := Tryz.isAgg4
  z4 := Tryz.sizeOf4
  v4 := Tryz.zeroValue4
  t5 := Tryz.underlying5
  a5 := Tryz.isAgg5
  z5 := Tryz.sizeOf5
  v5 := Tryz.zeroValue5
  t9 := Tryz.underlying9
  a9 := Tryz.isAgg9
  z9 := Tryz.sizeOf9
  v9 := Tryz.zeroValue9
  t22 := Tryz.underlying124
  a22 := Tryz.isAgg124
  z22 := Tryz.sizeOf124
  v22 := Tryz.zeroValue124
  a24 := Tryz.isAgg98
  z24 := Tryz.sizeOf98
  t25 := Tryz.underlying127
  a25 := Tryz.isAgg127
  z25 := Tryz.sizeOf127
  v25 := Tryz.zeroValue127
  t39 := Tryz.underlying136
  a39 := Tryz.isAgg136
  z39 := Tryz.sizeOf136
  v39 := Tryz.zeroValue136
  t45 := Tryz.underlying144
  a45 := Tryz.isAgg144
  z45 := Tryz.sizeOf144
  v45 := Tryz.zeroValue144
  t46 := Tryz.underlying145
  a46 := Tryz.isAgg145
  z46 := Tryz.sizeOf145
  v46 := Tryz.zeroValue145
  t50 := Tryz.underlying149
  a50 := Tryz.isAgg149
  z50 := Tryz.sizeOf149
  v50 := Tryz.zeroValue149
  t53 := Tryz.underlying152
  a53 := Tryz.isAgg152
  z53 := Tryz.sizeOf152
  v53 := Tryz.zeroValue152
  t55 := Tryz.underlying154
  a55 := Tryz.isAgg154
  z55 := Tryz.sizeOf154
  v55 := Tryz.zeroValue154
  t66 := Tryz.underlying155
  a66 := Tryz.isAgg155
  z66 := Tryz.sizeOf155
  v66 := Tryz.zeroValue155
  t70 := Tryz.underlying159
  a70 := Tryz.isAgg159
  z70 := Tryz.sizeOf159
  v70 := Tryz.zeroValue159
  t76 := Tryz.underlying161
  a76 := Tryz.isAgg161
  z76 := Tryz.sizeOf161
  v76 := Tryz.zeroValue161
  t77 := Tryz.underlying162
  a77 := Tryz.isAgg162
  z77 := Tryz.sizeOf162
  v77 := Tryz.zeroValue162 }
end Go.Proofs.YtggjillpfclajaaGreat
