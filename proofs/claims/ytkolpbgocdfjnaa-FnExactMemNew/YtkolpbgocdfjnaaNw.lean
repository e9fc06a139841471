/- spec.MemNew and impl.MemNew by their contracts. -/
import Derived.Test.YtkolpbgocdfjnaaCs
import Derived.Test.YtkolpbgocdfjnaaCt
import Derived.Test.YtkolpbgocdfjnaaDd
import Derived.Test.YtkolpbgocdfjnaaBNew
namespace Go.Proofs.Ytkolpbgocdfjnaa.Kit
open Go.RowKit
theorem DO.bound {w : World} {S : Nat → Prop} {u v iv bv : Value} {xs ys : List Bool} {is : List Ino} {bs : List Blk} (h : DO w S u v iv bv xs ys is bs) : DO w (fun k => S k ∧ k < w.heap.size) u v iv bv xs ys is bs := by
  obtain ⟨T1, T2, T3, ti, tb, k1, k2, k3, k4, k5, k6, k7⟩ := h
  refine ⟨fun k => T1 k ∧ k < w.heap.size, fun k => T2 k ∧ k < w.heap.size, fun k => T3 k ∧ k < w.heap.size, ti, tb, k1, fun k hk => ⟨k2 k hk, hk.elim (fun e => (k1.a.lt k e).2) (fun e => (k1.b.lt k e).2)⟩, k3.bound, k4.bound, fun k hk => ⟨fun e => (k5 k hk.1).1 e.1, fun e => (k5 k hk.1).2 e.1⟩, fun k hk e => k6 k hk.1 e.1, fun k hk => ?_⟩
  rcases hk with hk | hk | hk
  · exact ⟨k7 k (.inl hk.1), hk.2⟩
  · exact ⟨k7 k (.inr (.inl hk.1)), hk.2⟩
  · exact ⟨k7 k (.inr (.inr hk.1)), hk.2⟩
/-- A copied disk. -/
def MkD (k : Nat) (xs ys : List Bool) (is : List Ino) (bs : List Blk) : Mk := .val [k] (fun lo hi w v => ∃ a1 c1 a2 c2 a3 c3 a4 c4, v = .agg #[.slice a1 xs.length c1, .slice a2 ys.length c2, .slice a3 is.length c3, .slice a4 bs.length c4] ∧ DO w (fun q => lo ≤ q ∧ q < hi) (.slice a1 xs.length c1) (.slice a2 ys.length c2) (.slice a3 is.length c3) (.slice a4 bs.length c4) xs ys is bs)
  (fun _ _ _ _ _ h hb => by obtain ⟨a1, c1, a2, c2, a3, c3, a4, c4, h1, h2⟩ := h; exact ⟨a1, c1, a2, c2, a3, c3, a4, c4, h1, h2.below hb (Nat.le_refl _)⟩)
/-- A made list. -/
def MkS (n : Nat) (T : TypeId) (cs : Array Value) : Mk := .val [] (fun lo hi w v => v = .slice (some ⟨lo, 0, none⟩) n n ∧ hi = lo + 1 ∧ AtC w lo T cs) (fun _ _ _ _ _ h hb => ⟨h.1, h.2.1, h.2.2.over hb⟩)
/-- A memory of a disk and flags. -/
def MkM (k l n1 n2 n3 n4 n5 : Nat) : Mk := ⟨[k, l], fun _ _ _ v x => ∃ a1 c1 a2 c2 a3 c3 a4 c4 a5 c5, x k = .agg #[.slice a1 n1 c1, .slice a2 n2 c2, .slice a3 n3 c3, .slice a4 n4 c4] ∧ x l = .slice a5 n5 c5 ∧ v = .agg #[.slice a1 n1 c1, .slice a2 n2 c2, .slice a3 n3 c3, .slice a4 n4 c4, .slice a5 n5 c5, .slice none 0 0, .int .i64 1], fun _ _ _ _ _ _ h _ => h, fun _ _ _ _ x x' e h => by
  obtain ⟨a1, c1, a2, c2, a3, c3, a4, c4, a5, c5, h1, h2, h3⟩ := h
  exact ⟨a1, c1, a2, c2, a3, c3, a4, c4, a5, c5, by rw [← e k (by simp), h1], by rw [← e l (by simp), h2], h3⟩⟩
/-- The memory of a disk. -/
def newM (xs ys : List Bool) (is : List Ino) (bs : List Blk) : MD := ⟨xs, ys, is, bs, List.replicate 21 false, [], 1⟩
def fl21 : Array Value := (fc (List.replicate 21 false)).toArray
/-- The cells of no memory. -/
def noM : Array Value := #[.slice none 0 0, .slice none 0 0, .slice none 0 0, .slice none 0 0, .slice none 0 0, .slice none 0 0, .int .i64 0]
theorem newM_owns {w : World} {lo hi g : Nat} {u v iv bv : Value} {xs ys : List Bool} {is : List Ino} {bs : List Blk} (h : DO w (fun q => lo ≤ q ∧ q < hi) u v iv bv xs ys is bs) (hg : AtC w g 4 fl21) (ha : hi ≤ g ∨ g + 1 ≤ lo) {B : Nat} (hB : B ≤ lo) (hBg : B ≤ g) :
    MO w (fun q => B ≤ q) u v iv bv (.slice (some ⟨g, 0, none⟩) 21 21) (.slice none 0 0) (newM xs ys is bs) := by
  refine ⟨_, fun q => q = g, fun _ => False, [], h, ?_, fun k hk => ?_, GN.nil _ _, fun k hk => ⟨fun e => by omega, id⟩, fun k hk e => e, fun k hk => ?_⟩
  · exact ⟨by rfl, .inr ⟨g, 21, fl21, rfl, Nat.zero_le _, hg, Nat.le_refl _, by unfold maxLen; decide, rfl, rfl⟩⟩
  · simpa [Value.ownBlock] using hk.symm
  · rcases hk with hk | hk | hk
    · omega
    · omega
    · exact hk.elim
end Go.Proofs.Ytkolpbgocdfjnaa.Kit
namespace Go.Proofs.Ytkolpbgocdfjnaa
open Go.RowKit Kit
theorem make21 (w : World) : (Instr.makeSlice 22 (.int .i64 21) (.int .i64 21)).run Try.prog w = .ok (.slice (some ⟨w.heap.size, 0, none⟩) 21 21) (w.alloc (.cells fl21 4)) := by
  have := make_fl 21 (by decide) w
  rw [made_eq _ 21 (fc (List.replicate 21 false)) (by simp [fc])] at this
  exact this
set_option maxRecDepth 100000 in
set_option maxHeartbeats 1600000 in
theorem specNew_any (u v iv bv : Value) (xs ys : List Bool) (is : List Ino) (bs : List Blk) (w : World) (h : DR w u v iv bv xs ys is bs) (hB : Big 1048576 xs ys is bs) :
    Calls Try.prog 6 #[.agg #[u, v, iv, bv]] w fun e w' => ∃ u' v' i' b' d' p', e = .returned (.agg #[u', v', i', b', d', p', .int .i64 1]) ∧ MO w' (fun k => w.heap.size ≤ k) u' v' i' b' d' p' (newM xs ys is bs) ∧ Below w.heap.size w w' := by
  have H := hide h
  have HG := hide hB
  have mk := make21
  obtain ⟨a1, c1, a2, c2, a3, c3, a4, c4, rfl, rfl, rfl, rfl⟩ := h.form
  clear hB h
  go_enter Try.func6, Try.ntmps6
  go_wp2_with fail
  have HC : Hid (∀ W, Below ((w.alloc (.cells #[.slice a1 xs.length c1, .slice a2 ys.length c2, .slice a3 is.length c3, .slice a4 bs.length c4] 34)).alloc (.cells noM 37)).drew.heap.size ((w.alloc (.cells #[.slice a1 xs.length c1, .slice a2 ys.length c2, .slice a3 is.length c3, .slice a4 bs.length c4] 34)).alloc (.cells noM 37)).drew W → AtC W w.heap.size 34 #[.slice a1 xs.length c1, .slice a2 ys.length c2, .slice a3 is.length c3, .slice a4 bs.length c4] ∧ AtC W (w.heap.size + 1) 37 noM ∧ Below w.heap.size w W ∧ w.heap.size + 1 + 1 ≤ W.heap.size) := fun W b => by
    have b2 := of_drew b
    have k1 := (AtC.new (w.alloc (.cells #[.slice a1 xs.length c1, .slice a2 ys.length c2, .slice a3 is.length c3, .slice a4 bs.length c4] 34)) 37 noM).over b2
    have sz := b2.size
    simp at k1 sz
    exact ⟨((AtC.new w 34 _).alloc _).over b2, k1, (((Below.refl _ w).alloc (Nat.le_refl _) _).alloc (by simp) _).trans (b2.mono (by simp; omega)), sz⟩
  refine wp_region_frm (by kernel_rfl) [0, 1, 2, 3] [4] (fun i => match i with | 0 => .const [] (.agg #[.slice a1 xs.length c1, .slice a2 ys.length c2, .slice a3 is.length c3, .slice a4 bs.length c4]) | 1 => MkD 0 xs ys is bs | 2 => MkS 21 4 fl21 | 3 => MkM 1 2 xs.length ys.length is.length bs.length 21 | _ => .triv) (fun x => ⟨#[Value.agg #[Value.slice a1 xs.length c1, Value.slice a2 ys.length c2, Value.slice a3 is.length c3, Value.slice a4 bs.length c4], Value.pointer (some { block := w.heap.size, off := 0 }), Value.pointer (some { block := w.heap.size + 1, off := 0 }), x 0, x 1, x 2, x 3], []⟩) (fun i => match i with | 0 => undef | 1 => undef | 2 => undef | 3 => undef | _ => undef) rfl (by kernel_rfl) (by kernel_rfl) (by kernel_rfl) rfl ?_ ?_
  · intro jo hj so x iw W hd hp K hK
    simp only [List.mem_cons, List.not_mem_nil, or_false] at hj
    rcases hj with rfl | rfl | rfl | rfl
    · refine wpOp_step (o := _) rfl fun K' hK' => ?_
      have HK : Hid (∀ v W', Below W.heap.size W W' → ((Mk.const [] (.agg #[.slice a1 xs.length c1, .slice a2 ys.length c2, .slice a3 is.length c3, .slice a4 bs.length c4]) : Mk)).P W.heap.size W'.heap.size W' v (upd x 0 v) → K' ⟨#[Value.agg #[Value.slice a1 xs.length c1, Value.slice a2 ys.length c2, Value.slice a3 is.length c3, Value.slice a4 bs.length c4], Value.pointer (some { block := w.heap.size, off := 0 }), Value.pointer (some { block := w.heap.size + 1, off := 0 }), v, x 1, x 2, x 3], []⟩ W') := fun v W' h1 h2 => hK' _ _ (hK v W' h1 h2)
      have k0 := (HC.out W hp.bel).1
      have q0 : W.cell? ⟨w.heap.size, 0, none⟩ = some (.slice a1 xs.length c1) := k0.cell 0
      have q1 : W.cell? ⟨w.heap.size, 1, none⟩ = some (.slice a2 ys.length c2) := k0.cell 1
      have q2 : W.cell? ⟨w.heap.size, 2, none⟩ = some (.slice a3 is.length c3) := k0.cell 2
      have q3 : W.cell? ⟨w.heap.size, 3, none⟩ = some (.slice a4 bs.length c4) := k0.cell 3
      clear k0
      clear hK hK' hp hd
      go_simp
      exact HK.out _ _ (Below.refl _ _) rfl
    · refine wpOp_step (o := _) rfl fun K' hK' => ?_
      have HK : Hid (∀ v W', Below W.heap.size W W' → (MkD 0 xs ys is bs).P W.heap.size W'.heap.size W' v (upd x 1 v) → K' ⟨#[Value.agg #[Value.slice a1 xs.length c1, Value.slice a2 ys.length c2, Value.slice a3 is.length c3, Value.slice a4 bs.length c4], Value.pointer (some { block := w.heap.size, off := 0 }), Value.pointer (some { block := w.heap.size + 1, off := 0 }), x 0, v, x 2, x 3], []⟩ W') := fun v W' h1 h2 => hK' _ _ (hK v W' h1 h2)
      have e0 : x 0 = .agg #[.slice a1 xs.length c1, .slice a2 ys.length c2, .slice a3 is.length c3, .slice a4 bs.length c4] := hp.post 0 (hd 0 (show 0 ∈ [0] from by decide))
      have bl := (HC.out W hp.bel).2.2.1
      clear hK hK' hp hd
      simp only [e0] at HK ⊢
      go_simp
      refine (specCopy_any _ _ _ _ xs ys is bs W (H.out.below bl (Nat.le_refl _)) HG.out).mono ?_
      rintro e w6 ⟨p1, p2, p3, p4, rfl, O6, B6⟩
      obtain ⟨b1, d1, b2, d2, b3, d3, b4, d4, rfl, rfl, rfl, rfl⟩ := O6.dr.form
      go_simp
      exact HK.out _ _ B6 ⟨b1, d1, b2, d2, b3, d3, b4, d4, rfl, O6.bound⟩
    · refine wpOp_step (o := _) rfl fun K' hK' => ?_
      have HK : Hid (∀ v W', Below W.heap.size W W' → (MkS 21 4 fl21).P W.heap.size W'.heap.size W' v (upd x 2 v) → K' ⟨#[Value.agg #[Value.slice a1 xs.length c1, Value.slice a2 ys.length c2, Value.slice a3 is.length c3, Value.slice a4 bs.length c4], Value.pointer (some { block := w.heap.size, off := 0 }), Value.pointer (some { block := w.heap.size + 1, off := 0 }), x 0, x 1, v, x 3], []⟩ W') := fun v W' h1 h2 => hK' _ _ (hK v W' h1 h2)
      clear hK hK' hp hd
      go_simp
      exact HK.out _ _ ((Below.refl _ W).alloc (Nat.le_refl _) _) ⟨rfl, by simp, AtC.new W 4 _⟩
    · refine wpOp_step (o := _) rfl fun K' hK' => ?_
      have HK : Hid (∀ v W', Below W.heap.size W W' → (MkM 1 2 xs.length ys.length is.length bs.length 21).P W.heap.size W'.heap.size W' v (upd x 3 v) → K' ⟨#[Value.agg #[Value.slice a1 xs.length c1, Value.slice a2 ys.length c2, Value.slice a3 is.length c3, Value.slice a4 bs.length c4], Value.pointer (some { block := w.heap.size, off := 0 }), Value.pointer (some { block := w.heap.size + 1, off := 0 }), x 0, x 1, x 2, v], []⟩ W') := fun v W' h1 h2 => hK' _ _ (hK v W' h1 h2)
      have e1 : ∃ a1 c1 a2 c2 a3 c3 a4 c4, x 1 = .agg #[.slice a1 xs.length c1, .slice a2 ys.length c2, .slice a3 is.length c3, .slice a4 bs.length c4] ∧ DO W (fun q => (iw 1).1 ≤ q ∧ q < (iw 1).2) (.slice a1 xs.length c1) (.slice a2 ys.length c2) (.slice a3 is.length c3) (.slice a4 bs.length c4) xs ys is bs := hp.post 1 (hd 1 (show 1 ∈ [1, 2] from by decide))
      have e2 : x 2 = .slice (some ⟨(iw 2).1, 0, none⟩) 21 21 ∧ (iw 2).2 = (iw 2).1 + 1 ∧ AtC W (iw 2).1 4 fl21 := hp.post 2 (hd 2 (show 2 ∈ [1, 2] from by decide))
      clear hK hK' hp hd
      obtain ⟨b1, d1, b2, d2, b3, d3, b4, d4, e1, -⟩ := e1
      replace e2 := e2.1
      have HE := hide (And.intro e1 e2)
      simp only [e1, e2] at HK ⊢
      clear e1 e2
      go_simp
      exact HK.out _ _ (Below.refl _ _) ⟨b1, d1, b2, d2, b3, d3, b4, d4, _, _, by rw [upd_ne _ _ _ _ (by decide)]; exact HE.out.1, by rw [upd_ne _ _ _ _ (by decide)]; exact HE.out.2, rfl⟩
  · intro x iw W hp
    obtain ⟨b1, d1, b2, d2, b3, d3, b4, d4, e1, O1⟩ := hp.post 1 (by decide)
    obtain ⟨e2, z2, A2⟩ := hp.post 2 (by decide)
    obtain ⟨g1, h1, g2, h2, g3, h3, g4, h4, g5, h5, f1, f2, e3⟩ := hp.post 3 (by decide)
    rw [e1] at f1
    rw [e2] at f2
    simp only [Value.agg.injEq, Array.mk.injEq, List.cons.injEq, Value.slice.injEq, true_and, and_true] at f1 f2
    obtain ⟨⟨rfl, rfl⟩, ⟨rfl, rfl⟩, ⟨rfl, rfl⟩, rfl, rfl⟩ := f1
    obtain ⟨rfl, rfl⟩ := f2
    have p12 := hp.apart 1 (by decide) 2 (by decide) (by decide)
    have l1 := hp.lo 1 (by decide)
    have l2 := hp.lo 2 (by decide)
    simp [World.drew] at l1 l2
    obtain ⟨-, kR, bel, -⟩ := HC.out W hp.bel
    have hM := newM_owns O1 A2 (by omega) (B := w.heap.size + 1 + 1) l1.1 l2.1
    have r0 : W.cell? ⟨w.heap.size + 1, 0, none⟩ = some (.slice none 0 0) := kR.cell 0
    have r1 : W.cell? ⟨w.heap.size + 1, 1, none⟩ = some (.slice none 0 0) := kR.cell 1
    have r2 : W.cell? ⟨w.heap.size + 1, 2, none⟩ = some (.slice none 0 0) := kR.cell 2
    have r3 : W.cell? ⟨w.heap.size + 1, 3, none⟩ = some (.slice none 0 0) := kR.cell 3
    have r4 : W.cell? ⟨w.heap.size + 1, 4, none⟩ = some (.slice none 0 0) := kR.cell 4
    have r5 : W.cell? ⟨w.heap.size + 1, 5, none⟩ = some (.slice none 0 0) := kR.cell 5
    have r6 : W.cell? ⟨w.heap.size + 1, 6, none⟩ = some (.int .i64 0) := kR.cell 6
    have v0 := kR.frozen 0
    have v1 := kR.frozen 1
    have v2 := kR.frozen 2
    have v3 := kR.frozen 3
    have v4 := kR.frozen 4
    have v5 := kR.frozen 5
    have v6 := kR.frozen 6
    generalize (iw 2).1 = g at *
    have HM := hide (And.intro hM bel)
    clear hp O1 A2 z2 p12 l1 l2 kR bel hM HC mk
    simp only [e1, e2, e3]
    clear e1 e2 e3
    go_wp2_with fail
    rw [List.filterMap_nil]
    go_wp2
    refine bodyPost_ret (v := .agg #[.slice b1 xs.length d1, .slice b2 ys.length d2, .slice b3 is.length d3, .slice b4 bs.length d4, .slice (some ⟨g, 0, none⟩) 21 21, .slice none 0 0, .int .i64 1]) (by simp [results, go_sem, r0, r1, r2, r3, r4, r5, r6]) rfl ⟨_, _, _, _, _, _, rfl, ?_, ?_⟩
    · exact (HM.out.1.of_heap fun k hk _ => ((((((heap_setCell_other _ ⟨w.heap.size + 1, 6, none⟩ k _ (by show k ≠ w.heap.size + 1; omega)).trans (heap_setCell_other _ ⟨w.heap.size + 1, 5, none⟩ k _ (by show k ≠ w.heap.size + 1; omega))).trans (heap_setCell_other _ ⟨w.heap.size + 1, 4, none⟩ k _ (by show k ≠ w.heap.size + 1; omega))).trans (heap_setCell_other _ ⟨w.heap.size + 1, 3, none⟩ k _ (by show k ≠ w.heap.size + 1; omega))).trans (heap_setCell_other _ ⟨w.heap.size + 1, 2, none⟩ k _ (by show k ≠ w.heap.size + 1; omega))).trans (heap_setCell_other _ ⟨w.heap.size + 1, 1, none⟩ k _ (by show k ≠ w.heap.size + 1; omega))).trans (heap_setCell_other _ ⟨w.heap.size + 1, 0, none⟩ k _ (by show k ≠ w.heap.size + 1; omega))).mono fun k hk => by omega
    · exact (((((((HM.out.2).setCell (by simp) _).setCell (by simp) _).setCell (by simp) _).setCell (by simp) _).setCell (by simp) _).setCell (by simp) _).setCell (by simp) _
set_option maxRecDepth 100000 in
set_option maxHeartbeats 1600000 in
theorem implNew_any (u v iv bv : Value) (xs ys : List Bool) (is : List Ino) (bs : List Blk) (w : World) (h : DR w u v iv bv xs ys is bs) (hB : Big 1048576 xs ys is bs) :
    Calls Try.prog 8 #[.agg #[u, v, iv, bv]] w fun e w' => ∃ u' v' i' b' d' p', e = .returned (.agg #[u', v', i', b', d', p', .int .i64 1]) ∧ MO w' (fun k => w.heap.size ≤ k) u' v' i' b' d' p' (newM xs ys is bs) ∧ Below w.heap.size w w' := by
  have H := hide h
  have HG := hide hB
  have mk := make21
  obtain ⟨a1, c1, a2, c2, a3, c3, a4, c4, rfl, rfl, rfl, rfl⟩ := h.form
  clear hB h
  go_enter Try.func8, Try.ntmps8
  go_wp2_with fail
  have HC : Hid (∀ W, Below ((w.alloc (.cells #[.slice a1 xs.length c1, .slice a2 ys.length c2, .slice a3 is.length c3, .slice a4 bs.length c4] 34)).alloc (.cells noM 37)).drew.heap.size ((w.alloc (.cells #[.slice a1 xs.length c1, .slice a2 ys.length c2, .slice a3 is.length c3, .slice a4 bs.length c4] 34)).alloc (.cells noM 37)).drew W → AtC W w.heap.size 34 #[.slice a1 xs.length c1, .slice a2 ys.length c2, .slice a3 is.length c3, .slice a4 bs.length c4] ∧ AtC W (w.heap.size + 1) 37 noM ∧ Below w.heap.size w W ∧ w.heap.size + 1 + 1 ≤ W.heap.size) := fun W b => by
    have b2 := of_drew b
    have k1 := (AtC.new (w.alloc (.cells #[.slice a1 xs.length c1, .slice a2 ys.length c2, .slice a3 is.length c3, .slice a4 bs.length c4] 34)) 37 noM).over b2
    have sz := b2.size
    simp at k1 sz
    exact ⟨((AtC.new w 34 _).alloc _).over b2, k1, (((Below.refl _ w).alloc (Nat.le_refl _) _).alloc (by simp) _).trans (b2.mono (by simp; omega)), sz⟩
  refine wp_region_frm (by kernel_rfl) [0, 1, 2, 3] [4] (fun i => match i with | 0 => .const [] (.agg #[.slice a1 xs.length c1, .slice a2 ys.length c2, .slice a3 is.length c3, .slice a4 bs.length c4]) | 1 => MkD 0 xs ys is bs | 2 => MkS 21 4 fl21 | 3 => MkM 1 2 xs.length ys.length is.length bs.length 21 | _ => .triv) (fun x => ⟨#[Value.agg #[Value.slice a1 xs.length c1, Value.slice a2 ys.length c2, Value.slice a3 is.length c3, Value.slice a4 bs.length c4], Value.pointer (some { block := w.heap.size, off := 0 }), Value.pointer (some { block := w.heap.size + 1, off := 0 }), x 0, x 1, x 2, x 3], []⟩) (fun i => match i with | 0 => undef | 1 => undef | 2 => undef | 3 => undef | _ => undef) rfl (by kernel_rfl) (by kernel_rfl) (by kernel_rfl) rfl ?_ ?_
  · intro jo hj so x iw W hd hp K hK
    simp only [List.mem_cons, List.not_mem_nil, or_false] at hj
    rcases hj with rfl | rfl | rfl | rfl
    · refine wpOp_step (o := _) rfl fun K' hK' => ?_
      have HK : Hid (∀ v W', Below W.heap.size W W' → ((Mk.const [] (.agg #[.slice a1 xs.length c1, .slice a2 ys.length c2, .slice a3 is.length c3, .slice a4 bs.length c4]) : Mk)).P W.heap.size W'.heap.size W' v (upd x 0 v) → K' ⟨#[Value.agg #[Value.slice a1 xs.length c1, Value.slice a2 ys.length c2, Value.slice a3 is.length c3, Value.slice a4 bs.length c4], Value.pointer (some { block := w.heap.size, off := 0 }), Value.pointer (some { block := w.heap.size + 1, off := 0 }), v, x 1, x 2, x 3], []⟩ W') := fun v W' h1 h2 => hK' _ _ (hK v W' h1 h2)
      have k0 := (HC.out W hp.bel).1
      have q0 : W.cell? ⟨w.heap.size, 0, none⟩ = some (.slice a1 xs.length c1) := k0.cell 0
      have q1 : W.cell? ⟨w.heap.size, 1, none⟩ = some (.slice a2 ys.length c2) := k0.cell 1
      have q2 : W.cell? ⟨w.heap.size, 2, none⟩ = some (.slice a3 is.length c3) := k0.cell 2
      have q3 : W.cell? ⟨w.heap.size, 3, none⟩ = some (.slice a4 bs.length c4) := k0.cell 3
      clear k0
      clear hK hK' hp hd
      go_simp
      exact HK.out _ _ (Below.refl _ _) rfl
    · refine wpOp_step (o := _) rfl fun K' hK' => ?_
      have HK : Hid (∀ v W', Below W.heap.size W W' → (MkD 0 xs ys is bs).P W.heap.size W'.heap.size W' v (upd x 1 v) → K' ⟨#[Value.agg #[Value.slice a1 xs.length c1, Value.slice a2 ys.length c2, Value.slice a3 is.length c3, Value.slice a4 bs.length c4], Value.pointer (some { block := w.heap.size, off := 0 }), Value.pointer (some { block := w.heap.size + 1, off := 0 }), x 0, v, x 2, x 3], []⟩ W') := fun v W' h1 h2 => hK' _ _ (hK v W' h1 h2)
      have e0 : x 0 = .agg #[.slice a1 xs.length c1, .slice a2 ys.length c2, .slice a3 is.length c3, .slice a4 bs.length c4] := hp.post 0 (hd 0 (show 0 ∈ [0] from by decide))
      have bl := (HC.out W hp.bel).2.2.1
      clear hK hK' hp hd
      simp only [e0] at HK ⊢
      go_simp
      refine (newDisk_any _ _ _ _ xs ys is bs W (H.out.below bl (Nat.le_refl _)) HG.out).mono ?_
      rintro e w6 ⟨p1, p2, p3, p4, rfl, O6, B6⟩
      obtain ⟨b1, d1, b2, d2, b3, d3, b4, d4, rfl, rfl, rfl, rfl⟩ := O6.dr.form
      go_simp
      exact HK.out _ _ B6 ⟨b1, d1, b2, d2, b3, d3, b4, d4, rfl, O6.bound⟩
    · refine wpOp_step (o := _) rfl fun K' hK' => ?_
      have HK : Hid (∀ v W', Below W.heap.size W W' → (MkS 21 4 fl21).P W.heap.size W'.heap.size W' v (upd x 2 v) → K' ⟨#[Value.agg #[Value.slice a1 xs.length c1, Value.slice a2 ys.length c2, Value.slice a3 is.length c3, Value.slice a4 bs.length c4], Value.pointer (some { block := w.heap.size, off := 0 }), Value.pointer (some { block := w.heap.size + 1, off := 0 }), x 0, x 1, v, x 3], []⟩ W') := fun v W' h1 h2 => hK' _ _ (hK v W' h1 h2)
      clear hK hK' hp hd
      go_simp
      exact HK.out _ _ ((Below.refl _ W).alloc (Nat.le_refl _) _) ⟨rfl, by simp, AtC.new W 4 _⟩
    · refine wpOp_step (o := _) rfl fun K' hK' => ?_
      have HK : Hid (∀ v W', Below W.heap.size W W' → (MkM 1 2 xs.length ys.length is.length bs.length 21).P W.heap.size W'.heap.size W' v (upd x 3 v) → K' ⟨#[Value.agg #[Value.slice a1 xs.length c1, Value.slice a2 ys.length c2, Value.slice a3 is.length c3, Value.slice a4 bs.length c4], Value.pointer (some { block := w.heap.size, off := 0 }), Value.pointer (some { block := w.heap.size + 1, off := 0 }), x 0, x 1, x 2, v], []⟩ W') := fun v W' h1 h2 => hK' _ _ (hK v W' h1 h2)
      have e1 : ∃ a1 c1 a2 c2 a3 c3 a4 c4, x 1 = .agg #[.slice a1 xs.length c1, .slice a2 ys.length c2, .slice a3 is.length c3, .slice a4 bs.length c4] ∧ DO W (fun q => (iw 1).1 ≤ q ∧ q < (iw 1).2) (.slice a1 xs.length c1) (.slice a2 ys.length c2) (.slice a3 is.length c3) (.slice a4 bs.length c4) xs ys is bs := hp.post 1 (hd 1 (show 1 ∈ [1, 2] from by decide))
      have e2 : x 2 = .slice (some ⟨(iw 2).1, 0, none⟩) 21 21 ∧ (iw 2).2 = (iw 2).1 + 1 ∧ AtC W (iw 2).1 4 fl21 := hp.post 2 (hd 2 (show 2 ∈ [1, 2] from by decide))
      clear hK hK' hp hd
      obtain ⟨b1, d1, b2, d2, b3, d3, b4, d4, e1, -⟩ := e1
      replace e2 := e2.1
      have HE := hide (And.intro e1 e2)
      simp only [e1, e2] at HK ⊢
      clear e1 e2
      go_simp
      exact HK.out _ _ (Below.refl _ _) ⟨b1, d1, b2, d2, b3, d3, b4, d4, _, _, by rw [upd_ne _ _ _ _ (by decide)]; exact HE.out.1, by rw [upd_ne _ _ _ _ (by decide)]; exact HE.out.2, rfl⟩
  · intro x iw W hp
    obtain ⟨b1, d1, b2, d2, b3, d3, b4, d4, e1, O1⟩ := hp.post 1 (by decide)
    obtain ⟨e2, z2, A2⟩ := hp.post 2 (by decide)
    obtain ⟨g1, h1, g2, h2, g3, h3, g4, h4, g5, h5, f1, f2, e3⟩ := hp.post 3 (by decide)
    rw [e1] at f1
    rw [e2] at f2
    simp only [Value.agg.injEq, Array.mk.injEq, List.cons.injEq, Value.slice.injEq, true_and, and_true] at f1 f2
    obtain ⟨⟨rfl, rfl⟩, ⟨rfl, rfl⟩, ⟨rfl, rfl⟩, rfl, rfl⟩ := f1
    obtain ⟨rfl, rfl⟩ := f2
    have p12 := hp.apart 1 (by decide) 2 (by decide) (by decide)
    have l1 := hp.lo 1 (by decide)
    have l2 := hp.lo 2 (by decide)
    simp [World.drew] at l1 l2
    obtain ⟨-, kR, bel, -⟩ := HC.out W hp.bel
    have hM := newM_owns O1 A2 (by omega) (B := w.heap.size + 1 + 1) l1.1 l2.1
    have r0 : W.cell? ⟨w.heap.size + 1, 0, none⟩ = some (.slice none 0 0) := kR.cell 0
    have r1 : W.cell? ⟨w.heap.size + 1, 1, none⟩ = some (.slice none 0 0) := kR.cell 1
    have r2 : W.cell? ⟨w.heap.size + 1, 2, none⟩ = some (.slice none 0 0) := kR.cell 2
    have r3 : W.cell? ⟨w.heap.size + 1, 3, none⟩ = some (.slice none 0 0) := kR.cell 3
    have r4 : W.cell? ⟨w.heap.size + 1, 4, none⟩ = some (.slice none 0 0) := kR.cell 4
    have r5 : W.cell? ⟨w.heap.size + 1, 5, none⟩ = some (.slice none 0 0) := kR.cell 5
    have r6 : W.cell? ⟨w.heap.size + 1, 6, none⟩ = some (.int .i64 0) := kR.cell 6
    have v0 := kR.frozen 0
    have v1 := kR.frozen 1
    have v2 := kR.frozen 2
    have v3 := kR.frozen 3
    have v4 := kR.frozen 4
    have v5 := kR.frozen 5
    have v6 := kR.frozen 6
    generalize (iw 2).1 = g at *
    have HM := hide (And.intro hM bel)
    clear hp O1 A2 z2 p12 l1 l2 kR bel hM HC mk
    simp only [e1, e2, e3]
    clear e1 e2 e3
    go_wp2_with fail
    rw [List.filterMap_nil]
    go_wp2
    refine bodyPost_ret (v := .agg #[.slice b1 xs.length d1, .slice b2 ys.length d2, .slice b3 is.length d3, .slice b4 bs.length d4, .slice (some ⟨g, 0, none⟩) 21 21, .slice none 0 0, .int .i64 1]) (by simp [results, go_sem, r0, r1, r2, r3, r4, r5, r6]) rfl ⟨_, _, _, _, _, _, rfl, ?_, ?_⟩
    · exact (HM.out.1.of_heap fun k hk _ => ((((((heap_setCell_other _ ⟨w.heap.size + 1, 6, none⟩ k _ (by show k ≠ w.heap.size + 1; omega)).trans (heap_setCell_other _ ⟨w.heap.size + 1, 5, none⟩ k _ (by show k ≠ w.heap.size + 1; omega))).trans (heap_setCell_other _ ⟨w.heap.size + 1, 4, none⟩ k _ (by show k ≠ w.heap.size + 1; omega))).trans (heap_setCell_other _ ⟨w.heap.size + 1, 3, none⟩ k _ (by show k ≠ w.heap.size + 1; omega))).trans (heap_setCell_other _ ⟨w.heap.size + 1, 2, none⟩ k _ (by show k ≠ w.heap.size + 1; omega))).trans (heap_setCell_other _ ⟨w.heap.size + 1, 1, none⟩ k _ (by show k ≠ w.heap.size + 1; omega))).trans (heap_setCell_other _ ⟨w.heap.size + 1, 0, none⟩ k _ (by show k ≠ w.heap.size + 1; omega))).mono fun k hk => by omega
    · exact (((((((HM.out.2).setCell (by simp) _).setCell (by simp) _).setCell (by simp) _).setCell (by simp) _).setCell (by simp) _).setCell (by simp) _).setCell (by simp) _
end Go.Proofs.Ytkolpbgocdfjnaa
