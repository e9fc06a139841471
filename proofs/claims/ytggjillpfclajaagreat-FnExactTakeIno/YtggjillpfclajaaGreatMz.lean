/- A memory while those that lean are appended to it. No Go function is spoken of. -/
import Derived.Test.YtggjillpfclajaaGreatDd
import Derived.Test.YtggjillpfclajaaGreatCr
namespace Go.Proofs.YtggjillpfclajaaGreat.Kit
open Go.RowKit
/-- The cells of no memory. -/
def noM : Array Value := #[.slice none 0 0, .slice none 0 0, .slice none 0 0, .slice none 0 0, .slice none 0 0, .slice none 0 0, .int .i64 0]
theorem MO.soP {w : World} {S : Nat → Prop} {u v iv bv dv pv : Value} {m : MD} (h : MO w S u v iv bv dv pv m) : ∀ k, pv.ownBlock = some k → S k := by
  obtain ⟨S1, S2, S3, ts, h1, h2, h3, h4, h5, h6, h7⟩ := h
  exact fun k hk => h7 k (.inr (.inr (h4.so k hk)))
/-- One that leans is appended. -/
theorem MO.appD {w : World} {S : Nat → Prop} {u v iv bv dv pv : Value} {m : MD} (h : MO w S u v iv bv dv pv m) :
    ∃ ts, NOwns w 52 11 pv ts ∧ ts.length = m.ds.length ∧ ∀ (w1 w2 : World) (pv' : Value) (t' : Row) (x' : Dp), Below w.heap.size w w1 → KDep.O w1 t' x' → (∀ k, (KDep.p t').ownBlock = some k → w.heap.size ≤ k) →
      NOwns w2 52 11 pv' (ts ++ [t']) → w1.grownBy w2 pv.ownBlock → (∀ k, pv'.ownBlock = some k → pv.ownBlock = some k ∨ w1.heap.size ≤ k) → MO w2 (fun k => S k ∨ w.heap.size ≤ k) u v iv bv dv pv' { m with ds := m.ds ++ [x'] } := by
  obtain ⟨S1, S2, S3, ts, h1, h2, h3, h4, h5, h6, h7⟩ := h.bound
  refine ⟨ts, h4.row, h4.len, fun w1 w2 pv' t' x' hb hO hn hr hg hv => ?_⟩
  have hsz := hb.size
  have hlow : ∀ q, S1 q ∨ S2 q ∨ S3 q → q < w.heap.size := fun q hq => (h7 q hq).2
  have hSS : ∀ q, S1 q ∨ S2 q ∨ S3 q → S q := fun q hq => (h7 q hq).1
  have hoth : ∀ k, k < w.heap.size → pv.ownBlock ≠ some k → w2.heap[k]? = w.heap[k]? := fun k hk hne => (hg.block k (by omega) (fun e => hne e.symm)).trans (hb.block k hk)
  refine ⟨S1, S2, _, _, h1.of_heap fun k hk hlt => hoth k hlt (fun e => (h5 k hk).2 (h4.so k e)), h2.of_heap fun k hk => hoth k (h2.lt k hk).2 (fun e => h6 k (h3 k hk) (h4.so k e)), h3, h4.append hb hO hn hr hg hv, fun k hk => ⟨(h5 k hk).1, fun e => ?_⟩, fun k hk e => ?_, fun k hk => ?_⟩
  · rcases e with e | e
    · exact (h5 k hk).2 e.1
    · have := hlow k (.inl hk); omega
  · rcases e with e | e
    · exact h6 k hk e.1
    · have := hlow k (.inr (.inl hk)); omega
  · rcases hk with hk | hk | hk | hk
    · exact .inl (hSS k (.inl hk))
    · exact .inl (hSS k (.inr (.inl hk)))
    · exact .inl (hSS k (.inr (.inr hk.1)))
    · exact .inr hk
/-- A memory while it is copied: the argument's box, the result's block, the variable's block b, its parts. -/
structure Mz (w w' : World) (A : Array Value) (b : Nat) (u v iv bv dv pv : Value) (m : MD) : Prop where
  arg : AtC w' w.heap.size 40 A
  res : AtC w' (w.heap.size + 1) 40 noM
  box : AtC w' b 40 #[u, v, iv, bv, dv, pv, .int .i64 m.nx]
  own : MO w' (fun k => w.heap.size + 1 < k ∧ k ≠ b) u v iv bv dv pv m
  bel : Below w.heap.size w w'
  hb : w.heap.size + 1 < b
namespace Mz
variable {w w' w1 : World} {A : Array Value} {b : Nat} {u v iv bv dv pv : Value} {m : MD}
theorem below (h : Mz w w' A b u v iv bv dv pv m) (hb : Below w'.heap.size w' w1) : Mz w w1 A b u v iv bv dv pv m :=
  ⟨h.arg.over hb, h.res.over hb, h.box.over hb, h.own.below hb (Nat.le_refl _), h.bel.trans (hb.mono h.bel.size), h.hb⟩
theorem app (h : Mz w w' A b u v iv bv dv pv m) : ∃ ts, NOwns w' 52 11 pv ts ∧ ts.length = m.ds.length ∧ ∀ (w1 w2 : World) (pv' : Value) (t' : Row) (x' : Dp), Below w'.heap.size w' w1 → KDep.O w1 t' x' → (∀ k, (KDep.p t').ownBlock = some k → w'.heap.size ≤ k) →
    NOwns w2 52 11 pv' (ts ++ [t']) → w1.grownBy w2 pv.ownBlock → (∀ k, pv'.ownBlock = some k → pv.ownBlock = some k ∨ w1.heap.size ≤ k) →
    AtC w2 b 40 #[u, v, iv, bv, dv, pv, .int .i64 m.nx] ∧ Mz w (w2.setCell ⟨b, 5, none⟩ pv') A b u v iv bv dv pv' { m with ds := m.ds ++ [x'] } := by
  obtain ⟨ts, h1, h2, h3⟩ := h.own.appD
  refine ⟨ts, h1, h2, fun w1 w2 pv' t' x' hb hO hn hr hg hv => ?_⟩
  have hso := h.own.soP
  have hbs := h.box.lt
  have hsz := h.bel.size
  have hsz1 := hb.size
  have hr0 := h.res.lt
  have ha0 := h.arg.lt
  have e0 : AtC w2 w.heap.size 40 A := (hg.block _ (by omega) (fun e => by have := hso _ e.symm; omega)).trans (h.arg.over hb)
  have e1 : AtC w2 (w.heap.size + 1) 40 noM := (hg.block _ (by omega) (fun e => by have := hso _ e.symm; omega)).trans (h.res.over hb)
  have e2 : AtC w2 b 40 #[u, v, iv, bv, dv, pv, .int .i64 m.nx] := (hg.block _ (by omega) (fun e => by have := hso _ e.symm; omega)).trans (h.box.over hb)
  have d := h3 w1 w2 pv' t' x' hb hO hn hr hg hv
  have b2 : Below w.heap.size w w2 := (h.bel.trans (hb.mono hsz)).grown hg (by omega) (fun k hk => by have := hso k hk; omega)
  have hbb := h.hb
  refine ⟨e2, ⟨e0.other (by omega) _, e1.other (by omega) _, e2.set 5 pv', ?_, b2.setCell (by show w.heap.size ≤ b; omega) _, h.hb⟩⟩
  have d2 := d.mono (S' := fun k => w.heap.size + 1 < k ∧ k ≠ b) fun k hk => hk.elim id (fun e => ⟨by omega, by omega⟩)
  exact d2.of_heap fun k hk _ => heap_setCell_other w2 ⟨b, 5, none⟩ k pv' (by show k ≠ b; omega)
end Mz
/-- A copied disk. -/
def MkD (k : Nat) (xs ys : List Bool) (is : List Ino) (bs : List Blk) : Mk := .val [k] (fun lo hi w v => ∃ a1 c1 a2 c2 a3 c3 a4 c4, v = .agg #[.slice a1 xs.length c1, .slice a2 ys.length c2, .slice a3 is.length c3, .slice a4 bs.length c4] ∧ DO w (fun q => lo ≤ q ∧ q < hi) (.slice a1 xs.length c1) (.slice a2 ys.length c2) (.slice a3 is.length c3) (.slice a4 bs.length c4) xs ys is bs)
  (fun _ _ _ _ _ h hb => by obtain ⟨a1, c1, a2, c2, a3, c3, a4, c4, h1, h2⟩ := h; exact ⟨a1, c1, a2, c2, a3, c3, a4, c4, h1, h2.below hb (Nat.le_refl _)⟩)
/-- A new variable. -/
def MkW (T : TypeId) (Z : Array Value) : Mk := .val [] (fun lo hi w v => v = .pointer (some ⟨lo, 0, none⟩) ∧ hi = lo + 1 ∧ AtC w lo T Z) (fun _ _ _ _ _ h hb => ⟨h.1, h.2.1, h.2.2.over hb⟩)
/-- A memory of a disk, flags and a number, without those that lean. -/
def MkM3 (k l q n1 n2 n3 n4 n5 : Nat) (nx : Int) : Mk := ⟨[k, l, q], fun _ _ _ v x => ∃ a1 c1 a2 c2 a3 c3 a4 c4 a5 c5, x k = .agg #[.slice a1 n1 c1, .slice a2 n2 c2, .slice a3 n3 c3, .slice a4 n4 c4] ∧ x l = .slice a5 n5 c5 ∧ v = .agg #[.slice a1 n1 c1, .slice a2 n2 c2, .slice a3 n3 c3, .slice a4 n4 c4, .slice a5 n5 c5, .slice none 0 0, .int .i64 nx], fun _ _ _ _ _ _ h _ => h, fun _ _ _ _ x x' e h => by
  obtain ⟨a1, c1, a2, c2, a3, c3, a4, c4, a5, c5, h1, h2, h3⟩ := h
  exact ⟨a1, c1, a2, c2, a3, c3, a4, c4, a5, c5, by rw [← e k (by simp), h1], by rw [← e l (by simp), h2], h3⟩⟩
/-- The variable is stored, without those that lean. -/
theorem mz_stored {w W : World} {A : Array Value} {b lo hi : Nat} {u v iv bv dv : Value} {m : MD} (hA : AtC W w.heap.size 40 A) (hR : AtC W (w.heap.size + 1) 40 noM) (hb : AtC W b 40 noM) (hd : DO W (fun q => lo ≤ q ∧ q < hi) u v iv bv m.xs m.ys m.is m.bs) (hf : ROwns W (w.heap.size + 1 + 1) 4 dv (fc m.fs))
    (hsep : ∀ k, dv.ownBlock = some k → (k < lo ∨ hi ≤ k) ∧ k ≠ b) (hlo : w.heap.size + 1 < lo) (hbs : b < lo ∨ hi ≤ b) (bel : Below w.heap.size w W) (hbb : w.heap.size + 1 < b) (hds : m.ds = []) :
    Mz w (((((((W.setCell ⟨b, 0, none⟩ u).setCell ⟨b, 1, none⟩ v).setCell ⟨b, 2, none⟩ iv).setCell ⟨b, 3, none⟩ bv).setCell ⟨b, 4, none⟩ dv).setCell ⟨b, 5, none⟩ (.slice none 0 0)).setCell ⟨b, 6, none⟩ (.int .i64 m.nx)) A b u v iv bv dv (.slice none 0 0) m := by
  have hoth : ∀ k, k ≠ b → (((((((W.setCell ⟨b, 0, none⟩ u).setCell ⟨b, 1, none⟩ v).setCell ⟨b, 2, none⟩ iv).setCell ⟨b, 3, none⟩ bv).setCell ⟨b, 4, none⟩ dv).setCell ⟨b, 5, none⟩ (.slice none 0 0)).setCell ⟨b, 6, none⟩ (.int .i64 m.nx)).heap[k]? = W.heap[k]? := fun k hk =>
    ((((((heap_setCell_other _ ⟨b, 6, none⟩ k _ hk).trans (heap_setCell_other _ ⟨b, 5, none⟩ k _ hk)).trans (heap_setCell_other _ ⟨b, 4, none⟩ k _ hk)).trans (heap_setCell_other _ ⟨b, 3, none⟩ k _ hk)).trans (heap_setCell_other _ ⟨b, 2, none⟩ k _ hk)).trans (heap_setCell_other _ ⟨b, 1, none⟩ k _ hk)).trans (heap_setCell_other _ ⟨b, 0, none⟩ k _ hk)
  refine ⟨(hoth _ (by omega)).trans hA, (hoth _ (by omega)).trans hR, ((((((hb.set 0 u).set 1 v).set 2 iv).set 3 bv).set 4 dv).set 5 (.slice none 0 0)).set 6 (.int .i64 m.nx), ?_, ((((((bel.setCell (by show w.heap.size ≤ b; omega) _).setCell (by show w.heap.size ≤ b; omega) _).setCell (by show w.heap.size ≤ b; omega) _).setCell (by show w.heap.size ≤ b; omega) _).setCell (by show w.heap.size ≤ b; omega) _).setCell (by show w.heap.size ≤ b; omega) _).setCell (by show w.heap.size ≤ b; omega) _, hbb⟩
  refine ⟨_, fun k => dv.ownBlock = some k, fun _ => False, [], hd.of_heap fun k hk _ => hoth k (by omega), (hf.of_heap fun k hk => hoth k (hsep k hk).2).base_le (Nat.zero_le _), fun k hk => hk, by rw [hds]; exact GN.nil _ _, fun k hk => ⟨fun e => by have := hsep k e; omega, id⟩, fun k hk e => e, fun k hk => ?_⟩
  rcases hk with hk | hk | hk
  · exact ⟨by omega, by omega⟩
  · exact ⟨by have := hf.lt k hk; omega, (hsep k hk).2⟩
  · exact hk.elim
end Go.Proofs.YtggjillpfclajaaGreat.Kit
