/- Texts of the proof, bundled: Dz. -/
import Derived.Test.YtggjillpfclajaaGreatU07
/- A disk while it is copied: its variable, its parts, what is appended to them. No Go function is spoken of. -/
namespace Go.Proofs.YtggjillpfclajaaGreat.Kit
open Go.RowKit
theorem DO.appB {w : World} {S : Nat → Prop} {u v iv bv : Value} {xs ys : List Bool} {is : List Ino} {bs : List Blk} (h : DO w S u v iv bv xs ys is bs) :
    ∃ tb, TOwns w 115 bv tb ∧ tb.length = bs.length ∧ ∀ (w1 w2 : World) (bv' : Value) (t' : V3) (x' : Blk), Below w.heap.size w w1 → KB.O w1 t' x' → (∀ k, t'.2.1.ownBlock = some k → w.heap.size ≤ k) →
      TOwns w2 115 bv' (tb ++ [t']) → w1.grownBy w2 bv.ownBlock → (∀ k, bv'.ownBlock = some k → bv.ownBlock = some k ∨ w1.heap.size ≤ k) → DO w2 (fun k => S k ∨ w.heap.size ≤ k) u v iv bv' xs ys is (bs ++ [x']) := by
  obtain ⟨S1, S2, S3, ti, tb, h1, hs1, hi, hk, d1, d2, hU⟩ := h
  refine ⟨tb, hk.row, hk.len, fun w1 w2 bv' t' x' hb hO hn hr hg hv => ?_⟩
  have hsz := hb.size
  have h12 : ∀ m, (u.ownBlock = some m ∨ v.ownBlock = some m) → m < w.heap.size := fun m hm => hm.elim (fun e => (h1.a.lt m e).2) (fun e => (h1.b.lt m e).2)
  have hoth : ∀ k, k < w.heap.size → bv.ownBlock ≠ some k → w2.heap[k]? = w.heap[k]? := fun k hk hne => (hg.block k (by omega) (fun e => hne e.symm)).trans (hb.block k hk)
  refine ⟨fun k => u.ownBlock = some k ∨ v.ownBlock = some k, fun k => S2 k ∧ k < w.heap.size, _, ti, _, ⟨h1.a.of_heap fun m hm => hoth m (h12 m (.inl hm)) (fun e => (d1 m (hs1 m (.inl hm))).2 (hk.so m e)), h1.b.of_heap fun m hm => hoth m (h12 m (.inr hm)) (fun e => (d1 m (hs1 m (.inr hm))).2 (hk.so m e)), h1.ne⟩, fun k hk => hk, hi.bound.of_heap fun m hm hlt => hoth m hlt (fun e => d2 m hm.1 (hk.so m e)), hk.append hb hO hn hr hg hv, fun m hm => ⟨fun e => (d1 m (hs1 m hm)).1 e.1, fun e => ?_⟩, fun m hm e => ?_, fun m hm => ?_⟩
  · rcases e with e | e
    · exact (d1 m (hs1 m hm)).2 e.1
    · have := h12 m hm; omega
  · rcases e with e | e
    · exact d2 m hm.1 e.1
    · have := hm.2; omega
  · rcases hm with hm | hm | (hm | hm)
    · exact .inl (hU m (.inl (hs1 m hm)))
    · exact .inl (hU m (.inr (.inl hm.1)))
    · exact .inl (hU m (.inr (.inr hm.1)))
    · exact .inr hm
theorem DO.soI {w : World} {S : Nat → Prop} {u v iv bv : Value} {xs ys : List Bool} {is : List Ino} {bs : List Blk} (h : DO w S u v iv bv xs ys is bs) : ∀ k, (iv.ownBlock = some k ∨ bv.ownBlock = some k) → S k := by
  obtain ⟨S1, S2, S3, ti, tb, a1, a2, a3, a4, a5, a6, a7⟩ := h
  exact fun k hk => hk.elim (fun e => a7 k (.inr (.inl (a3.so k e)))) (fun e => a7 k (.inr (.inr (a4.so k e))))
/-- Bits of new memory, without inodes and blocks. -/
theorem DO.bits {w : World} {B : Nat} {u v : Value} {xs ys : List Bool} (h : Two w B u v xs ys) : DO w (fun k => B ≤ k) u v (.slice none 0 0) (.slice none 0 0) xs ys [] [] := by
  refine ⟨fun k => B ≤ k, fun _ => False, fun _ => False, [], [], h.base_le (Nat.zero_le _), fun k hk => hk.elim (fun e => (h.a.lt k e).1) (fun e => (h.b.lt k e).1), ?_, ?_, fun k hk => ⟨id, id⟩, fun k hk => hk.elim, fun k hk => hk.elim id (fun e => e.elim (fun e => e.elim) (fun e => e.elim))⟩
  · exact ⟨rfl, TOwns.nil _ _, fun j hj => by simp at hj, fun i j hi => by simp at hi, fun j hj => by simp at hj, (fun k e => by cases e), fun j hj => by simp at hj⟩
  · exact ⟨rfl, TOwns.nil _ _, fun j hj => by simp at hj, fun i j hi => by simp at hi, fun j hj => by simp at hj, (fun k e => by cases e), fun j hj => by simp at hj⟩
/-- The cells of no disk. -/
def noD : Array Value := #[.slice none 0 0, .slice none 0 0, .slice none 0 0, .slice none 0 0]
/-- A disk while it is copied: the argument's box at the first new block, the result's at the second, the variable's block b, its parts. -/
structure Dz (w w' : World) (A : Array Value) (b : Nat) (u v iv bv : Value) (xs ys : List Bool) (is : List Ino) (bs : List Blk) : Prop where
  arg : AtC w' w.heap.size 37 A
  res : AtC w' (w.heap.size + 1) 37 noD
  box : AtC w' b 37 #[u, v, iv, bv]
  dsk : DO w' (fun k => w.heap.size + 1 < k ∧ k ≠ b) u v iv bv xs ys is bs
  bel : Below w.heap.size w w'
  hb : w.heap.size + 1 < b
namespace Dz
variable {w w' w1 : World} {A : Array Value} {b : Nat} {u v iv bv : Value} {xs ys : List Bool} {is : List Ino} {bs : List Blk}
theorem below (h : Dz w w' A b u v iv bv xs ys is bs) (hb : Below w'.heap.size w' w1) : Dz w w1 A b u v iv bv xs ys is bs :=
  ⟨h.arg.over hb, h.res.over hb, h.box.over hb, h.dsk.below hb (Nat.le_refl _), h.bel.trans (hb.mono h.bel.size), h.hb⟩
theorem drew (h : Dz w w' A b u v iv bv xs ys is bs) : Dz w w'.drew A b u v iv bv xs ys is bs := h.below (Below.refl _ _).drew
theorem alloc (h : Dz w w' A b u v iv bv xs ys is bs) (o : Obj) : Dz w (w'.alloc o) A b u v iv bv xs ys is bs := h.below ((Below.refl _ _).alloc (Nat.le_refl _) o)
/-- A new block that is nobody's yet may be written. -/
theorem other (h : Dz w w' A b u v iv bv xs ys is bs) {B j : Nat} (hB : w.heap.size + 1 < B) (hb : B ≠ b) (hn : ∀ k, k = B → ¬ (w.heap.size + 1 < k ∧ k ≠ b ∧ k < w1.heap.size)) (x : Value) (hw : Below w1.heap.size w1 w') (h1 : Dz w w1 A b u v iv bv xs ys is bs) : Dz w (w'.setCell ⟨B, j, none⟩ x) A b u v iv bv xs ys is bs := by
  have hlt : w1.heap.size ≤ B := by
    rcases Nat.lt_or_ge B w1.heap.size with e | e
    · exact absurd ⟨hB, hb, e⟩ (hn B rfl)
    · exact e
  have hbb := h1.box.lt
  have hrr := h1.res.lt
  refine ⟨h.arg.other (by omega) _, h.res.other (by omega) _, h.box.other (by omega) _, ?_, h.bel.setCell (by show w.heap.size ≤ B; omega) _, h.hb⟩
  exact h1.dsk.of_heap fun k hk hkl => (heap_setCell_other w' ⟨B, j, none⟩ k x (by show k ≠ B; omega)).trans (hw.block k hkl)
/-- An inode is appended, and the list is stored. -/
theorem appI (h : Dz w w' A b u v iv bv xs ys is bs) : ∃ ti, TOwns w' 111 iv ti ∧ ti.length = is.length ∧ ∀ (w1 w2 : World) (iv' : Value) (t' : V3) (x' : Ino), Below w'.heap.size w' w1 → KI.O w1 t' x' → (∀ k, t'.2.2.ownBlock = some k → w'.heap.size ≤ k) →
    TOwns w2 111 iv' (ti ++ [t']) → w1.grownBy w2 iv.ownBlock → (∀ k, iv'.ownBlock = some k → iv.ownBlock = some k ∨ w1.heap.size ≤ k) →
    AtC w2 b 37 #[u, v, iv, bv] ∧ Dz w (w2.setCell ⟨b, 2, none⟩ iv') A b u v iv' bv xs ys (is ++ [x']) bs := by
  obtain ⟨ti, h1, h2, h3⟩ := h.dsk.appI
  refine ⟨ti, h1, h2, fun w1 w2 iv' t' x' hb hO hn hr hg hv => ?_⟩
  have hso := fun k (hk : iv.ownBlock = some k) => h.dsk.soI k (.inl hk)
  have hbs := h.box.lt
  have hsz := h.bel.size
  have hsz1 := hb.size
  have hr0 := h.res.lt
  have ha0 := h.arg.lt
  have e0 : AtC w2 w.heap.size 37 A := (hg.block _ (by omega) (fun e => by have := hso _ e.symm; omega)).trans (h.arg.over hb)
  have e1 : AtC w2 (w.heap.size + 1) 37 noD := (hg.block _ (by omega) (fun e => by have := hso _ e.symm; omega)).trans (h.res.over hb)
  have e2 : AtC w2 b 37 #[u, v, iv, bv] := (hg.block _ (by omega) (fun e => by have := hso _ e.symm; omega)).trans (h.box.over hb)
  have d := h3 w1 w2 iv' t' x' hb hO hn hr hg hv
  have b2 : Below w.heap.size w w2 := (h.bel.trans (hb.mono hsz)).grown hg (by omega) (fun k hk => by have := hso k hk; omega)
  have hbb := h.hb
  refine ⟨e2, ⟨e0.other (by omega) _, e1.other (by omega) _, e2.set 2 iv', ?_, b2.setCell (by show w.heap.size ≤ b; omega) _, h.hb⟩⟩
  have d2 := d.mono (S' := fun k => w.heap.size + 1 < k ∧ k ≠ b) fun k hk => hk.elim id (fun e => ⟨by omega, by omega⟩)
  exact d2.of_heap fun k hk _ => heap_setCell_other w2 ⟨b, 2, none⟩ k iv' (by show k ≠ b; omega)
/-- A block is appended, and the list is stored. -/
theorem appB (h : Dz w w' A b u v iv bv xs ys is bs) : ∃ tb, TOwns w' 115 bv tb ∧ tb.length = bs.length ∧ ∀ (w1 w2 : World) (bv' : Value) (t' : V3) (x' : Blk), Below w'.heap.size w' w1 → KB.O w1 t' x' → (∀ k, t'.2.1.ownBlock = some k → w'.heap.size ≤ k) →
    TOwns w2 115 bv' (tb ++ [t']) → w1.grownBy w2 bv.ownBlock → (∀ k, bv'.ownBlock = some k → bv.ownBlock = some k ∨ w1.heap.size ≤ k) →
    AtC w2 b 37 #[u, v, iv, bv] ∧ Dz w (w2.setCell ⟨b, 3, none⟩ bv') A b u v iv bv' xs ys is (bs ++ [x']) := by
  obtain ⟨ti, h1, h2, h3⟩ := h.dsk.appB
  refine ⟨ti, h1, h2, fun w1 w2 iv' t' x' hb hO hn hr hg hv => ?_⟩
  have hso := fun k (hk : bv.ownBlock = some k) => h.dsk.soI k (.inr hk)
  have hbs := h.box.lt
  have hsz := h.bel.size
  have hsz1 := hb.size
  have hr0 := h.res.lt
  have ha0 := h.arg.lt
  have e0 : AtC w2 w.heap.size 37 A := (hg.block _ (by omega) (fun e => by have := hso _ e.symm; omega)).trans (h.arg.over hb)
  have e1 : AtC w2 (w.heap.size + 1) 37 noD := (hg.block _ (by omega) (fun e => by have := hso _ e.symm; omega)).trans (h.res.over hb)
  have e2 : AtC w2 b 37 #[u, v, iv, bv] := (hg.block _ (by omega) (fun e => by have := hso _ e.symm; omega)).trans (h.box.over hb)
  have d := h3 w1 w2 iv' t' x' hb hO hn hr hg hv
  have b2 : Below w.heap.size w w2 := (h.bel.trans (hb.mono hsz)).grown hg (by omega) (fun k hk => by have := hso k hk; omega)
  have hbb := h.hb
  refine ⟨e2, ⟨e0.other (by omega) _, e1.other (by omega) _, e2.set 3 iv', ?_, b2.setCell (by show w.heap.size ≤ b; omega) _, h.hb⟩⟩
  have d2 := d.mono (S' := fun k => w.heap.size + 1 < k ∧ k ≠ b) fun k hk => hk.elim id (fun e => ⟨by omega, by omega⟩)
  exact d2.of_heap fun k hk _ => heap_setCell_other w2 ⟨b, 3, none⟩ k iv' (by show k ≠ b; omega)
end Dz
/-- The bits are copied; the variable is laid. -/
theorem dz_start {w w1 : World} {A : Array Value} {u v : Value} {xs ys : List Bool} (B1 : Below ((w.alloc (.cells A 37)).alloc (.cells noD 37)).heap.size ((w.alloc (.cells A 37)).alloc (.cells noD 37)) w1) (T1 : Two w1 ((w.alloc (.cells A 37)).alloc (.cells noD 37)).heap.size u v xs ys) :
    Dz w (w1.alloc (.cells #[u, v, .slice none 0 0, .slice none 0 0] 37)) A w1.heap.size u v (.slice none 0 0) (.slice none 0 0) xs ys [] [] := by
  have hsz := B1.size
  simp at hsz
  have k1 := (AtC.new (w.alloc (.cells A 37)) 37 noD).over B1
  simp at k1
  refine ⟨(((AtC.new w 37 A).alloc _).over B1).alloc _, k1.alloc _, AtC.new w1 37 _, ?_, ((((Below.refl _ w).alloc (Nat.le_refl _) _).alloc (by simp) _).trans (B1.mono (by simp; omega))).alloc (by omega) _, by omega⟩
  have T2 : Two w1 (w.heap.size + 1 + 1) u v xs ys := T1.base_le (by simp)
  obtain ⟨S1, S2, S3, ti, tb, h1, h2, h3, h4, h5, h6, h7⟩ := DO.bits T2
  have hlt : ∀ k, (u.ownBlock = some k ∨ v.ownBlock = some k) → w.heap.size + 1 < k ∧ k ≠ w1.heap.size := fun k hk => hk.elim (fun e => by have := T2.a.lt k e; omega) (fun e => by have := T2.b.lt k e; omega)
  exact ⟨fun k => u.ownBlock = some k ∨ v.ownBlock = some k, fun _ => False, fun _ => False, [], [], (T2.base_le (Nat.zero_le _)).alloc _, fun k hk => hk, ⟨rfl, TOwns.nil _ _, fun j hj => by simp at hj, fun i j hi => by simp at hi, fun j hj => by simp at hj, (fun k e => by cases e), fun j hj => by simp at hj⟩, ⟨rfl, TOwns.nil _ _, fun j hj => by simp at hj, fun i j hi => by simp at hi, fun j hj => by simp at hj, (fun k e => by cases e), fun j hj => by simp at hj⟩, fun k hk => ⟨id, id⟩, fun k hk => hk.elim, fun k hk => hk.elim (hlt k) (fun e => e.elim (fun e => e.elim) (fun e => e.elim))⟩
/-- A copied inode. -/
def MkI (k : Nat) (y s : Int) (z : List Int) : Mk := .val [k] (fun lo hi w v => ∃ u, v = .agg #[.int .i64 y, .int .i64 s, u] ∧ ROwns w lo 3 u (ic z) ∧ ∀ i, u.ownBlock = some i → i < hi)
  (fun _ _ _ _ _ h hb => by obtain ⟨u, h1, h2, h3⟩ := h; exact ⟨u, h1, h2.below hb (Nat.le_refl _), h3⟩)
/-- The list of one inode, the k-th value. -/
def MkI1 (k : Nat) (y s : Int) : Mk := .val1 [k] k (by simp) (fun lo hi w u v => v = .slice (some ⟨lo, 0, none⟩) 1 1 ∧ hi = lo + 1 ∧ ∃ p, u = .agg #[.int .i64 y, .int .i64 s, p] ∧ AtC w lo 111 #[.int .i64 y, .int .i64 s, p])
  (fun _ _ _ _ _ _ h hb => by obtain ⟨h1, h2, p, h3, h4⟩ := h; exact ⟨h1, h2, p, h3, h4.over hb⟩)
/-- A copied block. -/
def MkK (k : Nat) (d : Bool) (t : ByteArray) (z : List Sl) : Mk := .val [k] (fun lo hi w v => ∃ u, v = .agg #[.bool d, u, .string t] ∧ SOwns w lo 132 u z ∧ ∀ i, u.ownBlock = some i → i < hi)
  (fun _ _ _ _ _ h hb => by obtain ⟨u, h1, h2, h3⟩ := h; exact ⟨u, h1, h2.below hb (Nat.le_refl _), h3⟩)
/-- The list of one block, the k-th value. -/
def MkK1 (k : Nat) (d : Bool) (t : ByteArray) : Mk := .val1 [k] k (by simp) (fun lo hi w u v => v = .slice (some ⟨lo, 0, none⟩) 1 1 ∧ hi = lo + 1 ∧ ∃ p, u = .agg #[.bool d, p, .string t] ∧ AtC w lo 115 #[.bool d, p, .string t])
  (fun _ _ _ _ _ _ h hb => by obtain ⟨h1, h2, p, h3, h4⟩ := h; exact ⟨h1, h2, p, h3, h4.over hb⟩)
end Go.Proofs.YtggjillpfclajaaGreat.Kit
