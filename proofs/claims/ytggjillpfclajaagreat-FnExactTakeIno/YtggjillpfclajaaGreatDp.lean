
/- A disk of memory of its own, into which an inode or a block is put. No Go function is spoken of. -/
import Derived.Test.YtggjillpfclajaaGreatTs
import Derived.Test.YtggjillpfclajaaGreatKAt
namespace Go.Proofs.YtggjillpfclajaaGreat.Kit
open Go.RowKit
theorem TOwns.of_at {w : World} {e : TypeId} {g : Nat} {cs : Array Value} {ts : List V3} (h : AtC w g e cs) (hc : cs.toList = f3 ts) (hm : ts.length ≤ maxLen) : TOwns w e (.slice (some ⟨g, 0, none⟩) ts.length ts.length) ts := by
  have hs : cs.size = ts.length * 3 := by rw [← Array.length_toList, hc, f3_length]
  refine ⟨by rw [f3_length], .inr ⟨g, ts.length, cs, rfl, Nat.zero_le _, h, Nat.le_refl _, hm, hs, ?_⟩⟩
  rw [hc, List.take_of_length_le (by rw [f3_length]; exact Nat.le_refl _)]
/-- As many of one kind, in one block, without memory of their own. -/
theorem GO.of_at {α : Type} {K : Kd α} {w : World} {g n : Nat} {cs : Array Value} {z : V3} {x : α} (h : AtC w g K.T cs) (hc : cs.toList = f3 (List.replicate n z)) (hm : n ≤ maxLen) (hO : K.O w z x) (hz : (K.p z).ownBlock = none) :
    GO K w (fun k => k = g) (.slice (some ⟨g, 0, none⟩) n n) (List.replicate n z) (List.replicate n x) := by
  refine ⟨by simp, ?_, fun j hj hj' => ?_, fun i j hi hj _ k e => ?_, fun j hj k e => ?_, fun k e => ?_, fun j hj k e => ?_⟩
  · have := TOwns.of_at (ts := List.replicate n z) h hc (by simpa using hm)
    simpa using this
  · simp only [List.getElem_replicate]
    exact hO
  · simp only [List.getElem_replicate] at e
    rw [hz] at e; cases e
  · simp only [List.getElem_replicate] at e
    rw [hz] at e; cases e
  · simpa [Value.ownBlock] using e.symm
  · simp only [List.getElem_replicate] at e
    rw [hz] at e; cases e
theorem DO.two {w : World} {S : Nat → Prop} {u v iv bv : Value} {xs ys : List Bool} {is : List Ino} {bs : List Blk} (h : DO w S u v iv bv xs ys is bs) : Two w 0 u v xs ys := by
  obtain ⟨S1, S2, S3, ti, tb, h1, -⟩ := h
  exact h1
/-- The cells of an inode's place, and that they may be written. -/
theorem DO.atI {w : World} {S : Nat → Prop} {u v iv bv : Value} {xs ys : List Bool} {is : List Ino} {bs : List Blk} (h : DO w S u v iv bv xs ys is bs) {g n cap : Nat} (hv : iv = .slice (some ⟨g, 0, none⟩) n cap) (j : Nat) (hj : j < is.length) :
    (∃ a b p, w.cell? ⟨g, j * 3, none⟩ = some (.int .i64 a) ∧ w.cell? ⟨g, j * 3 + 1, none⟩ = some (.int .i64 b) ∧ w.cell? ⟨g, j * 3 + 2, none⟩ = some p ∧ a = is[j].1 ∧ b = is[j].2.1 ∧ RInts w p is[j].2.2) ∧ (∀ k, w.frozen? ⟨g, k, none⟩ = false) ∧ g < w.heap.size ∧ n = is.length ∧ S g := by
  obtain ⟨S1, S2, S3, ti, tb, h1, -, hi, -, -, -, hU⟩ := h
  have hl := hi.len
  obtain ⟨g', c', e', k1, k2, k3, k4, k5, -⟩ := hi.row.at j (by omega)
  rw [hv] at e'
  simp only [Value.slice.injEq, Option.some.injEq, Addr.mk.injEq] at e'
  obtain ⟨⟨rfl, -⟩, hn, -⟩ := e'
  obtain ⟨i1, i2, i3⟩ := hi.inn j (by omega) hj
  exact ⟨⟨_, _, _, by rw [k1, i1], by rw [k2, i2], k3, rfl, rfl, i3.rints⟩, k4, k5, by omega, hU _ (.inr (.inl (hi.so _ (by rw [hv]; rfl))))⟩
theorem DO.atB {w : World} {S : Nat → Prop} {u v iv bv : Value} {xs ys : List Bool} {is : List Ino} {bs : List Blk} (h : DO w S u v iv bv xs ys is bs) {g n cap : Nat} (hv : bv = .slice (some ⟨g, 0, none⟩) n cap) (j : Nat) (hj : j < bs.length) :
    (∃ a p t, w.cell? ⟨g, j * 3, none⟩ = some (.bool a) ∧ w.cell? ⟨g, j * 3 + 1, none⟩ = some p ∧ w.cell? ⟨g, j * 3 + 2, none⟩ = some (.string t) ∧ a = bs[j].1 ∧ t = bs[j].2.2 ∧ RSl w p bs[j].2.1) ∧ (∀ k, w.frozen? ⟨g, k, none⟩ = false) ∧ g < w.heap.size ∧ n = bs.length ∧ S g := by
  obtain ⟨S1, S2, S3, ti, tb, h1, -, -, hi, -, -, hU⟩ := h
  have hl := hi.len
  obtain ⟨g', c', e', k1, k2, k3, k4, k5, -⟩ := hi.row.at j (by omega)
  rw [hv] at e'
  simp only [Value.slice.injEq, Option.some.injEq, Addr.mk.injEq] at e'
  obtain ⟨⟨rfl, -⟩, hn, -⟩ := e'
  obtain ⟨i1, i2, i3⟩ := hi.inn j (by omega) hj
  exact ⟨⟨_, _, _, by rw [k1, i1], k2, by rw [k3, i3], rfl, rfl, i2.rsl⟩, k4, k5, by omega, hU _ (.inr (.inr (hi.so _ (by rw [hv]; rfl))))⟩
/-- An inode of new memory is put in its place. -/
theorem DO.putI {w w1 : World} {S : Nat → Prop} {u v iv bv : Value} {xs ys : List Bool} {is : List Ino} {bs : List Blk} (h : DO w S u v iv bv xs ys is bs) {g n cap : Nat} (hv : iv = .slice (some ⟨g, 0, none⟩) n cap) (j : Nat) (hj : j < is.length) (t' : V3) (x' : Ino)
    (hb : Below w.heap.size w w1) (hO : KI.O w1 t' x') (hn : ∀ k, t'.2.2.ownBlock = some k → w.heap.size ≤ k) :
    DO (((w1.setCell ⟨g, j * 3, none⟩ t'.1).setCell ⟨g, j * 3 + 1, none⟩ t'.2.1).setCell ⟨g, j * 3 + 2, none⟩ t'.2.2) (fun k => S k ∨ w.heap.size ≤ k) u v iv bv xs ys (is.set j x') bs := by
  obtain ⟨S1, S2, S3, ti, tb, h1, hs1, hi, hk, d1, d2, hU⟩ := h
  have hg : g < w.heap.size := hi.row.lt g (by rw [hv]; rfl)
  have hg2 : S2 g := hi.so g (by rw [hv]; rfl)
  have hoth : ∀ k, k < w.heap.size → k ≠ g → (((w1.setCell ⟨g, j * 3, none⟩ t'.1).setCell ⟨g, j * 3 + 1, none⟩ t'.2.1).setCell ⟨g, j * 3 + 2, none⟩ t'.2.2).heap[k]? = w.heap[k]? := fun k hk1 hk =>
    (((heap_setCell_other _ ⟨g, j * 3 + 2, none⟩ k _ (by simpa using hk)).trans (heap_setCell_other _ ⟨g, j * 3 + 1, none⟩ k _ (by simpa using hk))).trans (heap_setCell_other _ ⟨g, j * 3, none⟩ k _ (by simpa using hk))).trans (hb.block k hk1)
  have h12 : ∀ m, (u.ownBlock = some m ∨ v.ownBlock = some m) → m < w.heap.size := fun m hm => hm.elim (fun e => (h1.a.lt m e).2) (fun e => (h1.b.lt m e).2)
  have hi2 := hi.bound.put hv j (by rw [hi.len]; exact hj) t' x' hb hO hn (S' := fun k => (S2 k ∧ k < w.heap.size) ∨ w.heap.size ≤ k) (fun k hk => .inl hk) (fun k hk => .inr hk)
  refine ⟨fun k => u.ownBlock = some k ∨ v.ownBlock = some k, _, fun k => S3 k ∧ k < w.heap.size, _, tb, ⟨h1.a.of_heap fun k hk => hoth k (h12 k (.inl hk)) (fun e => (d1 k (hs1 k (.inl hk))).1 (e ▸ hg2)), h1.b.of_heap fun k hk => hoth k (h12 k (.inr hk)) (fun e => (d1 k (hs1 k (.inr hk))).1 (e ▸ hg2)), h1.ne⟩, fun k hk => hk, hi2, hk.bound.of_heap fun k hk hlt => hoth k hlt (fun e => d2 g hg2 (e ▸ hk.1)), fun k hk => ⟨fun e => ?_, fun e => (d1 k (hs1 k hk)).2 e.1⟩, fun k hk e => ?_, fun k hk => ?_⟩
  · rcases e with e | e
    · exact (d1 k (hs1 k hk)).1 e.1
    · have := h12 k hk; omega
  · rcases hk with hk | hk
    · exact d2 k hk.1 e.1
    · have := e.2; omega
  · rcases hk with hk | (hk | hk) | hk
    · exact .inl (hU k (.inl (hs1 k hk)))
    · exact .inl (hU k (.inr (.inl hk.1)))
    · exact .inr hk
    · exact .inl (hU k (.inr (.inr hk.1)))
/-- A block of new memory is put in its place. -/
theorem DO.putB {w w1 : World} {S : Nat → Prop} {u v iv bv : Value} {xs ys : List Bool} {is : List Ino} {bs : List Blk} (h : DO w S u v iv bv xs ys is bs) {g n cap : Nat} (hv : bv = .slice (some ⟨g, 0, none⟩) n cap) (j : Nat) (hj : j < bs.length) (t' : V3) (x' : Blk)
    (hb : Below w.heap.size w w1) (hO : KB.O w1 t' x') (hn : ∀ k, t'.2.1.ownBlock = some k → w.heap.size ≤ k) :
    DO (((w1.setCell ⟨g, j * 3, none⟩ t'.1).setCell ⟨g, j * 3 + 1, none⟩ t'.2.1).setCell ⟨g, j * 3 + 2, none⟩ t'.2.2) (fun k => S k ∨ w.heap.size ≤ k) u v iv bv xs ys is (bs.set j x') := by
  obtain ⟨S1, S2, S3, ti, tb, h1, hs1, hi, hk, d1, d2, hU⟩ := h
  have hg : g < w.heap.size := hk.row.lt g (by rw [hv]; rfl)
  have hg3 : S3 g := hk.so g (by rw [hv]; rfl)
  have hoth : ∀ k, k < w.heap.size → k ≠ g → (((w1.setCell ⟨g, j * 3, none⟩ t'.1).setCell ⟨g, j * 3 + 1, none⟩ t'.2.1).setCell ⟨g, j * 3 + 2, none⟩ t'.2.2).heap[k]? = w.heap[k]? := fun k hk1 hk =>
    (((heap_setCell_other _ ⟨g, j * 3 + 2, none⟩ k _ (by simpa using hk)).trans (heap_setCell_other _ ⟨g, j * 3 + 1, none⟩ k _ (by simpa using hk))).trans (heap_setCell_other _ ⟨g, j * 3, none⟩ k _ (by simpa using hk))).trans (hb.block k hk1)
  have h12 : ∀ m, (u.ownBlock = some m ∨ v.ownBlock = some m) → m < w.heap.size := fun m hm => hm.elim (fun e => (h1.a.lt m e).2) (fun e => (h1.b.lt m e).2)
  have hk2 := hk.bound.put hv j (by rw [hk.len]; exact hj) t' x' hb hO hn (S' := fun k => (S3 k ∧ k < w.heap.size) ∨ w.heap.size ≤ k) (fun k hk => .inl hk) (fun k hk => .inr hk)
  refine ⟨fun k => u.ownBlock = some k ∨ v.ownBlock = some k, fun k => S2 k ∧ k < w.heap.size, _, ti, _, ⟨h1.a.of_heap fun k hk => hoth k (h12 k (.inl hk)) (fun e => (d1 k (hs1 k (.inl hk))).2 (e ▸ hg3)), h1.b.of_heap fun k hk => hoth k (h12 k (.inr hk)) (fun e => (d1 k (hs1 k (.inr hk))).2 (e ▸ hg3)), h1.ne⟩, fun k hk => hk, hi.bound.of_heap fun k hk hlt => hoth k hlt (fun e => d2 k hk.1 (e.symm ▸ hg3)), hk2, fun k hk => ⟨fun e => (d1 k (hs1 k hk)).1 e.1, fun e => ?_⟩, fun k hk e => ?_, fun k hk => ?_⟩
  · rcases e with e | e
    · exact (d1 k (hs1 k hk)).2 e.1
    · have := h12 k hk; omega
  · rcases e with e | e
    · exact d2 k hk.1 e.1
    · have := hk.2; omega
  · rcases hk with hk | hk | (hk | hk)
    · exact .inl (hU k (.inl (hs1 k hk)))
    · exact .inl (hU k (.inr (.inl hk.1)))
    · exact .inl (hU k (.inr (.inr hk.1)))
    · exact .inr hk
end Go.Proofs.YtggjillpfclajaaGreat.Kit
