/- What is known of memory while bits are drawn: the result, the variable, the two slices, the cursor; and spec.l01PickInt by its contract. -/
import Derived.Test.YtakkdfbcipbbjaaNew
import Derived.Test.YtakkdfbcipbbjaaDrawF
namespace Go.Proofs.Ytakkdfbcipbbjaa
open Go.RowKit Kit
theorem Drew.drew {w0 w w' : World} {c len cap : Nat} {a : Option Addr} (h : Drew w0 w w' c a len cap) : Drew w0 w w'.drew c a len cap := ⟨⟨h.1.1, h.1.2.1.drew, h.1.2.2⟩, ⟨h.2.os, h.2.tape, h.2.output, h.2.size, h.2.block⟩⟩
theorem Drew.setCell {w0 w w' : World} {c len cap : Nat} {a : Option Addr} (h : Drew w0 w w' c a len cap) (hc : c < w.heap.size) {B j : Nat} (hB : w.heap.size ≤ B) (x : Value) : Drew w0 w (w'.setCell ⟨B, j, none⟩ x) c a len cap := by
  have h1 := h.1.1
  refine ⟨⟨h.1.1, h.1.2.1.setCell (p := ⟨B, j, none⟩) (by show w0.heap.size ≤ B; omega) _, ?_⟩, ⟨h.2.os, h.2.tape, h.2.output, by simpa using h.2.size, fun k hk hr => (heap_setCell_other w' ⟨B, j, none⟩ k x (by show k ≠ B; omega)).trans (h.2.block k hk hr)⟩⟩
  obtain ⟨i, y, hk, hi⟩ := h.1.2.2
  exact ⟨i, y, (heap_setCell_other w' ⟨B, j, none⟩ c x (by show c ≠ B; omega)).trans hk, hi⟩
/-- While bits are drawn: the result's block, the variable's block bx that holds p and q, the slices u and v, and the cursor c. -/
structure Sb (w0 w w' : World) (c : Nat) (a : Option Addr) (len cap : Nat) (bx : Nat) (p q u v : Value) (xs ys : List Bool) : Prop where
  res : AtP 26 w' w.heap.size (.slice none 0 0) (.slice none 0 0)
  var : AtP 26 w' bx p q
  two : Two w' (w.heap.size + 1) u v xs ys
  dr : Drew w0 w w' c a len cap
  hx : w.heap.size < bx
  hn : ∀ k, (u.ownBlock = some k ∨ v.ownBlock = some k) → k ≠ bx
  hc : c < w.heap.size
namespace Sb
variable {w0 w w' : World} {c len cap bx : Nat} {a : Option Addr} {p q u v : Value} {xs ys : List Bool}
theorem drews (h : Sb w0 w w' c a len cap bx p q u v xs ys) {w2 : World} (hd : Drew w0 w' w2 c a len cap) : Sb w0 w w2 c a len cap bx p q u v xs ys := by
  have h1 := h.hc
  have h2 := h.hx
  exact ⟨h.res.grown hd.2 (by intro e; cases e; omega), h.var.grown hd.2 (by intro e; cases e; omega), ⟨h.two.a.grown hd.2 (fun j hj e => by cases e; have := (h.two.a.lt _ hj).1; omega), h.two.b.grown hd.2 (fun j hj e => by cases e; have := (h.two.b.lt _ hj).1; omega), h.two.ne⟩, h.dr.trans hd, h.hx, h.hn, h.hc⟩
theorem drew (h : Sb w0 w w' c a len cap bx p q u v xs ys) : Sb w0 w w'.drew c a len cap bx p q u v xs ys := ⟨h.res.drew, h.var.drew, h.two.drew, h.dr.drew, h.hx, h.hn, h.hc⟩
theorem setX {g n cp : Nat} (h : Sb w0 w w' c a len cap bx p q (.slice (some ⟨g, 0, none⟩) n cp) v xs ys) (hn : xs.length = n) (j : Nat) (t : Bool) : Sb w0 w (w'.setCell ⟨g, j, none⟩ (.bool t)) c a len cap bx p q (.slice (some ⟨g, 0, none⟩) n cp) v (xs.set j t) ys := by
  have hg := h.two.a.lt g rfl
  have hb : g ≠ bx := h.hn g (.inl rfl)
  have e : (fc xs).set j (.bool t) = fc (xs.set j t) := by unfold fc; rw [List.map_set]
  have ha : ROwns w' (w.heap.size + 1) 4 (.slice (some ⟨g, 0, none⟩) (fc xs).length cp) (fc xs) := by rw [fc_length, hn]; exact h.two.a
  have ha' := (ha.stored j (.bool t)).1
  rw [e, fc_length, hn] at ha'
  exact ⟨h.res.set_other (by omega) _, h.var.set_other (by omega) _, ⟨ha', h.two.b.of_heap fun k hk => heap_setCell_other _ ⟨g, j, none⟩ k _ (fun e => by subst e; exact h.two.ne _ rfl hk), h.two.ne⟩, h.dr.setCell h.hc (by omega) _, h.hx, h.hn, h.hc⟩
theorem setY {g n cp : Nat} (h : Sb w0 w w' c a len cap bx p q u (.slice (some ⟨g, 0, none⟩) n cp) xs ys) (hn : ys.length = n) (j : Nat) (t : Bool) : Sb w0 w (w'.setCell ⟨g, j, none⟩ (.bool t)) c a len cap bx p q u (.slice (some ⟨g, 0, none⟩) n cp) xs (ys.set j t) := by
  have hg := h.two.b.lt g rfl
  have hb : g ≠ bx := h.hn g (.inr rfl)
  have e : (fc ys).set j (.bool t) = fc (ys.set j t) := by unfold fc; rw [List.map_set]
  have ha : ROwns w' (w.heap.size + 1) 4 (.slice (some ⟨g, 0, none⟩) (fc ys).length cp) (fc ys) := by rw [fc_length, hn]; exact h.two.b
  have ha' := (ha.stored j (.bool t)).1
  rw [e, fc_length, hn] at ha'
  exact ⟨h.res.set_other (by omega) _, h.var.set_other (by omega) _, ⟨h.two.a.of_heap fun k hk => heap_setCell_other _ ⟨g, j, none⟩ k _ (fun e => by subst e; exact h.two.ne _ hk rfl), ha', h.two.ne⟩, h.dr.setCell h.hc (by omega) _, h.hx, h.hn, h.hc⟩
theorem setP (h : Sb w0 w w' c a len cap bx p q u v xs ys) (p' : Value) : Sb w0 w (w'.setCell ⟨bx, 0, none⟩ p') c a len cap bx p' q u v xs ys := by
  have h1 := h.hx
  exact ⟨h.res.set_other (by omega) _, h.var.set0 p', ⟨h.two.a.of_heap fun k hk => heap_setCell_other _ ⟨bx, 0, none⟩ k _ (h.hn k (.inl hk)), h.two.b.of_heap fun k hk => heap_setCell_other _ ⟨bx, 0, none⟩ k _ (h.hn k (.inr hk)), h.two.ne⟩, h.dr.setCell h.hc (by omega) _, h.hx, h.hn, h.hc⟩
theorem setQ (h : Sb w0 w w' c a len cap bx p q u v xs ys) (q' : Value) : Sb w0 w (w'.setCell ⟨bx, 1, none⟩ q') c a len cap bx p q' u v xs ys := by
  have h1 := h.hx
  exact ⟨h.res.set_other (by omega) _, h.var.set1 q', ⟨h.two.a.of_heap fun k hk => heap_setCell_other _ ⟨bx, 1, none⟩ k _ (h.hn k (.inl hk)), h.two.b.of_heap fun k hk => heap_setCell_other _ ⟨bx, 1, none⟩ k _ (h.hn k (.inr hk)), h.two.ne⟩, h.dr.setCell h.hc (by omega) _, h.hx, h.hn, h.hc⟩
/-- The cells of the variable, and that they may be written. -/
theorem cells (h : Sb w0 w w' c a len cap bx p q u v xs ys) : w'.cell? ⟨bx, 0, none⟩ = some p ∧ w'.cell? ⟨bx, 1, none⟩ = some q ∧ w'.frozen? ⟨bx, 0, none⟩ = false ∧ w'.frozen? ⟨bx, 1, none⟩ = false ∧ bx < w'.heap.size :=
  ⟨h.var.cells.1, h.var.cells.2, h.var.frozen.1, h.var.frozen.2, h.var.lt⟩
theorem atX {g n cp : Nat} (h : Sb w0 w w' c a len cap bx p q (.slice (some ⟨g, 0, none⟩) n cp) v xs ys) (j : Nat) (hj : j < xs.length) : w'.cell? ⟨g, j, none⟩ = some (.bool xs[j]) ∧ w'.frozen? ⟨g, j, none⟩ = false ∧ g < w'.heap.size := by
  obtain ⟨g', c', e1, k1, k2, _, k4, _⟩ := h.two.a.at j (by rw [fc_length]; exact hj)
  simp only [Value.slice.injEq, Option.some.injEq, Addr.mk.injEq] at e1
  obtain ⟨⟨rfl, -, -⟩, -, -⟩ := e1
  exact ⟨by rw [k1]; simp [fc, hj], k2, k4⟩
theorem atY {g n cp : Nat} (h : Sb w0 w w' c a len cap bx p q u (.slice (some ⟨g, 0, none⟩) n cp) xs ys) (j : Nat) (hj : j < ys.length) : w'.cell? ⟨g, j, none⟩ = some (.bool ys[j]) ∧ w'.frozen? ⟨g, j, none⟩ = false ∧ g < w'.heap.size := by
  obtain ⟨g', c', e1, k1, k2, _, k4, _⟩ := h.two.b.at j (by rw [fc_length]; exact hj)
  simp only [Value.slice.injEq, Option.some.injEq, Addr.mk.injEq] at e1
  obtain ⟨⟨rfl, -, -⟩, -, -⟩ := e1
  exact ⟨by rw [k1]; simp [fc, hj], k2, k4⟩
end Sb
/-- Numbers as cells. -/
def ic (l : List Int) : List Value := l.map fun z => Value.int .i64 z

theorem pick_any (w0 w : World) (c g : Nat) (a : Option Addr) (len cap : Nat) (xs : List Int) (hcode : CodeIs w0 a len) (hlen : len ≤ 1048576) (hcur : Cur 60 w0 w c a len cap) (hg : w.heap[g]? = some (.cells (ic xs).toArray 3 (0, 0))) (hne : c ≠ g) (hx0 : 0 < xs.length) (hx1 : xs.length ≤ 256) :
    Calls Try.prog 32 #[.pointer (some ⟨c, 0, none⟩), .slice (some ⟨g, 0, none⟩) xs.length xs.length] w fun e w' => ∃ z : Int, z ∈ xs ∧ e = .returned (.int .i64 z) ∧ Drew w0 w w' c a len cap := by
  have HC := hide hcur
  have HO := hide hcode
  have HG := hide hg
  clear hcur hcode hg
  go_enter Try.func32, Try.ntmps32
  go_wp2_with fail
  refine (below_any w0 w c a len cap xs.length HO.out hlen HC.out hx0 (by omega)).mono ?_
  rintro e w1 ⟨x, hx, rfl, hd⟩
  have HD := hide hd
  obtain ⟨z, hz⟩ : ∃ z, xs[x] = z := ⟨_, rfl⟩
  have hmem : z ∈ xs := by rw [← hz]; exact List.getElem_mem _
  have hlt : g < w.heap.size := (Array.getElem?_eq_some_iff.1 HG.out).1
  have hcell : w1.cell? ⟨g, x, none⟩ = some (.int .i64 z) := by
    rw [cell_of_row w1 g x (ic xs).toArray 3 (0, 0) (by rw [hd.2.block g hlt (by simpa using Ne.symm hne)]; exact HG.out)]
    simp [ic, hx, hz]
  have HM := hide hmem
  clear hd hz hmem
  go_wp2
  go_ret
  exact ⟨z, HM.out, rfl, HD.out⟩
end Go.Proofs.Ytakkdfbcipbbjaa
