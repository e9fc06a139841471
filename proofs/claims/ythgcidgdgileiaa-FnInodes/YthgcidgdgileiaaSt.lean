/- What is known of memory while an inode is drawn: its variable, its pointers, the cursor; and spec.l01PickInt by its contract. -/
import Derived.Test.YthgcidgdgileiaaArg
import Derived.Test.YthgcidgdgileiaaDraw
namespace Go.Proofs.Ythgcidgdgileiaa.Kit
open Go.RowKit
theorem AtT.set_other {T : TypeId} {w : World} {b : Nat} {k l : Int} {v : Value} (h : AtT T w b k l v) {B j : Nat} (hne : b ≠ B) (x : Value) : AtT T (w.setCell ⟨B, j, none⟩ x) b k l v := (heap_setCell_other w ⟨B, j, none⟩ b x hne).trans h
theorem AtT.set0 {T : TypeId} {w : World} {b : Nat} {k l : Int} {v : Value} (h : AtT T w b k l v) (z : Int) : AtT T (w.setCell ⟨b, 0, none⟩ (.int .i64 z)) b z l v := by
  have := heap_setCell_same w b 0 _ T (.int .i64 z) h
  exact this
theorem AtT.set1 {T : TypeId} {w : World} {b : Nat} {k l : Int} {v : Value} (h : AtT T w b k l v) (z : Int) : AtT T (w.setCell ⟨b, 1, none⟩ (.int .i64 z)) b k z v := by
  have := heap_setCell_same w b 1 _ T (.int .i64 z) h
  exact this
theorem AtT.set2 {T : TypeId} {w : World} {b : Nat} {k l : Int} {v : Value} (h : AtT T w b k l v) (u : Value) : AtT T (w.setCell ⟨b, 2, none⟩ u) b k l u := by
  have := heap_setCell_same w b 2 _ T u h
  exact this
theorem AtT.frozen {T : TypeId} {w : World} {b : Nat} {k l : Int} {v : Value} (h : AtT T w b k l v) : w.frozen? ⟨b, 0, none⟩ = false ∧ w.frozen? ⟨b, 1, none⟩ = false ∧ w.frozen? ⟨b, 2, none⟩ = false := by
  have h' : w.heap[b]? = some (.cells #[.int .i64 k, .int .i64 l, v] T (0, 0)) := h
  exact ⟨by simp [World.frozen?, h'], by simp [World.frozen?, h'], by simp [World.frozen?, h']⟩
theorem AtT.drew {T : TypeId} {w : World} {b : Nat} {k l : Int} {v : Value} (h : AtT T w b k l v) : AtT T w.drew b k l v := h
end Go.Proofs.Ythgcidgdgileiaa.Kit
namespace Go.Proofs.Ythgcidgdgileiaa
open Go.RowKit Kit
theorem Drew.refl {w0 w : World} {c len cap : Nat} {a : Option Addr} (h : Cur 64 w0 w c a len cap) : Drew w0 w w c a len cap := ⟨h, grownBy_below (Below.refl _ _) _⟩
theorem Drew.drew {w0 w w' : World} {c len cap : Nat} {a : Option Addr} (h : Drew w0 w w' c a len cap) : Drew w0 w w'.drew c a len cap := ⟨⟨h.1.1, h.1.2.1.drew, h.1.2.2⟩, ⟨h.2.os, h.2.tape, h.2.output, h.2.size, h.2.block⟩⟩
theorem Drew.below {w0 w w' w2 : World} {c len cap : Nat} {a : Option Addr} (h : Drew w0 w w' c a len cap) (hc : c < w.heap.size) (hb : Below w'.heap.size w' w2) : Drew w0 w w2 c a len cap := by
  have h1 := h.1.2.1.size
  have h2 := h.2.size
  refine ⟨⟨h.1.1, h.1.2.1.trans (hb.mono h1), ?_⟩, grownBy_trans h.2 (grownBy_below hb _)⟩
  obtain ⟨i, x, hk, hi⟩ := h.1.2.2
  exact ⟨i, x, by rw [hb.block c (by omega)]; exact hk, hi⟩
theorem Drew.setCell {w0 w w' : World} {c len cap : Nat} {a : Option Addr} (h : Drew w0 w w' c a len cap) (hc : c < w.heap.size) {B j : Nat} (hB : w.heap.size ≤ B) (x : Value) : Drew w0 w (w'.setCell ⟨B, j, none⟩ x) c a len cap := by
  have h1 := h.1.1
  refine ⟨⟨h.1.1, h.1.2.1.setCell (p := ⟨B, j, none⟩) (by show w0.heap.size ≤ B; omega) _, ?_⟩, ⟨h.2.os, h.2.tape, h.2.output, by simpa using h.2.size, fun k hk hr => (heap_setCell_other w' ⟨B, j, none⟩ k x (by show k ≠ B; omega)).trans (h.2.block k hk hr)⟩⟩
  obtain ⟨i, y, hk, hi⟩ := h.1.2.2
  exact ⟨i, y, (heap_setCell_other w' ⟨B, j, none⟩ c x (by show c ≠ B; omega)).trans hk, hi⟩

/-- While an inode is drawn: the result's block, its variable's block bx, its pointers' block g, and the cursor c. -/
structure St (w0 w w' : World) (c : Nat) (a : Option Addr) (len cap : Nat) (bx g cap2 : Nat) (k l p q : Int) : Prop where
  res : AtT 26 w' w.heap.size 0 0 (.slice none 0 0)
  x : AtT 26 w' bx k l (.slice (some ⟨g, 0, none⟩) 2 cap2)
  own : ROwns w' (w.heap.size + 1) 3 (.slice (some ⟨g, 0, none⟩) 2 cap2) (ic [p, q])
  dr : Drew w0 w w' c a len cap
  hx : w.heap.size < bx
  hne : bx ≠ g
  hc : c < w.heap.size
namespace St
variable {w0 w w' : World} {c len cap bx g cap2 : Nat} {a : Option Addr} {k l p q : Int}
theorem hg (h : St w0 w w' c a len cap bx g cap2 k l p q) : w.heap.size < g ∧ g < w'.heap.size := h.own.lt g rfl
theorem drews (h : St w0 w w' c a len cap bx g cap2 k l p q) {w2 : World} (hd : Drew w0 w' w2 c a len cap) : St w0 w w2 c a len cap bx g cap2 k l p q := by
  have h1 := h.hc
  have h2 := h.hx
  have h3 := h.hg
  exact ⟨h.res.grown hd.2 (by intro e; cases e; omega), h.x.grown hd.2 (by intro e; cases e; omega), h.own.grown hd.2 (fun j hj e => by cases e; have := (h.own.lt _ hj).1; omega), h.dr.trans hd, h.hx, h.hne, h.hc⟩
theorem drew (h : St w0 w w' c a len cap bx g cap2 k l p q) : St w0 w w'.drew c a len cap bx g cap2 k l p q := ⟨h.res.drew, h.x.drew, h.own.drew, h.dr.drew, h.hx, h.hne, h.hc⟩
theorem alloc (h : St w0 w w' c a len cap bx g cap2 k l p q) (o : Obj) : St w0 w (w'.alloc o) c a len cap bx g cap2 k l p q := ⟨h.res.alloc o, h.x.alloc o, h.own.alloc o, h.dr.alloc h.hc o, h.hx, h.hne, h.hc⟩
theorem setKind (h : St w0 w w' c a len cap bx g cap2 k l p q) (z : Int) : St w0 w (w'.setCell ⟨bx, 0, none⟩ (.int .i64 z)) c a len cap bx g cap2 z l p q :=
  ⟨h.res.set_other (by have := h.hx; omega) _, h.x.set0 z, h.own.of_heap fun j hj => heap_setCell_other _ ⟨bx, 0, none⟩ j _ (by have e1 : g = j := (by simpa [Value.ownBlock] using hj); have e2 := h.hne; show j ≠ bx; omega), h.dr.setCell h.hc (by have := h.hx; omega) _, h.hx, h.hne, h.hc⟩
theorem setLinks (h : St w0 w w' c a len cap bx g cap2 k l p q) (z : Int) : St w0 w (w'.setCell ⟨bx, 1, none⟩ (.int .i64 z)) c a len cap bx g cap2 k z p q :=
  ⟨h.res.set_other (by have := h.hx; omega) _, h.x.set1 z, h.own.of_heap fun j hj => heap_setCell_other _ ⟨bx, 1, none⟩ j _ (by have e1 : g = j := (by simpa [Value.ownBlock] using hj); have e2 := h.hne; show j ≠ bx; omega), h.dr.setCell h.hc (by have := h.hx; omega) _, h.hx, h.hne, h.hc⟩
theorem setP (h : St w0 w w' c a len cap bx g cap2 k l p q) (z : Int) : St w0 w (w'.setCell ⟨g, 0, none⟩ (.int .i64 z)) c a len cap bx g cap2 k l z q :=
  ⟨h.res.set_other (by have := h.hg; omega) _, h.x.set_other h.hne _, (ROwns.stored (l := ic [p, q]) h.own 0 (.int .i64 z)).1, h.dr.setCell h.hc (by have := h.hg; omega) _, h.hx, h.hne, h.hc⟩
theorem setQ (h : St w0 w w' c a len cap bx g cap2 k l p q) (z : Int) : St w0 w (w'.setCell ⟨g, 1, none⟩ (.int .i64 z)) c a len cap bx g cap2 k l p z :=
  ⟨h.res.set_other (by have := h.hg; omega) _, h.x.set_other h.hne _, (ROwns.stored (l := ic [p, q]) h.own 1 (.int .i64 z)).1, h.dr.setCell h.hc (by have := h.hg; omega) _, h.hx, h.hne, h.hc⟩
/-- The cells of the variable, and that they may be written. -/
theorem cells (h : St w0 w w' c a len cap bx g cap2 k l p q) : w'.cell? ⟨bx, 0, none⟩ = some (.int .i64 k) ∧ w'.cell? ⟨bx, 1, none⟩ = some (.int .i64 l) ∧ w'.cell? ⟨bx, 2, none⟩ = some (.slice (some ⟨g, 0, none⟩) 2 cap2) ∧ w'.frozen? ⟨bx, 0, none⟩ = false ∧ w'.frozen? ⟨bx, 1, none⟩ = false ∧ w'.frozen? ⟨bx, 2, none⟩ = false ∧ bx < w'.heap.size := by
  obtain ⟨a1, a2, a3⟩ := h.x.cells
  obtain ⟨b1, b2, b3⟩ := h.x.frozen
  exact ⟨a1, a2, a3, b1, b2, b3, h.x.lt⟩
/-- The cells of the pointers, and that they may be written. -/
theorem ptrs (h : St w0 w w' c a len cap bx g cap2 k l p q) : w'.cell? ⟨g, 0, none⟩ = some (.int .i64 p) ∧ w'.cell? ⟨g, 1, none⟩ = some (.int .i64 q) ∧ w'.frozen? ⟨g, 0, none⟩ = false ∧ w'.frozen? ⟨g, 1, none⟩ = false := by
  have h' : w'.ownsRow (w.heap.size + 1) 3 1 (.slice (some ⟨g, 0, none⟩) 2 cap2) 2 (ic [p, q]) := h.own
  exact ⟨h'.cellAt 0 (by decide), h'.cellAt 1 (by decide), h'.frozenAt 0, h'.frozenAt 1⟩
end St

theorem pick_any (w0 w : World) (c g : Nat) (a : Option Addr) (len cap : Nat) (xs : List Int) (hcode : CodeIs w0 a len) (hlen : len ≤ 1048576) (hcur : Cur 64 w0 w c a len cap) (hg : w.heap[g]? = some (.cells (ic xs).toArray 3 (0, 0))) (hne : c ≠ g) (hx0 : 0 < xs.length) (hx1 : xs.length ≤ 256) :
    Calls Try.prog 44 #[.pointer (some ⟨c, 0, none⟩), .slice (some ⟨g, 0, none⟩) xs.length xs.length] w fun e w' => ∃ z : Int, z ∈ xs ∧ e = .returned (.int .i64 z) ∧ Drew w0 w w' c a len cap := by
  have HC := hide hcur
  have HO := hide hcode
  have HG := hide hg
  clear hcur hcode hg
  go_enter Try.func44, Try.ntmps44
  go_wp2_with fail
  refine (below_any w0 w c a len cap xs.length HO.out hlen HC.out hx0 (by omega)).mono ?_
  rintro e w1 ⟨x, hx, rfl, hd⟩
  have HD := hide hd
  obtain ⟨z, hz⟩ : ∃ z, xs[x] = z := ⟨_, rfl⟩
  have hmem : z ∈ xs := by rw [← hz]; exact List.getElem_mem _
  have hlt : g < w.heap.size := (Array.getElem?_eq_some_iff.1 HG.out).1
  have hcell : w1.cell? ⟨g, x, none⟩ = some (.int .i64 z) := by
    rw [cell_of_row w1 g x (ic xs).toArray 3 (0, 0) (by rw [hd.2.block g hlt (by simpa using Ne.symm hne)]; exact HG.out)]
    simp [ic, hx, hz]
  have HM := hide hmem
  clear hd hz hmem
  go_wp2
  go_ret
  exact ⟨z, HM.out, rfl, HD.out⟩
end Go.Proofs.Ythgcidgdgileiaa
