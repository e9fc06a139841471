
/- Where bits lie, and laws.eqBits, laws.markBits, laws.heldBits by their contracts. -/
import Derived.Test.YtgjbenbodegnjaaCom
import Derived.Test.YtgjbenbodegnjaaBFl
namespace Go.Proofs.Ytgjbenbodegnjaa.Kit
open Go.RowKit
/-- A variable of two cells lies in block b. -/
def AtP (T : TypeId) (w : World) (b : Nat) (u v : Value) : Prop := w.heap[b]? = some (.cells #[u, v] T (0, 0))
theorem AtP.lt {T : TypeId} {w : World} {b : Nat} {u v : Value} (h : AtP T w b u v) : b < w.heap.size := (Array.getElem?_eq_some_iff.1 h).1
theorem AtP.new (T : TypeId) (w : World) (u v : Value) : AtP T (w.alloc (.cells #[u, v] T)) w.heap.size u v := heap_new w _
theorem AtP.alloc {T : TypeId} {w : World} {b : Nat} {u v : Value} (h : AtP T w b u v) (o : Obj) : AtP T (w.alloc o) b u v := (Below.heap_alloc _ _ _ h.lt).trans h
theorem AtP.below {T : TypeId} {w w' : World} {b B : Nat} {u v : Value} (h : AtP T w b u v) (hb : Below B w w') (hB : b < B) : AtP T w' b u v := (hb.block b hB).trans h
theorem AtP.grown {T : TypeId} {w w' : World} {b : Nat} {u v : Value} {row : Option Nat} (h : AtP T w b u v) (hg : w.grownBy w' row) (hr : row ≠ some b) : AtP T w' b u v := (hg.block b h.lt (fun e => hr e.symm)).trans h
theorem AtP.cells {T : TypeId} {w : World} {b : Nat} {u v : Value} (h : AtP T w b u v) : w.cell? ⟨b, 0, none⟩ = some u ∧ w.cell? ⟨b, 1, none⟩ = some v := by
  have h' : w.heap[b]? = some (.cells #[u, v] T (0, 0)) := h
  exact ⟨by simp [World.cell?, h'], by simp [World.cell?, h']⟩
theorem AtP.frozen {T : TypeId} {w : World} {b : Nat} {u v : Value} (h : AtP T w b u v) : w.frozen? ⟨b, 0, none⟩ = false ∧ w.frozen? ⟨b, 1, none⟩ = false := by
  have h' : w.heap[b]? = some (.cells #[u, v] T (0, 0)) := h
  exact ⟨by simp [World.frozen?, h'], by simp [World.frozen?, h']⟩
theorem AtP.set_other {T : TypeId} {w : World} {b : Nat} {u v : Value} (h : AtP T w b u v) {B j : Nat} (hne : b ≠ B) (x : Value) : AtP T (w.setCell ⟨B, j, none⟩ x) b u v := (heap_setCell_other w ⟨B, j, none⟩ b x hne).trans h
theorem AtP.set0 {T : TypeId} {w : World} {b : Nat} {u v : Value} (h : AtP T w b u v) (x : Value) : AtP T (w.setCell ⟨b, 0, none⟩ x) b x v := heap_setCell_same w b 0 _ T x h
theorem AtP.set1 {T : TypeId} {w : World} {b : Nat} {u v : Value} (h : AtP T w b u v) (x : Value) : AtP T (w.setCell ⟨b, 1, none⟩ x) b u x := heap_setCell_same w b 1 _ T x h
theorem AtP.drew {T : TypeId} {w : World} {b : Nat} {u v : Value} (h : AtP T w b u v) : AtP T w.drew b u v := h
/-- Two slices own the flags xs and ys, each in a block of its own. -/
structure Two (w : World) (base : Nat) (u v : Value) (xs ys : List Bool) : Prop where
  a : ROwns w base 4 u (fc xs)
  b : ROwns w base 4 v (fc ys)
  ne : ∀ k, u.ownBlock = some k → v.ownBlock ≠ some k
namespace Two
variable {w w' : World} {base : Nat} {u v : Value} {xs ys : List Bool}
theorem alloc (h : Two w base u v xs ys) (o : Obj) : Two (w.alloc o) base u v xs ys := ⟨h.a.alloc o, h.b.alloc o, h.ne⟩
theorem drew (h : Two w base u v xs ys) : Two w.drew base u v xs ys := ⟨h.a.drew, h.b.drew, h.ne⟩
theorem below {B : Nat} (h : Two w base u v xs ys) (hb : Below B w w') (hB : w.heap.size ≤ B) : Two w' base u v xs ys := ⟨h.a.below hb hB, h.b.below hb hB, h.ne⟩
theorem base_le {base' : Nat} (h : Two w base u v xs ys) (hb : base' ≤ base) : Two w base' u v xs ys := ⟨h.a.base_le hb, h.b.base_le hb, h.ne⟩
theorem set_other (h : Two w base u v xs ys) {b j : Nat} (hp : b < base) (x : Value) : Two (w.setCell ⟨b, j, none⟩ x) base u v xs ys := ⟨h.a.setCell_other hp x, h.b.setCell_other hp x, h.ne⟩
theorem form (h : Two w base u v xs ys) : ∃ a1 c1 a2 c2, u = .slice a1 xs.length c1 ∧ v = .slice a2 ys.length c2 := by
  obtain ⟨a1, c1, e1⟩ := h.a.rfl.form
  obtain ⟨a2, c2, e2⟩ := h.b.rfl.form
  exact ⟨a1, c1, a2, c2, e1, e2⟩
theorem nil (w : World) (base : Nat) : Two w base (.slice none 0 0) (.slice none 0 0) [] [] := ⟨ROwns.nil _ _ _, ROwns.nil _ _ _, fun k h => by cases h⟩
end Two
/-- Of what was there two blocks alone may have turned. -/
structure G2 (w w' : World) (r1 r2 : Option Nat) : Prop where
  os : w'.os = w.os
  tape : w'.tape = w.tape
  output : w'.output = w.output
  size : w.heap.size ≤ w'.heap.size
  block : ∀ k, k < w.heap.size → r1 ≠ some k → r2 ≠ some k → w'.heap[k]? = w.heap[k]?
theorem AtP.g2 {T : TypeId} {w w' : World} {b : Nat} {u v : Value} {r1 r2 : Option Nat} (h : AtP T w b u v) (hg : G2 w w' r1 r2) (h1 : r1 ≠ some b) (h2 : r2 ≠ some b) : AtP T w' b u v := (hg.block b h.lt h1 h2).trans h
theorem Two.g2 {w w' : World} {base : Nat} {u v : Value} {xs ys : List Bool} {r1 r2 : Option Nat} (h : Two w base u v xs ys) (hg : G2 w w' r1 r2) (h1 : ∀ k, (u.ownBlock = some k ∨ v.ownBlock = some k) → r1 ≠ some k ∧ r2 ≠ some k) : Two w' base u v xs ys :=
  ⟨h.a.of_heap fun k hk => hg.block k (h.a.lt k hk).2 (h1 k (.inl hk)).1 (h1 k (.inl hk)).2, h.b.of_heap fun k hk => hg.block k (h.b.lt k hk).2 (h1 k (.inr hk)).1 (h1 k (.inr hk)).2, h.ne⟩
end Go.Proofs.Ytgjbenbodegnjaa.Kit
namespace Go.Proofs.Ytgjbenbodegnjaa
open Go.RowKit Kit

set_option maxHeartbeats 800000 in
theorem eqN_sameB (ua ub va vb : Value) (xs ys : List Bool) (w : World) (h1 : RFl w ua xs) (h2 : RFl w ub ys) (h3 : RFl w va xs) (h4 : RFl w vb ys) (hx : xs.length ≤ 1000000000) (hy : ys.length ≤ 1000000000) :
    Calls Try.prog 28 #[.agg #[ua, ub], .agg #[va, vb]] w fun e w' => e = .returned (.bool true) ∧ Below w.heap.size w w' := by
  obtain ⟨a1, c1, rfl⟩ := h1.form
  obtain ⟨a2, c2, rfl⟩ := h2.form
  obtain ⟨a3, c3, rfl⟩ := h3.form
  obtain ⟨a4, c4, rfl⟩ := h4.form
  have H1 := hide h1
  have H2 := hide h2
  have H3 := hide h3
  have H4 := hide h4
  clear h1 h2 h3 h4
  go_enter Try.func28, Try.ntmps28
  go_wp2_with fail
  refine (eqB_sameB _ _ xs _ ((H1.out.alloc _).alloc _) ((H3.out.alloc _).alloc _) hx).mono ?_
  rintro e w1 ⟨rfl, B1⟩
  have X1 : AtP 34 w1 w.heap.size (.slice a1 xs.length c1) (.slice a2 ys.length c2) := ((AtP.new 34 w _ _).alloc _).below B1 (by simp; omega)
  have X2 : AtP 34 w1 (w.heap.size + 1) (.slice a3 xs.length c3) (.slice a4 ys.length c4) := by
    have := (AtP.new 34 (w.alloc (.cells #[.slice a1 xs.length c1, .slice a2 ys.length c2] 34)) (.slice a3 xs.length c3) (.slice a4 ys.length c4)).below B1 (by simp)
    rwa [World.size_alloc] at this
  have b1 : Below w.heap.size w w1 := ((((Below.refl _ w).alloc (Nat.le_refl _) _).alloc (by simp) _).trans (B1.mono (by simp; omega)))
  have n2 : RFl w1 (.slice a2 ys.length c2) ys := ((H2.out.alloc _).alloc _).below B1 (Nat.le_refl _)
  have n4 : RFl w1 (.slice a4 ys.length c4) ys := ((H4.out.alloc _).alloc _).below B1 (Nat.le_refl _)
  obtain ⟨p0, p1⟩ := X1.cells
  obtain ⟨q0, q1⟩ := X2.cells
  have m1 := X1.lt
  have m2 := X2.lt
  have HB := hide b1
  have HN := hide (And.intro n2 n4)
  clear B1 X1 X2 b1 n2 n4 H1 H2 H3 H4
  go_wp2_with fail
  refine (eqB_sameB _ _ ys w1 HN.out.1 HN.out.2 hy).mono ?_
  rintro e w2 ⟨rfl, B2⟩
  have HB2 := hide (HB.out.trans (B2.mono HB.out.size))
  clear B2 HB HN
  go_wp2
  go_ret
  exact ⟨rfl, HB2.out⟩

end Go.Proofs.Ytgjbenbodegnjaa
