
/- Copies of an inode, of a block: spec.l03Copy, spec.l04Copy, impl.newBlock by their contracts. -/
import Derived.Test.YtgjbenbodegnjaaCp
namespace Go.Proofs.Ytgjbenbodegnjaa.Kit
open Go.RowKit
theorem lit0_at (w : World) (A B : Obj) (e : TypeId) (m : Nat) : (((w.alloc A).alloc B).alloc (.cells #[] e)).ownsRow (w.heap.size + 1 + 1) e m (.slice (some ⟨w.heap.size + 1 + 1, 0, none⟩) 0 0) 0 [] := by
  have := World.ownsRow_lit (base := w.heap.size + 1 + 1) (e := e) (size := m) ((w.alloc A).alloc B) #[] 0 (by simp) (Nat.zero_le _) (by simp)
  simpa using this
theorem alloc3_below (w : World) (A B C : Obj) : Below w.heap.size w (((w.alloc A).alloc B).alloc C) := (((Below.refl _ w).alloc (Nat.le_refl _) _).alloc (by simp) _).alloc (by simp; omega) _
theorem AtC.two3 (w : World) (T1 T2 : TypeId) (cs ds : Array Value) (C : Obj) : AtC (((w.alloc (.cells cs T1)).alloc (.cells ds T2)).alloc C) w.heap.size T1 cs ∧ AtC (((w.alloc (.cells cs T1)).alloc (.cells ds T2)).alloc C) (w.heap.size + 1) T2 ds := by
  refine ⟨((AtC.new w T1 cs).alloc _).alloc _, ?_⟩
  have := (AtC.new (w.alloc (.cells cs T1)) T2 ds).alloc C
  simpa using this
theorem cp_after {w w1 : World} {T e : TypeId} {m n : Nat} {cs Z : Array Value} {ds : List Value} {v' : Value} (R1 : w1.ownsRow (w.heap.size + 1 + 1) e m v' n ds)
    (R2 : (((w.alloc (.cells cs T)).alloc (.cells Z T)).alloc (.cells #[] e)).grownBy w1 (Value.slice (some ⟨w.heap.size + 1 + 1, 0, none⟩) 0 0).ownBlock) :
    ∃ a1 c1, v' = .slice a1 n c1 ∧ Below w.heap.size w w1 ∧ AtC w1 w.heap.size T cs ∧ AtC w1 (w.heap.size + 1) T Z := by
  obtain ⟨k0, k1⟩ := AtC.two3 w T T cs Z (.cells #[] e)
  obtain ⟨a1, c1, e1⟩ : ∃ a1 c1, v' = .slice a1 n c1 := by
    rcases R1.2 with ⟨h1, h0⟩ | ⟨g, cap, cur, h1, -⟩
    · exact ⟨none, 0, by rw [h1, h0]⟩
    · exact ⟨_, _, h1⟩
  exact ⟨a1, c1, e1, below_of_append (alloc3_below w _ _ _) (by simp; omega) R2 (fun k hk => by simp [Value.ownBlock] at hk; omega), k0.grown R2 (by simp [Value.ownBlock]; omega), k1.grown R2 (by simp [Value.ownBlock])⟩
end Go.Proofs.Ytgjbenbodegnjaa.Kit
namespace Go.Proofs.Ytgjbenbodegnjaa
open Go.RowKit Kit
/-- A block while its names are cloned: its box, the result's block, its slots. -/
structure Nb (w w' : World) (d : Bool) (t : ByteArray) (u : Value) (xs : List Sl) : Prop where
  box : AtC w' w.heap.size 84 #[.bool d, u, .string t]
  res : AtC w' (w.heap.size + 1) 84 #[.bool false, .slice none 0 0, .string ⟨#[]⟩]
  own : SOwns w' (w.heap.size + 1 + 1) 96 u xs
  bel : Below w.heap.size w w'
theorem Nb.below {w w' w1 : World} {d : Bool} {t : ByteArray} {u : Value} {xs : List Sl} (h : Nb w w' d t u xs) (hb : Below w'.heap.size w' w1) : Nb w w1 d t u xs := ⟨h.box.over hb, h.res.over hb, h.own.below hb (Nat.le_refl _), h.bel.trans (hb.mono h.bel.size)⟩
theorem Nb.set {w w' : World} {d : Bool} {t : ByteArray} {g c : Nat} {xs : List Sl} (h : Nb w w' d t (.slice (some ⟨g, 0, none⟩) xs.length c) xs) (j : Nat) (hj : j < xs.length) : Nb w (w'.setCell ⟨g, j * 2, none⟩ (.string xs[j].1)) d t (.slice (some ⟨g, 0, none⟩) xs.length c) xs := by
  have hg := (h.own.lt g rfl).1
  have h2 := (h.own.set_name j hj xs[j].1).1
  have e : xs.set j (xs[j].1, xs[j].2) = xs := by rw [show (xs[j].1, xs[j].2) = xs[j] from rfl, List.set_getElem_self]
  rw [e] at h2
  exact ⟨h.box.other (by omega) _, h.res.other (by omega) _, h2, h.bel.setCell (by show w.heap.size ≤ g; omega) _⟩
end Go.Proofs.Ytgjbenbodegnjaa
