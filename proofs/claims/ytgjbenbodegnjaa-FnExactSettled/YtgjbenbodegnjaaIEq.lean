
/- laws.eqInode, laws.markInode and laws.heldInode by their contracts. -/
import Derived.Test.YtgjbenbodegnjaaCom
import Derived.Test.YtgjbenbodegnjaaIRec
namespace Go.Proofs.Ytgjbenbodegnjaa.Kit
open Go.RowKit
theorem RInts.alloc {w : World} {v : Value} {xs : List Int} (h : RInts w v xs) (o : Obj) : RInts (w.alloc o) v xs := h.below ((Below.refl _ w).alloc (Nat.le_refl _) o) (Nat.le_refl _)
theorem RInts.form {w : World} {v : Value} {xs : List Int} (h : RInts w v xs) : ∃ a c, v = .slice a xs.length c := by
  obtain ⟨a, c, h, _⟩ := h
  exact ⟨a, c, h⟩
/-- A variable of an inode's type lies in block b. -/
def AtI (w : World) (b : Nat) (k l : Int) (v : Value) : Prop := w.heap[b]? = some (.cells #[.int .i64 k, .int .i64 l, v] 80 (0, 0))
theorem AtI.lt {w : World} {b : Nat} {k l : Int} {v : Value} (h : AtI w b k l v) : b < w.heap.size := (Array.getElem?_eq_some_iff.1 h).1
theorem AtI.new (w : World) (k l : Int) (v : Value) : AtI (w.alloc (.cells #[.int .i64 k, .int .i64 l, v] 80)) w.heap.size k l v := heap_new w _
theorem AtI.alloc {w : World} {b : Nat} {k l : Int} {v : Value} (h : AtI w b k l v) (o : Obj) : AtI (w.alloc o) b k l v := (Below.heap_alloc _ _ _ h.lt).trans h
theorem AtI.below {w w' : World} {b B : Nat} {k l : Int} {v : Value} (h : AtI w b k l v) (hb : Below B w w') (hB : b < B) : AtI w' b k l v := (hb.block b hB).trans h
theorem AtI.grown {w w' : World} {b : Nat} {k l : Int} {v : Value} {row : Option Nat} (h : AtI w b k l v) (hg : w.grownBy w' row) (hr : row ≠ some b) : AtI w' b k l v := (hg.block b h.lt (fun e => hr e.symm)).trans h
theorem AtI.cells {w : World} {b : Nat} {k l : Int} {v : Value} (h : AtI w b k l v) :
    w.cell? ⟨b, 0, none⟩ = some (.int .i64 k) ∧ w.cell? ⟨b, 1, none⟩ = some (.int .i64 l) ∧ w.cell? ⟨b, 2, none⟩ = some v ∧ b < w.heap.size := by
  have h' : w.heap[b]? = some (.cells #[.int .i64 k, .int .i64 l, v] 80 (0, 0)) := h
  exact ⟨by simp [World.cell?, h'], by simp [World.cell?, h'], by simp [World.cell?, h'], h.lt⟩
end Go.Proofs.Ytgjbenbodegnjaa.Kit
namespace Go.Proofs.Ytgjbenbodegnjaa
open Go.RowKit Kit

set_option maxHeartbeats 800000 in
theorem eqN_sameI (k l : Int) (va vb : Value) (xs : List Int) (w : World) (ha : RInts w va xs) (hb : RInts w vb xs) (hl : xs.length ≤ 1000000000) :
    Calls Try.prog 38 #[.agg #[.int .i64 k, .int .i64 l, va], .agg #[.int .i64 k, .int .i64 l, vb]] w fun e w' => e = .returned (.bool true) ∧ Below w.heap.size w w' := by
  obtain ⟨a1, c1, rfl⟩ := ha.form
  obtain ⟨a2, c2, rfl⟩ := hb.form
  have HA := hide ha
  have HB := hide hb
  clear ha hb
  go_enter Try.func38, Try.ntmps38
  go_wp2_with fail
  refine (eqI_same _ _ xs _ ((HA.out.alloc _).alloc _) ((HB.out.alloc _).alloc _) hl).mono ?_
  rintro e w1 ⟨rfl, B1⟩
  have HB1 := hide B1
  clear B1
  go_wp2
  go_ret
  exact ⟨rfl, ((((Below.refl _ w).alloc (Nat.le_refl _) _).alloc (by simp) _).trans (HB1.out.mono (by simp; omega)))⟩

end Go.Proofs.Ytgjbenbodegnjaa
