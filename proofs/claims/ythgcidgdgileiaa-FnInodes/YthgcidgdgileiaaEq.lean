/- laws.eqInode, laws.markInode and laws.heldInode by their contracts. -/
import Derived.Test.YthgcidgdgileiaaRec
namespace Go.Proofs.Ythgcidgdgileiaa.Kit
open Go.RowKit
theorem RInts.alloc {w : World} {v : Value} {xs : List Int} (h : RInts w v xs) (o : Obj) : RInts (w.alloc o) v xs := h.below ((Below.refl _ w).alloc (Nat.le_refl _) o) (Nat.le_refl _)
theorem RInts.form {w : World} {v : Value} {xs : List Int} (h : RInts w v xs) : ∃ a c, v = .slice a xs.length c := by
  obtain ⟨a, c, h, _⟩ := h
  exact ⟨a, c, h⟩
/-- A variable of an inode's type lies in block b. -/
def At (w : World) (b : Nat) (k l : Int) (v : Value) : Prop := w.heap[b]? = some (.cells #[.int .i64 k, .int .i64 l, v] 26 (0, 0))
theorem At.lt {w : World} {b : Nat} {k l : Int} {v : Value} (h : At w b k l v) : b < w.heap.size := (Array.getElem?_eq_some_iff.1 h).1
theorem At.new (w : World) (k l : Int) (v : Value) : At (w.alloc (.cells #[.int .i64 k, .int .i64 l, v] 26)) w.heap.size k l v := heap_new w _
theorem At.alloc {w : World} {b : Nat} {k l : Int} {v : Value} (h : At w b k l v) (o : Obj) : At (w.alloc o) b k l v := (Below.heap_alloc _ _ _ h.lt).trans h
theorem At.below {w w' : World} {b B : Nat} {k l : Int} {v : Value} (h : At w b k l v) (hb : Below B w w') (hB : b < B) : At w' b k l v := (hb.block b hB).trans h
theorem At.grown {w w' : World} {b : Nat} {k l : Int} {v : Value} {row : Option Nat} (h : At w b k l v) (hg : w.grownBy w' row) (hr : row ≠ some b) : At w' b k l v := (hg.block b h.lt (fun e => hr e.symm)).trans h
theorem At.cells {w : World} {b : Nat} {k l : Int} {v : Value} (h : At w b k l v) :
    w.cell? ⟨b, 0, none⟩ = some (.int .i64 k) ∧ w.cell? ⟨b, 1, none⟩ = some (.int .i64 l) ∧ w.cell? ⟨b, 2, none⟩ = some v ∧ b < w.heap.size := by
  have h' : w.heap[b]? = some (.cells #[.int .i64 k, .int .i64 l, v] 26 (0, 0)) := h
  exact ⟨by simp [World.cell?, h'], by simp [World.cell?, h'], by simp [World.cell?, h'], h.lt⟩
end Go.Proofs.Ythgcidgdgileiaa.Kit
namespace Go.Proofs.Ythgcidgdgileiaa
open Go.RowKit Kit

set_option maxHeartbeats 800000 in
theorem eqN_same (k l : Int) (va vb : Value) (xs : List Int) (w : World) (ha : RInts w va xs) (hb : RInts w vb xs) (hl : xs.length ≤ 1000000000) :
    Calls Try.prog 22 #[.agg #[.int .i64 k, .int .i64 l, va], .agg #[.int .i64 k, .int .i64 l, vb]] w fun e w' => e = .returned (.bool true) ∧ Below w.heap.size w w' := by
  obtain ⟨a1, c1, rfl⟩ := ha.form
  obtain ⟨a2, c2, rfl⟩ := hb.form
  have HA := hide ha
  have HB := hide hb
  clear ha hb
  go_enter Try.func22, Try.ntmps22
  go_wp2_with fail
  refine (eqI_same _ _ xs _ ((HA.out.alloc _).alloc _) ((HB.out.alloc _).alloc _) hl).mono ?_
  rintro e w1 ⟨rfl, B1⟩
  have HB1 := hide B1
  clear B1
  go_wp2
  go_ret
  exact ⟨rfl, ((((Below.refl _ w).alloc (Nat.le_refl _) _).alloc (by simp) _).trans (HB1.out.mono (by simp; omega)))⟩

set_option maxHeartbeats 800000 in
theorem markN_any (k l : Int) (v : Value) (xs : List Int) (base m : Nat) (w : World) (ha : ROwns w base 3 v (ic xs)) (hm : m ≤ 1000000000) (hl : xs.length ≤ 1000000000) :
    Calls Try.prog 23 #[.agg #[.int .i64 k, .int .i64 l, v], .int .i64 m] w fun e w' => e = .returned (.int .i64 (m + xs.length : Nat)) ∧ ROwns w' base 3 v (ic (marks m xs.length)) ∧ w.grownBy w' v.ownBlock := by
  obtain ⟨a1, c1, rfl⟩ := ha.rints.form
  have HA := hide ha
  clear ha
  go_enter Try.func23, Try.ntmps23
  go_wp2_with fail
  refine (markI_any _ xs base m _ (HA.out.alloc _) hm hl).mono ?_
  rintro e w1 ⟨rfl, O1, G1⟩
  have HO := hide O1
  have HG := hide G1
  clear O1 G1
  go_wp2
  go_ret
  exact ⟨rfl, HO.out, grownBy_trans (grownBy_below ((Below.refl _ w).alloc (Nat.le_refl _) _) _) HG.out⟩

set_option maxHeartbeats 800000 in
theorem heldN_any (k l : Int) (v : Value) (n base m : Nat) (w : World) (ha : ROwns w base 3 v (ic (marks m n))) (hm : m ≤ 1000000000) (hl : n ≤ 1000000000) :
    Calls Try.prog 24 #[.agg #[.int .i64 k, .int .i64 l, v], .int .i64 m] w fun e w' => e = .returned (.int .i64 (m + n : Nat)) ∧ Below w.heap.size w w' := by
  obtain ⟨a1, c1, rfl⟩ := ha.rints.form
  have HA := hide ha
  clear ha
  go_enter Try.func24, Try.ntmps24
  go_wp2_with fail
  refine (heldI_any _ n base m _ (HA.out.alloc _) hm hl).mono ?_
  rintro e w1 ⟨rfl, B1⟩
  have HB1 := hide B1
  clear B1
  go_wp2
  go_ret
  exact ⟨rfl, ((Below.refl _ w).alloc (Nat.le_refl _) _).trans (HB1.out.mono (by simp))⟩
end Go.Proofs.Ythgcidgdgileiaa
