
/- An inode that came in: where it lies, and spec's and impl's InodeOk and InodeText at every list of pointers. -/
import Derived.Test.YtajollmmpdkhbaaCom
import Derived.Test.YtajollmmpdkhbaaITextI
import Derived.Test.YtajollmmpdkhbaaITo
namespace Go.Proofs.Ytajollmmpdkhbaa.Kit
open Go.RowKit
/-- A variable of a type like an inode's lies in block b. -/
def AtT (T : TypeId) (w : World) (b : Nat) (k l : Int) (v : Value) : Prop := w.heap[b]? = some (.cells #[.int .i64 k, .int .i64 l, v] T (0, 0))
theorem AtT.lt {T : TypeId} {w : World} {b : Nat} {k l : Int} {v : Value} (h : AtT T w b k l v) : b < w.heap.size := (Array.getElem?_eq_some_iff.1 h).1
theorem AtT.new (T : TypeId) (w : World) (k l : Int) (v : Value) : AtT T (w.alloc (.cells #[.int .i64 k, .int .i64 l, v] T)) w.heap.size k l v := heap_new w _
theorem AtT.alloc {T : TypeId} {w : World} {b : Nat} {k l : Int} {v : Value} (h : AtT T w b k l v) (o : Obj) : AtT T (w.alloc o) b k l v := (Below.heap_alloc _ _ _ h.lt).trans h
theorem AtT.below {T : TypeId} {w w' : World} {b B : Nat} {k l : Int} {v : Value} (h : AtT T w b k l v) (hb : Below B w w') (hB : b < B) : AtT T w' b k l v := (hb.block b hB).trans h
theorem AtT.grown {T : TypeId} {w w' : World} {b : Nat} {k l : Int} {v : Value} {row : Option Nat} (h : AtT T w b k l v) (hg : w.grownBy w' row) (hr : row ≠ some b) : AtT T w' b k l v := (hg.block b h.lt (fun e => hr e.symm)).trans h
theorem AtT.cells {T : TypeId} {w : World} {b : Nat} {k l : Int} {v : Value} (h : AtT T w b k l v) :
    w.cell? ⟨b, 0, none⟩ = some (.int .i64 k) ∧ w.cell? ⟨b, 1, none⟩ = some (.int .i64 l) ∧ w.cell? ⟨b, 2, none⟩ = some v := by
  have h' : w.heap[b]? = some (.cells #[.int .i64 k, .int .i64 l, v] T (0, 0)) := h
  exact ⟨by simp [World.cell?, h'], by simp [World.cell?, h'], by simp [World.cell?, h']⟩
theorem RInts.drew {w : World} {v : Value} {xs : List Int} (h : RInts w v xs) : RInts w.drew v xs := h.below (Below.refl w.heap.size w).drew (Nat.le_refl _)
end Go.Proofs.Ytajollmmpdkhbaa.Kit
namespace Go.Proofs.Ytajollmmpdkhbaa
open Go.RowKit Kit
/-- An inode is right. -/
def okL (k l : Int) : List Int → Bool
  | [p, q] => okR k l p q
  | _ => false
theorem okL_other (k l : Int) (xs : List Int) (h : xs.length ≠ 2) : okL k l xs = false := by
  match xs, h with
  | [], _ => rfl
  | [_], _ => rfl
  | [_, _], h => exact absurd rfl h
  | _ :: _ :: _ :: _, _ => rfl
theorem two_or (xs : List Int) : (∃ p q, xs = [p, q]) ∨ xs.length ≠ 2 := by
  match xs with
  | [] => right; simp
  | [_] => right; simp
  | [p, q] => left; exact ⟨p, q, rfl⟩
  | _ :: _ :: _ :: _ => right; simp
theorem specOk_anyI (k l : Int) (xs : List Int) (v : Value) (w : World) (hv : RInts w v xs) :
    Calls Try.prog 37 #[.agg #[.int .i64 k, .int .i64 l, v]] w fun e w' => e = .returned (.bool (okL k l xs)) ∧ Below w.heap.size w w' := by
  rcases two_or xs with ⟨p, q, rfl⟩ | h
  · exact specOk_two k l p q v w hv
  · rw [okL_other k l xs h]; exact specOk_other k l xs v w hv h
theorem implOk_anyI (k l : Int) (xs : List Int) (v : Value) (w : World) (hv : RInts w v xs) :
    Calls Try.prog 75 #[.agg #[.int .i64 k, .int .i64 l, v]] w fun e w' => e = .returned (.bool (okL k l xs)) ∧ Below w.heap.size w w' := by
  rcases two_or xs with ⟨p, q, rfl⟩ | h
  · exact implOk_two k l p q v w hv
  · rw [okL_other k l xs h]; exact implOk_other k l xs v w hv h
/-- The bytes of an inode, nothing where it is not right. -/
def textL (k l : Int) (xs : List Int) : ByteArray := if okL k l xs then quadB k.toNat l.toNat (xs.getD 0 0).toNat (xs.getD 1 0).toNat else ⟨#[]⟩
theorem okR_bounds {k l p q : Int} (h : okR k l p q = true) : (0 ≤ k ∧ k ≤ 2) ∧ (0 ≤ l ∧ l ≤ 200) ∧ (0 ≤ p ∧ p ≤ 16) ∧ (0 ≤ q ∧ q ≤ 16) := by
  have h' := of_decide_eq_true h
  omega
theorem specText_anyI (k l : Int) (xs : List Int) (v : Value) (w : World) (hv : RInts w v xs) :
    Calls Try.prog 78 #[.agg #[.int .i64 k, .int .i64 l, v]] w fun e w' => e = .returned (.tuple #[.string (textL k l xs), .bool (okL k l xs)]) ∧ Below w.heap.size w w' := by
  rcases two_or xs with ⟨p, q, rfl⟩ | h
  · cases hr : okR k l p q with
    | true =>
      have hL : okL k l [p, q] = true := hr
      obtain ⟨hk, hl, hp, hq⟩ := okR_bounds hr
      obtain ⟨k, rfl⟩ := Int.eq_ofNat_of_zero_le hk.1
      obtain ⟨l, rfl⟩ := Int.eq_ofNat_of_zero_le hl.1
      obtain ⟨p, rfl⟩ := Int.eq_ofNat_of_zero_le hp.1
      obtain ⟨q, rfl⟩ := Int.eq_ofNat_of_zero_le hq.1
      have e1 : textL (k : Int) (l : Int) [(p : Int), (q : Int)] = quadB k l p q := by unfold textL; rw [if_pos hL]; rfl
      rw [e1, hL]
      exact specText_yesI k l p q v w hv hr (by omega) (by omega) (by omega) (by omega)
    | false =>
      have hL : okL k l [p, q] = false := hr
      have e1 : textL k l [p, q] = ⟨#[]⟩ := by unfold textL; rw [if_neg (by simp [hL])]
      rw [e1, hL]
      exact specText_noI k l p q v w hv hr
  · have hL := okL_other k l xs h
    have e1 : textL k l xs = ⟨#[]⟩ := by unfold textL; rw [if_neg (by simp [hL])]
    rw [e1, hL]
    exact specText_other k l xs v w hv h
theorem implText_anyI (k l : Int) (xs : List Int) (v : Value) (w : World) (hv : RInts w v xs) :
    Calls Try.prog 82 #[.agg #[.int .i64 k, .int .i64 l, v]] w fun e w' => e = .returned (.tuple #[.string (textL k l xs), .bool (okL k l xs)]) ∧ Below w.heap.size w w' := by
  rcases two_or xs with ⟨p, q, rfl⟩ | h
  · cases hr : okR k l p q with
    | true =>
      have hL : okL k l [p, q] = true := hr
      obtain ⟨hk, hl, hp, hq⟩ := okR_bounds hr
      obtain ⟨k, rfl⟩ := Int.eq_ofNat_of_zero_le hk.1
      obtain ⟨l, rfl⟩ := Int.eq_ofNat_of_zero_le hl.1
      obtain ⟨p, rfl⟩ := Int.eq_ofNat_of_zero_le hp.1
      obtain ⟨q, rfl⟩ := Int.eq_ofNat_of_zero_le hq.1
      have e1 : textL (k : Int) (l : Int) [(p : Int), (q : Int)] = quadB k l p q := by unfold textL; rw [if_pos hL]; rfl
      rw [e1, hL]
      exact implText_yesI k l p q v w hv hr (by omega) (by omega) (by omega) (by omega)
    | false =>
      have hL : okL k l [p, q] = false := hr
      have e1 : textL k l [p, q] = ⟨#[]⟩ := by unfold textL; rw [if_neg (by simp [hL])]
      rw [e1, hL]
      exact implText_noI k l p q v w hv hr
  · have hL := okL_other k l xs h
    have e1 : textL k l xs = ⟨#[]⟩ := by unfold textL; rw [if_neg (by simp [hL])]
    rw [e1, hL]
    exact implText_other k l xs v w hv h
end Go.Proofs.Ytajollmmpdkhbaa
