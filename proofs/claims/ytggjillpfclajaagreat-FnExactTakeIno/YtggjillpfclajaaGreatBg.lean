
/- Marks of what is not too big are small. No Go function is spoken of. -/
import Derived.Test.YtggjillpfclajaaGreatMn
namespace Go.Proofs.YtggjillpfclajaaGreat.Kit
open Go.RowKit
theorem cnt_big {α : Type} {sz : α → Nat} {M : Nat} (k : Nat) (l : List α) (h : ∀ (j : Nat) (h : j < l.length), sz l[j] ≤ M) : cnt sz k l ≤ k + l.length * M := by
  induction l generalizing k with
  | nil => simp [cnt]
  | cons x r ih =>
    have h0 := h 0 (by simp)
    have := ih (k + sz x) (fun j hj => h (j + 1) (by simpa using hj))
    simp only [cnt, List.length_cons, Nat.add_mul] at this ⊢
    simp only [List.getElem_cons_zero] at h0
    omega
/-- Marks of a disk that is not too big are small. -/
theorem cntD_big {xs ys : List Bool} {is : List Ino} {bs : List Blk} (h : Big 1048576 xs ys is bs) : cntD 1 xs ys is bs ≤ 10000000000000 := by
  have h1 := cnt_big (sz := szI) (M := 1048578) (1 + xs.length + ys.length) is (fun j hj => by have := h.p j hj; unfold szI; omega)
  have h2 := cnt_big (sz := szB) (M := 2097154) (cnt szI (1 + xs.length + ys.length) is) bs (fun j hj => by have := (h.s j hj).1; unfold szB; omega)
  have h3 : is.length * 1048578 ≤ 1048576 * 1048578 := Nat.mul_le_mul_right _ h.i
  have h4 : bs.length * 2097154 ≤ 1048576 * 2097154 := Nat.mul_le_mul_right _ h.b
  have := h.x
  have := h.y
  unfold cntD
  omega
theorem cntM_big {m : MD} (h : BigM 1048576 m) : cntM 1 m ≤ 100000000000000 := by
  have h1 := cnt_big (sz := szDp) (M := 1048586) (cntF 1 m) m.ds (fun j hj => by have := h.b j hj; unfold szDp; omega)
  have h3 : m.ds.length * 1048586 ≤ 1048576 * 1048586 := Nat.mul_le_mul_right _ h.l
  have := cntD_big h.d
  have := h.f
  unfold cntM
  unfold cntF at h1 ⊢
  omega
end Go.Proofs.YtggjillpfclajaaGreat.Kit
