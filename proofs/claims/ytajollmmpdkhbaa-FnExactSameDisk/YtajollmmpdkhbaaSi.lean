/- Disks that are compared by the program: impl.SameDisk by its contract. -/
import Derived.Test.YtajollmmpdkhbaaSh
namespace Go.Proofs.Ytajollmmpdkhbaa
open Go.RowKit Kit
/-- Whether two disks are the same. -/
def sameD (xs ys : List Bool) (is : List Ino) (bs : List Blk) (xs' ys' : List Bool) (is' : List Ino) (bs' : List Blk) : Bool := (decide (xs = xs') && decide (ys = ys')) && decide (is = is') && decide (bs = bs')
set_option maxRecDepth 100000 in
set_option maxHeartbeats 1600000 in
theorem implSame_disk (u v iv bv u' v' i' b' : Value) (xs ys xs' ys' : List Bool) (is is' : List Ino) (bs bs' : List Blk) (w : World) (h : DR w u v iv bv xs ys is bs) (h' : DR w u' v' i' b' xs' ys' is' bs') (hB : Big 1048576 xs ys is bs) :
    Calls Try.prog 19 #[.agg #[u, v, iv, bv], .agg #[u', v', i', b']] w fun e w' => e = .returned (.bool (sameD xs ys is bs xs' ys' is' bs')) ∧ Below w.heap.size w w' := by
  have C1 := hide (fun W (h : DR W u v iv bv xs ys is bs) (h' : DR W u' v' i' b' xs' ys' is' bs') => implSameB_any u v u' v' xs ys xs' ys' W h.a h.b h'.a h'.b hB.x hB.y)
  have C2 := hide (fun W (h : DR W u v iv bv xs ys is bs) (h' : DR W u' v' i' b' xs' ys' is' bs') => equalFI_any iv i' is is' W h.i h'.i hB.i hB.p)
  have C3 := hide (fun W (h : DR W u v iv bv xs ys is bs) (h' : DR W u' v' i' b' xs' ys' is' bs') => equalFB_any bv b' bs bs' W h.k h'.k hB.b (fun j h => (hB.s j h).1))
  have hr : sameD xs ys is bs xs' ys' is' bs' = ((decide (xs = xs') && decide (ys = ys')) && decide (is = is') && decide (bs = bs')) := rfl
  rw [hr]
  generalize (decide (xs = xs') && decide (ys = ys')) = r1 at *
  generalize decide (is = is') = r2 at *
  generalize decide (bs = bs') = r3 at *
  have HD := hide (And.intro h h')
  obtain ⟨a1, c1, a2, c2, a3, c3, a4, c4, rfl, rfl, rfl, rfl⟩ := h.form
  obtain ⟨d1, f1, d2, f2, d3, f3, d4, f4, rfl, rfl, rfl, rfl⟩ := h'.form
  clear h h' hr hB
  go_enter Try.func19, Try.ntmps19
  go_wp2_with fail
  refine (C1.out _ ((HD.out.1.alloc _).alloc _) ((HD.out.2.alloc _).alloc _)).mono ?_
  rintro e w1 ⟨rfl, B1⟩
  have X1 := (((AtC.new w 28 #[.slice a1 xs.length c1, .slice a2 ys.length c2, .slice a3 is.length c3, .slice a4 bs.length c4]).alloc (.cells #[.slice d1 xs'.length f1, .slice d2 ys'.length f2, .slice d3 is'.length f3, .slice d4 bs'.length f4] 28)).over B1)
  have Y1 := ((AtC.new (w.alloc (.cells #[.slice a1 xs.length c1, .slice a2 ys.length c2, .slice a3 is.length c3, .slice a4 bs.length c4] 28)) 28 #[.slice d1 xs'.length f1, .slice d2 ys'.length f2, .slice d3 is'.length f3, .slice d4 bs'.length f4]).over B1)
  simp only [World.size_alloc] at Y1
  have B1' : Below w.heap.size w w1 := (((Below.refl _ w).alloc (Nat.le_refl _) _).alloc (by simp) _).trans (B1.mono (by simp; omega))
  have q2 : w1.cell? ⟨w.heap.size, 2, none⟩ = some (.slice a3 is.length c3) := X1.cell 2
  have q3 : w1.cell? ⟨w.heap.size, 3, none⟩ = some (.slice a4 bs.length c4) := X1.cell 3
  have s2 : w1.cell? ⟨w.heap.size + 1, 2, none⟩ = some (.slice d3 is'.length f3) := Y1.cell 2
  have s3 : w1.cell? ⟨w.heap.size + 1, 3, none⟩ = some (.slice d4 bs'.length f4) := Y1.cell 3
  have H1 := hide (And.intro B1' (And.intro X1 Y1))
  clear B1 X1 Y1 B1'
  cases r1 with
  | false =>
    go_wp2
    go_ret
    exact ⟨rfl, H1.out.1⟩
  | true =>
    go_wp2_with fail
    refine (C2.out _ (HD.out.1.below H1.out.1 (Nat.le_refl _)) (HD.out.2.below H1.out.1 (Nat.le_refl _))).mono ?_
    rintro e w2 ⟨rfl, B2⟩
    have X2 := H1.out.2.1.over B2
    have Y2 := H1.out.2.2.over B2
    have B2' := H1.out.1.trans (B2.mono H1.out.1.size)
    have q3 : w2.cell? ⟨w.heap.size, 3, none⟩ = some (.slice a4 bs.length c4) := X2.cell 3
    have s3 : w2.cell? ⟨w.heap.size + 1, 3, none⟩ = some (.slice d4 bs'.length f4) := Y2.cell 3
    have H2 := hide B2'
    clear B2 X2 Y2 B2' H1
    cases r2 with
    | false =>
      go_wp2
      go_ret
      exact ⟨rfl, H2.out⟩
    | true =>
      go_wp2_with fail
      refine (C3.out _ (HD.out.1.below H2.out (Nat.le_refl _)) (HD.out.2.below H2.out (Nat.le_refl _))).mono ?_
      rintro e w3 ⟨rfl, B3⟩
      have H3 := hide (H2.out.trans (B3.mono H2.out.size))
      clear B3
      go_wp2
      go_ret
      exact ⟨rfl, H3.out⟩
end Go.Proofs.Ytajollmmpdkhbaa
