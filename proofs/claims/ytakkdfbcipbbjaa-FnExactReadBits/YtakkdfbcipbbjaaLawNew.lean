/- The walk of laws.FnExactBitsNew: it returns true. -/
import Derived.Test.YtakkdfbcipbbjaaNew
namespace Go.Proofs.Ytakkdfbcipbbjaa.Kit
open Go.RowKit
theorem below_g2 {w w1 w2 : World} {base : Nat} {r1 r2 : Option Nat} (hb : Below base w w1) (hg : G2 w1 w2 r1 r2) (hs : base ≤ w1.heap.size) (h1 : ∀ k, r1 = some k → base ≤ k) (h2 : ∀ k, r2 = some k → base ≤ k) : Below base w w2 :=
  hb.trans ⟨hg.os, hg.tape, hg.output, hg.size, fun k hk => hg.block k (by omega) (fun e => by have := h1 k e; omega) (fun e => by have := h2 k e; omega)⟩
/-- Where two slices own their blocks. -/
theorem Two.own {w : World} {base : Nat} {u v : Value} {xs ys : List Bool} (h : Two w base u v xs ys) : ∀ k, (u.ownBlock = some k ∨ v.ownBlock = some k) → base ≤ k ∧ k < w.heap.size := fun k e => by
  rcases e with e | e
  · exact h.a.lt k e
  · exact h.b.lt k e
end Go.Proofs.Ytakkdfbcipbbjaa.Kit
namespace Go.Proofs.Ytakkdfbcipbbjaa.fnExactBitsNew
open Go.RowKit Kit

set_option maxHeartbeats 1600000 in
theorem walk (w : World) :
    Calls Try.prog 5 #[] w fun e w' => e = .returned (.bool true) ∧ Below w.heap.size w w' := by
  obtain ⟨xs, hxs⟩ : ∃ l, newX = l := ⟨_, rfl⟩
  obtain ⟨ys, hys⟩ : ∃ l, newY = l := ⟨_, rfl⟩
  have hx : xs.length ≤ 100 := by rw [← hxs]; decide
  have hy : ys.length ≤ 100 := by rw [← hys]; decide
  have C1 := hide specNew_any
  have C2 := hide implNew_any
  rw [hxs, hys] at C1 C2
  clear hxs hys
  obtain ⟨nm, hnm⟩ : ∃ n, 1 + xs.length + ys.length = n := ⟨_, rfl⟩
  have hn1 : ¬ (nm : Int) < 0 := by omega
  have hn2 : nm ≤ 1000 := by omega
  have CM := hide (fun (u v : Value) (base : Nat) (w : World) (ha : Two w base u v xs ys) => markN_any u v xs ys base 1 w ha (by decide) (by omega) (by omega))
  have CH := hide (fun (u v : Value) (base : Nat) (w : World) (ha : Two w base u v (marks 1 xs.length) (marks (1 + xs.length) ys.length)) => heldN_any u v xs.length ys.length base 1 w ha (by decide) (by omega) (by omega))
  rw [hnm] at CM CH
  clear hnm
  go_enter Try.func5, Try.ntmps5
  go_wp2_with fail
  refine (C1.out w).mono ?_
  rintro e w1 ⟨u1, v1, rfl, O1, B1⟩
  obtain ⟨s1, t1, s1', t1', rfl, rfl⟩ := O1.form
  have hw : w.heap.size ≤ w1.heap.size := B1.size
  have HO1 := hide O1
  have HB1 := hide B1
  clear O1 B1
  go_wp2_with fail
  refine (C2.out _).mono ?_
  rintro e w2 ⟨u2, v2, rfl, O2, B2⟩
  obtain ⟨s2, t2, s2', t2', rfl, rfl⟩ := O2.form
  have X1 : AtP 26 w2 w1.heap.size (.slice s1 xs.length t1) (.slice s1' ys.length t1') := (AtP.new 26 w1 _ _).below B2 (by simp)
  have n1 := (HO1.out.alloc (Obj.cells #[.slice s1 xs.length t1, .slice s1' ys.length t1'] 26)).below B2 (Nat.le_refl _)
  have b2 : Below w.heap.size w w2 := (HB1.out.alloc HB1.out.size _).trans (B2.mono (by have := HB1.out.size; simp; omega))
  have g1 := HO1.out.own
  have O2' := O2.base_le (base' := w1.heap.size + 1) (by simp)
  obtain ⟨c10, c11⟩ := X1.cells
  have l1 := X1.lt
  have HX1 := hide X1
  have HN1 := hide n1
  have HB2 := hide b2
  have HG1 := hide g1
  have HO2 := hide O2'
  clear O2 B2 X1 n1 b2 g1 O2' HO1 HB1
  go_wp2_with fail
  refine (eqN_same _ _ _ _ xs ys _ (HO2.out.a.alloc _).rfl (HO2.out.b.alloc _).rfl (HN1.out.a.alloc _).rfl (HN1.out.b.alloc _).rfl (by omega) (by omega)).mono ?_
  rintro e w3 ⟨rfl, B3⟩
  have X1 := (HX1.out.alloc (Obj.cells #[.slice s2 xs.length t2, .slice s2' ys.length t2'] 26)).below B3 (by simp; omega)
  have X2 : AtP 26 w3 w2.heap.size (.slice s2 xs.length t2) (.slice s2' ys.length t2') := (AtP.new 26 w2 _ _).below B3 (by simp)
  have n1 := (HN1.out.alloc (Obj.cells #[.slice s2 xs.length t2, .slice s2' ys.length t2'] 26)).below B3 (Nat.le_refl _)
  have n2 := (HO2.out.alloc (Obj.cells #[.slice s2 xs.length t2, .slice s2' ys.length t2'] 26)).below B3 (Nat.le_refl _)
  have b3 : Below w.heap.size w w3 := (HB2.out.alloc HB2.out.size _).trans (B3.mono (by have := HB2.out.size; simp; omega))
  have g2 := HO2.out.own
  obtain ⟨d10, d11⟩ := X1.cells
  obtain ⟨d20, d21⟩ := X2.cells
  have m1 := X1.lt
  have m2 := X2.lt
  have HY1 := hide X1
  have HY2 := hide X2
  have HN2 := hide n2
  have HN3 := hide n1
  have HB3 := hide b3
  have HG2 := hide g2
  clear B3 X1 X2 n1 n2 b3 g2 HX1 HN1 HB2 HO2 c10 c11
  go_wp2_with fail
  refine (CM.out _ _ (w1.heap.size + 1) w3 HN2.out).mono ?_
  rintro e w4 ⟨rfl, O4, G4⟩
  have X1 := HY1.out.g2 G4 (fun e => by have := (HG2.out _ (.inl e)).1; omega) (fun e => by have := (HG2.out _ (.inr e)).1; omega)
  have X2 := HY2.out.g2 G4 (fun e => by have := (HG2.out _ (.inl e)).2; omega) (fun e => by have := (HG2.out _ (.inr e)).2; omega)
  have n1 := HN3.out.g2 G4 (fun k h1 => ⟨fun h2 => by have := (HG1.out k h1).2; have := (HG2.out k (.inl h2)).1; omega, fun h2 => by have := (HG1.out k h1).2; have := (HG2.out k (.inr h2)).1; omega⟩)
  have b4 : Below w.heap.size w w4 := below_g2 HB3.out G4 HB3.out.size (fun k e => by have := (HG2.out k (.inl e)).1; omega) (fun k e => by have := (HG2.out k (.inr e)).1; omega)
  obtain ⟨c10, c11⟩ := X1.cells
  obtain ⟨c20, c21⟩ := X2.cells
  have m1 := X1.lt
  have m2 := X2.lt
  have HX1 := hide X1
  have HX2 := hide X2
  have HN1 := hide n1
  have HO4 := hide O4
  have HB4 := hide b4
  clear O4 G4 X1 X2 n1 b4 HY1 HY2 HN2 HN3 HB3 d10 d11 d20 d21
  go_wp2_with fail
  refine (CH.out _ _ (w1.heap.size + 1) w4 HO4.out).mono ?_
  rintro e w5 ⟨rfl, B5⟩
  have X1 := HX1.out.below B5 m1
  have X2 := HX2.out.below B5 m2
  have n1 := HN1.out.below B5 (Nat.le_refl _)
  have n2 := HO4.out.below B5 (Nat.le_refl _)
  have b5 : Below w.heap.size w w5 := HB4.out.trans (B5.mono HB4.out.size)
  have HY1 := hide X1
  have HY2 := hide X2
  have HN3 := hide n1
  have HN4 := hide n2
  have HB5 := hide b5
  clear B5 X1 X2 n1 n2 b5 HX1 HX2 HN1 HO4 HB4 c10 c11 c20 c21 m1 m2
  go_wp2_with fail
  refine (C2.out w5).mono ?_
  rintro e w6 ⟨u6, v6, rfl, O6, B6⟩
  obtain ⟨s6, t6, s6', t6', rfl, rfl⟩ := O6.form
  have X1 := HY1.out.below B6 HY1.out.lt
  have X2 := HY2.out.below B6 HY2.out.lt
  have n1 := HN3.out.below B6 (Nat.le_refl _)
  have n2 := HN4.out.below B6 (Nat.le_refl _)
  have b6 : Below w.heap.size w w6 := HB5.out.trans (B6.mono HB5.out.size)
  obtain ⟨c10, c11⟩ := X1.cells
  obtain ⟨c20, c21⟩ := X2.cells
  have m1 := X1.lt
  have m2 := X2.lt
  have HX1 := hide X1
  have HX2 := hide X2
  have HN1 := hide n1
  have HN2 := hide n2
  have HO6 := hide O6
  have HB6 := hide b6
  clear B6 X1 X2 n1 n2 b6 O6 HY1 HY2 HN3 HN4 HB5
  go_wp2_with fail
  refine (eqN_same _ _ _ _ xs ys _ (HO6.out.a.alloc _).rfl (HO6.out.b.alloc _).rfl (HN1.out.a.alloc _).rfl (HN1.out.b.alloc _).rfl (by omega) (by omega)).mono ?_
  rintro e w7 ⟨rfl, B7⟩
  have X2 := (HX2.out.alloc (Obj.cells #[.slice s6 xs.length t6, .slice s6' ys.length t6'] 26)).below B7 (by simp; omega)
  have n2 := (HN2.out.alloc (Obj.cells #[.slice s6 xs.length t6, .slice s6' ys.length t6'] 26)).below B7 (Nat.le_refl _)
  have b7 : Below w.heap.size w w7 := (HB6.out.alloc HB6.out.size _).trans (B7.mono (by have := HB6.out.size; simp; omega))
  obtain ⟨d20, d21⟩ := X2.cells
  have m3 := X2.lt
  have HN4 := hide n2
  have HB7 := hide b7
  clear B7 X2 n2 b7 HX1 HX2 HN1 HN2 HO6 HB6 c10 c11 c20 c21 m1 m2
  go_wp2_with fail
  refine (CH.out _ _ (w1.heap.size + 1) w7 HN4.out).mono ?_
  rintro e w8 ⟨rfl, B8⟩
  have HB8 := hide (HB7.out.trans (B8.mono HB7.out.size))
  clear B8 HB7 HN4
  go_wp2
  go_ret
  exact ⟨rfl, HB8.out⟩
end Go.Proofs.Ytakkdfbcipbbjaa.fnExactBitsNew
