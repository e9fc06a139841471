/- The walk of laws.FnExactSplitPath: it returns true at every text. -/
import Derived.Test.YtkfcdpfkhbgfnaaSpJ
namespace Go.Proofs.Ytkfcdpfkhbgfnaa.fnExactSplitPath
open Go.RowKit Kit
set_option maxHeartbeats 800000 in
theorem walk (a0 : ByteArray) (_w0 : a0.size ≤ maxLen) (w : World) :
    Calls Try.prog 3 #[.string a0] w fun e w' => e = .returned (.bool true) ∧ Below w.heap.size w w' := by
  by_cases h2 : 1048576 < a0.size
  · go_enter Try.func3, Try.ntmps3
    go_wp2
    go_ret
    exact ⟨rfl, Below.refl _ _⟩
  obtain ⟨l, ok, hans, hl⟩ := ans_ex a0
  have HA := hide hans
  have HL := hide hl
  have hl' : l.length ≤ 1000000000 := by omega
  clear hans hl
  go_enter Try.func3, Try.ntmps3
  go_wp2_with fail
  refine (specSplit_any a0 w (by omega) l ok HA.out).mono ?_
  rintro e w1 ⟨⟨v1, rfl, O1⟩, B1⟩
  have HO1 := hide O1
  clear O1
  go_wp2_with fail
  refine (implSplit_any a0 w1 (by omega) l ok HA.out).mono ?_
  rintro e w2 ⟨⟨v2, rfl, O2⟩, B2⟩
  have hne12 : ∀ k, v1.ownBlock = some k → v2.ownBlock ≠ some k := fun k h1 h2 => by
    have a1 := (HO1.out.lt k h1).2
    have a2 := (O2.lt k h2).1
    omega
  have P12 : ROwns w2 w.heap.size 9 v1 (sc l) := HO1.out.below B2 (Nat.le_refl _)
  have HO2 := hide O2
  have HP12 := hide P12
  have HNE := hide hne12
  clear O2 P12 hne12
  go_wp2_with fail
  refine (eqS_same v2 v1 l w2 HO2.out.rst HP12.out.rst hl').mono ?_
  rintro e w3 ⟨rfl, B3⟩
  have Q1 := hide (HP12.out.below B3 (Nat.le_refl _))
  have Q2 := hide (HO2.out.below B3 (Nat.le_refl _))
  clear HP12 HO2
  go_wp2_with fail
  refine (markS_any v2 l w1.heap.size 1 w3 Q2.out (by decide) (by decide) hl').mono ?_
  rintro e w4 ⟨rfl, O4, G4⟩
  have Q4 := hide O4
  have Q41 := hide (Q1.out.grown G4 (fun k h1 h2 => HNE.out k h1 h2))
  have B4 : Below w1.heap.size w3 w4 := ⟨G4.os, G4.tape, G4.output, G4.size, fun k hk => G4.block k (by have := B2.size; have := B3.size; omega) (fun e => by have := (Q2.out.lt k e.symm).1; omega)⟩
  have HB4 := hide B4
  clear O4 G4 Q1 Q2 B4
  go_wp2_with fail
  refine (heldS_any v2 l.length w1.heap.size 1 w4 Q4.out (by decide) (by decide) hl').mono ?_
  rintro e w5 ⟨rfl, B5⟩
  have Q5 := hide (Q4.out.below B5 (Nat.le_refl _))
  have Q51 := hide (Q41.out.below B5 (Nat.le_refl _))
  clear Q4 Q41
  have HB := hide (show Below w.heap.size w w5 from (((B1.trans (B2.mono B1.size)).trans (B3.mono (Nat.le_trans B1.size B2.size))).trans (HB4.out.mono B1.size)).trans (B5.mono (Nat.le_trans (Nat.le_trans B1.size B2.size) (Nat.le_trans B3.size HB4.out.size))))
  clear B1 B2 B3 B5 HB4
  go_wp2_with fail
  refine (implSplit_any a0 w5 (by omega) l ok HA.out).mono ?_
  rintro e w6 ⟨⟨v6, rfl, O6⟩, B6⟩
  have Q6 := hide O6
  have Q61 := hide (Q51.out.below B6 (Nat.le_refl _))
  have Q62 := hide (Q5.out.below B6 (Nat.le_refl _))
  clear O6 Q5 Q51
  go_wp2_with fail
  refine (eqS_same v6 v1 l w6 Q6.out.rst Q61.out.rst hl').mono ?_
  rintro e w7 ⟨rfl, B7⟩
  have Q7 := hide (Q62.out.below B7 (Nat.le_refl _))
  clear Q6 Q61 Q62
  go_wp2_with fail
  refine (heldS_any v2 l.length w1.heap.size 1 w7 Q7.out (by decide) (by decide) hl').mono ?_
  rintro e w8 ⟨rfl, B8⟩
  have HB8 := hide (show Below w.heap.size w w8 from ((HB.out.trans (B6.mono HB.out.size)).trans (B7.mono (Nat.le_trans HB.out.size B6.size))).trans (B8.mono (Nat.le_trans HB.out.size (Nat.le_trans B6.size B7.size))))
  clear B6 B7 B8 Q7
  go_wp2
  go_ret
  exact ⟨rfl, HB8.out⟩
end Go.Proofs.Ytkfcdpfkhbgfnaa.fnExactSplitPath
