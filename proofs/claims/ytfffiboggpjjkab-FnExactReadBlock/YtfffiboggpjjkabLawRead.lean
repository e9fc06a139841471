/- The walk of laws.FnExactReadBlock: it returns true at every text. -/
import Derived.Test.YtfffiboggpjjkabRdE
import Derived.Test.YtfffiboggpjjkabRsT
import Derived.Test.YtfffiboggpjjkabEq
namespace Go.Proofs.Ytfffiboggpjjkab.fnExactReadBlock
open Go.RowKit Kit

set_option maxHeartbeats 1600000 in
theorem walk (a0 : ByteArray) (_w0 : a0.size ≤ maxLen) (w : World) :
    Calls Try.prog 3 #[.string a0] w fun e w' => e = .returned (.bool true) ∧ Below w.heap.size w w' := by
  by_cases h2 : 1048576 < a0.size
  · go_enter Try.func3, Try.ntmps3
    go_wp2
    go_ret
    exact ⟨rfl, Below.refl _ _⟩
  have C1 := hide (fun w => specRead_any a0 w (by omega))
  have C2 := hide (fun w => implRead_any a0 w (by omega))
  have hx0 := rX_length a0
  obtain ⟨r, hr⟩ : ∃ r, rOk a0 = r := ⟨_, rfl⟩
  obtain ⟨k, hk⟩ : ∃ k, rD a0 = k := ⟨_, rfl⟩
  obtain ⟨l, hl⟩ : ∃ l, rT a0 = l := ⟨_, rfl⟩
  obtain ⟨xs, hxs⟩ : ∃ xs, rX a0 = xs := ⟨_, rfl⟩
  rw [hr, hk, hl, hxs] at C1 C2
  rw [hxs] at hx0
  have hx : xs.length ≤ 1048576 := by omega
  clear hx0 hr hk hl hxs
  go_enter Try.func3, Try.ntmps3
  go_wp2_with fail
  refine (C1.out w).mono ?_
  rintro e w1 ⟨v1, rfl, O1, B1⟩
  obtain ⟨s1, t1, rfl⟩ := O1.rsl.form
  have hw : w.heap.size ≤ w1.heap.size := B1.size
  have HO1 := hide O1
  have HB1 := hide B1
  clear O1 B1
  go_wp2_with fail
  refine (C2.out _).mono ?_
  rintro e w2 ⟨v2, rfl, O2, B2⟩
  obtain ⟨s2, t2, rfl⟩ := O2.rsl.form
  have X1 : AtC w2 w1.heap.size 24 #[.bool k, .slice s1 xs.length t1, .string l] := (AtC.new w1 24 _).below B2 (by simp)
  have n1 : SOwns w2 w.heap.size 40 (.slice s1 xs.length t1) xs := (HO1.out.alloc _).below B2 (Nat.le_refl _)
  have b2 : Below w.heap.size w w2 := (HB1.out.alloc HB1.out.size _).trans (B2.mono (by have := HB1.out.size; simp; omega))
  have g1 : ∀ k, (Value.slice s1 xs.length t1).ownBlock = some k → k < w1.heap.size := fun k h => (HO1.out.lt k h).2
  have O2' : SOwns w2 (w1.heap.size + 1) 40 (.slice s2 xs.length t2) xs := O2.base_le (by simp)
  obtain ⟨c10, c11, c12, l1⟩ := X1.three
  have HX1 := hide X1
  have HN1 := hide n1
  have HB2 := hide b2
  have HG1 := hide g1
  have HO2 := hide O2'
  clear O2 B2 X1 n1 b2 g1 O2' HO1 HB1
  go_wp2_with fail
  refine (eqB_same k _ _ l xs _ (HO2.out.alloc _).rsl (HN1.out.alloc _).rsl hx).mono ?_
  rintro e w3 ⟨rfl, B3⟩
  have X1 : AtC w3 w1.heap.size 24 #[.bool k, .slice s1 xs.length t1, .string l] := (HX1.out.alloc _).below B3 (by simp; omega)
  have X2 : AtC w3 w2.heap.size 24 #[.bool k, .slice s2 xs.length t2, .string l] := (AtC.new w2 24 _).below B3 (by simp)
  have n1 : SOwns w3 w.heap.size 40 (.slice s1 xs.length t1) xs := (HN1.out.alloc _).below B3 (Nat.le_refl _)
  have n2 : SOwns w3 (w1.heap.size + 1) 40 (.slice s2 xs.length t2) xs := (HO2.out.alloc _).below B3 (Nat.le_refl _)
  have b3 : Below w.heap.size w w3 := (HB2.out.alloc HB2.out.size _).trans (B3.mono (by have := HB2.out.size; simp; omega))
  have g2 : ∀ k, (Value.slice s2 xs.length t2).ownBlock = some k → w1.heap.size < k ∧ k < w2.heap.size := fun k h => ⟨(HO2.out.lt k h).1, (HO2.out.lt k h).2⟩
  obtain ⟨d10, d11, d12, m1⟩ := X1.three
  obtain ⟨d20, d21, d22, m2⟩ := X2.three
  have HY1 := hide X1
  have HY2 := hide X2
  have HN2 := hide n2
  have HN3 := hide n1
  have HB3 := hide b3
  have HG2 := hide g2
  clear B3 X1 X2 n1 n2 b3 g2 HX1 HN1 HB2 HO2 c10 c11 c12
  go_wp2_with fail
  refine (markB_any k _ l xs (w1.heap.size + 1) 1 w3 HN2.out (by decide) (by decide) hx).mono ?_
  rintro e w4 ⟨rfl, O4, G4⟩
  have X1 : AtC w4 w1.heap.size 24 #[.bool k, .slice s1 xs.length t1, .string l] := HY1.out.grown G4 (fun e => by have := (HG2.out _ e).1; omega)
  have X2 : AtC w4 w2.heap.size 24 #[.bool k, .slice s2 xs.length t2, .string l] := HY2.out.grown G4 (fun e => by have := (HG2.out _ e).2; omega)
  have n1 : SOwns w4 w.heap.size 40 (.slice s1 xs.length t1) xs := HN3.out.grown G4 (fun k h1 h2 => by have := HG1.out k h1; have := (HG2.out k h2).1; omega)
  have b4 : Below w.heap.size w w4 := HB3.out.trans ⟨G4.os, G4.tape, G4.output, G4.size, fun k hk => G4.block k (by have := HB3.out.size; omega) (fun e => by have := (HG2.out k e.symm).1; omega)⟩
  obtain ⟨c10, c11, c12, m1⟩ := X1.three
  obtain ⟨c20, c21, c22, m2⟩ := X2.three
  have HX1 := hide X1
  have HX2 := hide X2
  have HN1 := hide n1
  have HO4 := hide O4
  have HB4 := hide b4
  clear O4 G4 X1 X2 n1 b4 HY1 HY2 HN2 HN3 HB3 d10 d11 d12 d20 d21 d22
  go_wp2_with fail
  refine (heldB_any k _ l xs.length (w1.heap.size + 1) 1 w4 HO4.out (by decide) (by decide) hx).mono ?_
  rintro e w5 ⟨rfl, B5⟩
  have X1 : AtC w5 w1.heap.size 24 #[.bool k, .slice s1 xs.length t1, .string l] := HX1.out.below B5 m1
  have X2 : AtC w5 w2.heap.size 24 #[.bool k, .slice s2 xs.length t2, .string l] := HX2.out.below B5 m2
  have n1 : SOwns w5 w.heap.size 40 (.slice s1 xs.length t1) xs := HN1.out.below B5 (Nat.le_refl _)
  have n2 := HO4.out.below B5 (Nat.le_refl _)
  have b5 : Below w.heap.size w w5 := HB4.out.trans (B5.mono HB4.out.size)
  have HY1 := hide X1
  have HY2 := hide X2
  have HN3 := hide n1
  have HN4 := hide n2
  have HB5 := hide b5
  clear B5 X1 X2 n1 n2 b5 HX1 HX2 HN1 HO4 HB4 c10 c11 c12 c20 c21 c22 m1 m2
  go_wp2_with fail
  refine (C2.out w5).mono ?_
  rintro e w6 ⟨v6, rfl, O6, B6⟩
  obtain ⟨s6, t6, rfl⟩ := O6.rsl.form
  have X1 : AtC w6 w1.heap.size 24 #[.bool k, .slice s1 xs.length t1, .string l] := HY1.out.below B6 HY1.out.lt
  have X2 : AtC w6 w2.heap.size 24 #[.bool k, .slice s2 xs.length t2, .string l] := HY2.out.below B6 HY2.out.lt
  have n1 : SOwns w6 w.heap.size 40 (.slice s1 xs.length t1) xs := HN3.out.below B6 (Nat.le_refl _)
  have n2 := HN4.out.below B6 (Nat.le_refl _)
  have b6 : Below w.heap.size w w6 := HB5.out.trans (B6.mono HB5.out.size)
  obtain ⟨c10, c11, c12, m1⟩ := X1.three
  obtain ⟨c20, c21, c22, m2⟩ := X2.three
  have HX1 := hide X1
  have HX2 := hide X2
  have HN1 := hide n1
  have HN2 := hide n2
  have HO6 := hide O6
  have HB6 := hide b6
  clear B6 X1 X2 n1 n2 b6 O6 HY1 HY2 HN3 HN4 HB5
  go_wp2_with fail
  refine (eqB_same k _ _ l xs _ (HO6.out.alloc _).rsl (HN1.out.alloc _).rsl hx).mono ?_
  rintro e w7 ⟨rfl, B7⟩
  have X2 : AtC w7 w2.heap.size 24 #[.bool k, .slice s2 xs.length t2, .string l] := (HX2.out.alloc _).below B7 (by simp; omega)
  have n2 := (HN2.out.alloc _).below B7 (Nat.le_refl _)
  have b7 : Below w.heap.size w w7 := (HB6.out.alloc HB6.out.size _).trans (B7.mono (by have := HB6.out.size; simp; omega))
  obtain ⟨d20, d21, d22, m3⟩ := X2.three
  have HN4 := hide n2
  have HB7 := hide b7
  clear B7 X2 n2 b7 HX1 HX2 HN1 HN2 HO6 HB6 c10 c11 c12 c20 c21 c22 m1 m2
  go_wp2_with fail
  refine (heldB_any k _ l xs.length (w1.heap.size + 1) 1 w7 HN4.out (by decide) (by decide) hx).mono ?_
  rintro e w8 ⟨rfl, B8⟩
  have HB8 := hide (HB7.out.trans (B8.mono HB7.out.size))
  clear B8 HB7 HN4
  go_wp2
  go_ret
  exact ⟨rfl, HB8.out⟩
end Go.Proofs.Ytfffiboggpjjkab.fnExactReadBlock
