
/- laws.szBits and laws.toBits by their contracts. -/
import Derived.Test.YtgjbenbodegnjaaCom
import Derived.Test.YtgjbenbodegnjaaBNew
namespace Go.Proofs.Ytgjbenbodegnjaa
open Go.RowKit Kit

set_option maxHeartbeats 800000 in
theorem szN_inB (a1 a2 : Option Addr) (n m c1 c2 : Nat) (w : World) (h : n + m ≤ 1048576) :
    Calls Try.prog 19 #[.agg #[.slice a1 n c1, .slice a2 m c2], .int .i64 1048576] w fun e w' => e = .returned (.int .i64 (1048576 - (n : Int) - (m : Int))) ∧ Below w.heap.size w w' := by
  go_enter Try.func19, Try.ntmps19
  go_wp2
  go_ret
  exact ⟨rfl, by go_grown⟩
set_option maxHeartbeats 800000 in
theorem szN_outB (a1 a2 : Option Addr) (n m c1 c2 : Nat) (w : World) (h : ¬ n + m ≤ 1048576) (h1 : n ≤ maxLen) (h2 : m ≤ maxLen) :
    Calls Try.prog 19 #[.agg #[.slice a1 n c1, .slice a2 m c2], .int .i64 1048576] w fun e w' => e = .returned (.int .i64 (-1)) ∧ Below w.heap.size w w' := by
  have h3 : n ≤ 9223372036854775807 := h1
  have h4 : m ≤ 9223372036854775807 := h2
  clear h1 h2
  by_cases hn : n ≤ 1048576
  · go_enter Try.func19, Try.ntmps19
    go_wp2
    go_ret
    exact ⟨rfl, by go_grown⟩
  · go_enter Try.func19, Try.ntmps19
    go_wp2
    go_ret
    exact ⟨rfl, by go_grown⟩

set_option maxHeartbeats 1600000 in
theorem toN_anyB (u v : Value) (xs ys : List Bool) (w : World) (hu : RFl w u xs) (hv : RFl w v ys) (hx : xs.length ≤ 1048576) (hy : ys.length ≤ 1048576) :
    Calls Try.prog 23 #[.agg #[u, v]] w fun e w' => ∃ u' v', e = .returned (.agg #[u', v']) ∧ Two w' w.heap.size u' v' xs ys ∧ Below w.heap.size w w' := by
  have HU := hide hu
  have HV := hide hv
  obtain ⟨a, c, rfl, -⟩ := hu
  obtain ⟨a2, c2, rfl, -⟩ := hv
  go_enter Try.func23, Try.ntmps23
  go_wp2_with fail
  refine (toB_anyB _ xs _ (((HU.out.alloc _).alloc _).alloc _) hx).mono ?_
  rintro e w1 ⟨u1, rfl, O1, B1⟩
  obtain ⟨s1, t1, rfl⟩ := O1.rfl.form
  have K0 : AtP 24 w1 w.heap.size (.slice a xs.length c) (.slice a2 ys.length c2) := (((AtP.new 24 w _ _).alloc _).alloc _).below B1 (by simp; omega)
  have K1 : AtP 34 w1 (w.heap.size + 1) (.slice none 0 0) (.slice none 0 0) := by
    have := ((AtP.new 34 (w.alloc (Obj.cells #[.slice a xs.length c, .slice a2 ys.length c2] 24)) (.slice none 0 0) (.slice none 0 0)).alloc (Obj.cells #[.slice none 0 0, .slice none 0 0] 34)).below B1 (by simp)
    rwa [World.size_alloc] at this
  have K2 : AtP 34 w1 (w.heap.size + 1 + 1) (.slice none 0 0) (.slice none 0 0) := by
    have := (AtP.new 34 ((w.alloc (Obj.cells #[.slice a xs.length c, .slice a2 ys.length c2] 24)).alloc (Obj.cells #[.slice none 0 0, .slice none 0 0] 34)) (.slice none 0 0) (.slice none 0 0)).below B1 (by simp)
    rwa [World.size_alloc, World.size_alloc] at this
  have B2 : Below w.heap.size w w1 := ((((Below.refl _ w).alloc (Nat.le_refl _) _).alloc (by simp) _).alloc (by simp; omega) _).trans (B1.mono (by simp; omega))
  have V1 : RFl w1 (.slice a2 ys.length c2) ys := (((HV.out.alloc _).alloc _).alloc _).below B1 (Nat.le_refl _)
  have O2 : ROwns w1 (w.heap.size + 1 + 1 + 1) 4 (.slice s1 xs.length t1) (fc xs) := O1.base_le (by simp)
  obtain ⟨p0, p1⟩ := K2.cells
  obtain ⟨f0, f1⟩ := K2.frozen
  have m1 := K2.lt
  -- behind the store
  have K0' := K0.set_other (B := w.heap.size + 1 + 1) (j := 0) (by omega) (.slice s1 xs.length t1)
  have K1' := K1.set_other (B := w.heap.size + 1 + 1) (j := 0) (by omega) (.slice s1 xs.length t1)
  have K2' := K2.set0 (.slice s1 xs.length t1)
  have O2' := O2.setCell_other (b := w.heap.size + 1 + 1) (j := 0) (by omega) (.slice s1 xs.length t1)
  have B2' := B2.setCell (p := ⟨w.heap.size + 1 + 1, 0, none⟩) (by show w.heap.size ≤ w.heap.size + 1 + 1; omega) (.slice s1 xs.length t1)
  have V1' : RFl (w1.setCell ⟨w.heap.size + 1 + 1, 0, none⟩ (.slice s1 xs.length t1)) (.slice a2 ys.length c2) ys := HV.out.below B2' (Nat.le_refl _)
  obtain ⟨w2, hw2⟩ : ∃ w2, w1.setCell ⟨w.heap.size + 1 + 1, 0, none⟩ (.slice s1 xs.length t1) = w2 := ⟨_, rfl⟩
  rw [hw2] at K0' K1' K2' O2' B2' V1'
  obtain ⟨d0, d1⟩ := K0'.cells
  have m2 := K0'.lt
  have H2 := hide (And.intro K1' (And.intro K2' (And.intro O2' (And.intro B2' V1'))))
  clear K0 K1 K2 K0' K1' K2' O1 O2 O2' B1 B2 B2' V1 V1' HU HV
  go_wp2_with fail
  clear hw2 p0 p1 f0 f1 m1
  refine (toB_anyB _ ys w2 H2.out.2.2.2.2 hy).mono ?_
  rintro e w3 ⟨u2, rfl, O3, B3⟩
  obtain ⟨s2, t2, rfl⟩ := O3.rfl.form
  have K1 := H2.out.1.below B3 H2.out.1.lt
  have K2 := H2.out.2.1.below B3 H2.out.2.1.lt
  have P1 := H2.out.2.2.1.below B3 (Nat.le_refl _)
  have b3 := H2.out.2.2.2.1.trans (B3.mono H2.out.2.2.2.1.size)
  have hs2 : w.heap.size + 1 + 1 < w2.heap.size := H2.out.2.1.lt
  have T3 : Two w3 (w.heap.size + 1 + 1 + 1) (.slice s1 xs.length t1) (.slice s2 ys.length t2) xs ys := ⟨P1, O3.base_le (by omega), fun k e1 e2 => by have h1 := (H2.out.2.2.1.lt k e1).2; have h2 := (O3.lt k e2).1; omega⟩
  obtain ⟨p0, p1⟩ := K2.cells
  obtain ⟨f0, f1⟩ := K2.frozen
  obtain ⟨q0, q1⟩ := K1.cells
  obtain ⟨g0, g1⟩ := K1.frozen
  have m1 := K2.lt
  have m3 := K1.lt
  have H3 := hide (And.intro T3 b3)
  clear K1 K2 P1 O3 B3 b3 T3 H2 d0 d1 m2
  go_wp2
  refine bodyPost_ret (v := .agg #[.slice s1 xs.length t1, .slice s2 ys.length t2]) (by simp [results, go_sem, q0, q1]) rfl ⟨_, _, rfl, ?_, ?_⟩
  · exact (((H3.out.1.set_other (by omega) _).set_other (by omega) _).set_other (by omega) _).base_le (by omega)
  · exact (((H3.out.2.setCell (by simp; omega) _).setCell (by simp) _).setCell (by simp) _)
end Go.Proofs.Ytgjbenbodegnjaa
