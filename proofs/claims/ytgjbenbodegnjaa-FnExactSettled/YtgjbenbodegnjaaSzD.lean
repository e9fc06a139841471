
/- laws.szDisk by its contract. -/
import Derived.Test.YtgjbenbodegnjaaSz
namespace Go.Proofs.Ytgjbenbodegnjaa
open Go.RowKit Kit
set_option maxRecDepth 100000 in
set_option maxHeartbeats 1600000 in
theorem szDisk_L (u v iv bv : Value) (xs ys : List Bool) (is : List Ino) (bs : List Blk) (L0 : Int) (w : World) (h1 : RFl w u xs) (h2 : RFl w v ys) (h3 : R3 KI w iv is) (h4 : R3 KB w bv bs) (hL : 0 ≤ L0) (hL1 : L0 ≤ 1048576) (hB : Big maxLen xs ys is bs) :
    Calls Try.prog 9 #[.agg #[u, v, iv, bv], .int .i64 L0] w fun e w' => ∃ r, e = .returned (.int .i64 r) ∧ (r = -1 ∨ (0 ≤ r ∧ r ≤ L0 ∧ Big 1048576 xs ys is bs)) ∧ Below w.heap.size w w' := by
  obtain ⟨a1, c1, rfl⟩ := h1.form
  obtain ⟨a2, c2, rfl⟩ := h2.form
  obtain ⟨a3, c3, rfl⟩ := h3.form
  obtain ⟨a4, c4, rfl⟩ := h4.form
  have H3 := hide h3
  have H4 := hide h4
  have HBG := hide hB
  clear h1 h2 h3 h4 hB
  go_enter Try.func9, Try.ntmps9
  go_wp2_with fail
  refine (szBits_L _ _ _ _ _ _ _ _ hL hL1 HBG.out.x HBG.out.y).mono ?_
  rintro e w1 ⟨r, rfl, hr, B1⟩
  have K0 := (AtC.new w 28 #[.slice a1 xs.length c1, .slice a2 ys.length c2, .slice a3 is.length c3, .slice a4 bs.length c4]).over B1
  have r2 := K0.cell 2
  have r3 := K0.cell 3
  have r4 := K0.lt
  have HB1 := hide (((Below.refl _ w).alloc (Nat.le_refl _) (.cells #[.slice a1 xs.length c1, .slice a2 ys.length c2, .slice a3 is.length c3, .slice a4 bs.length c4] 28)).trans (B1.mono (by simp)))
  have HK := hide K0
  have HR := hide hr
  have hr1 : -1 ≤ r := by rcases hr with h | h <;> omega
  have hr2 : r ≤ 1048576 := by rcases hr with h | h <;> omega
  clear hr B1 K0
  by_cases hneg : r < 0
  · go_wp2
    go_ret
    exact ⟨-1, rfl, .inl rfl, HB1.out⟩
  · have hrr := HR.out.resolve_left (by omega)
    have hrL := hrr.2.1
    have HXY := hide hrr.2.2
    clear hrr
    simp only [List.getElem?_toArray, List.getElem?_cons_succ, List.getElem?_cons_zero] at r2 r3
    go_wp2_with fail
    refine (szInoS_L _ is _ _ (H3.out.below HB1.out (Nat.le_refl _)) (by omega) hr2 HBG.out.i HBG.out.p).mono ?_
    rintro e w2 ⟨r', rfl, hr, B2⟩
    have K1 := HK.out.over B2
    have r5 := K1.cell 3
    have r6 := K1.lt
    have HB2 := hide (HB1.out.trans (B2.mono HB1.out.size))
    have HR2 := hide hr
    have hr3 : -1 ≤ r' := by rcases hr with h | h <;> omega
    have hr4 : r' ≤ 1048576 := by rcases hr with h | h <;> omega
    clear hr B2 K1
    by_cases hneg2 : r' < 0
    · go_wp2
      go_ret
      exact ⟨-1, rfl, .inl rfl, HB2.out⟩
    · have hrr := HR2.out.resolve_left (by omega)
      have hrL2 := hrr.2.1
      have HI := hide hrr.2.2
      clear hrr
      simp only [List.getElem?_toArray, List.getElem?_cons_succ, List.getElem?_cons_zero] at r5
      go_wp2_with fail
      refine (szBlkS_L _ bs _ _ (H4.out.below HB2.out (Nat.le_refl _)) (by omega) hr4 HBG.out.b HBG.out.s).mono ?_
      rintro e w3 ⟨r7, rfl, hr, B3⟩
      have HB3 := hide (HB2.out.trans (B3.mono HB2.out.size))
      have HR3 := hide hr
      have hr7 : -1 ≤ r7 := by rcases hr with h | h <;> omega
      have hr8 : r7 ≤ 1048576 := by rcases hr with h | h <;> omega
      clear hr B3
      by_cases hneg3 : r7 < 0
      · go_wp2
        go_ret
        exact ⟨-1, rfl, .inl rfl, HB3.out⟩
      · go_wp2
        go_ret
        have hrr := HR3.out.resolve_left (by omega)
        exact ⟨r7, rfl, .inr ⟨by omega, by omega, ⟨HXY.out.1, HXY.out.2, HI.out.1, HI.out.2, hrr.2.2.1, hrr.2.2.2⟩⟩, HB3.out⟩
end Go.Proofs.Ytgjbenbodegnjaa
