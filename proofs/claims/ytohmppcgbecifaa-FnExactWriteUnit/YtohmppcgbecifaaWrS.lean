/- spec.WriteUnit by its contract. -/
import Derived.Test.YtohmppcgbecifaaWr
namespace Go.Proofs.Ytohmppcgbecifaa
open Go.RowKit Kit
theorem in_any (u : Int) (w : World) : Calls Try.prog 29 #[.int .i64 u, .int .i64 0, .int .i64 20] w fun e w' => e = .returned (.bool (decide (0 ≤ u) && decide (u < 21))) ∧ w = w' := by
  by_cases h : 0 ≤ u
  · have b0 : decide (0 ≤ u) = true := by simpa using h
    by_cases h2 : u < 21
    · have b1 : decide (u < 21) = true := by simpa using h2
      rw [b0, b1]
      go_enter Try.func29, Try.ntmps29
      go_wp2
      go_ret
      exact ⟨by go_num, rfl⟩
    · have b1 : decide (u < 21) = false := by simpa using h2
      rw [b0, b1]
      go_enter Try.func29, Try.ntmps29
      go_wp2
      go_ret
      exact ⟨by go_num, rfl⟩
  · have b0 : decide (0 ≤ u) = false := by simpa using h
    rw [b0, Bool.false_and]
    go_enter Try.func29, Try.ntmps29
    go_wp2
    go_ret
    exact ⟨by go_num, rfl⟩

set_option maxHeartbeats 1600000 in
/-- The head of WriteUnit: the texts are copied, and d is looked at. -/
theorem specWrite_any (v : Value) (xs : List ByteArray) (u : Int) (s : ByteArray) (w : World) (hv : RSt w v xs) (hl : xs.length ≤ 1048576) (hs : ∀ (j : Nat) (h : j < xs.length), xs[j].size ≤ 1048576) (hz : s.size ≤ 1048576) :
    Calls Try.prog 19 #[.agg #[v], .int .i64 u, .string s] w fun e w' => ∃ v', e = .returned (.tuple #[.agg #[v'], .bool (okW xs u s)]) ∧ ROwns w' w.heap.size 9 v' (sc (wr xs u s)) ∧ Below w.heap.size w w' := by
  obtain ⟨a, c, rfl⟩ := hv.form
  obtain ⟨r, hr⟩ : ∃ r, okD xs = r := ⟨_, rfl⟩
  have HR := hide hr
  have HL := hide hl
  have C1 := hide (fun (v : Value) (w : World) (hv : RSt w v xs) => specOk_any v xs w hv hl hs)
  rw [hr] at C1
  -- the blocks ahead of the append
  have HV := hide hv
  clear hs hr hv
  obtain ⟨W, hW⟩ : ∃ W, ((w.alloc (.cells #[.slice a xs.length c] 32)).alloc (.cells #[.slice none 0 0] 32)).alloc (.cells #[] 9) = W := ⟨_, rfl⟩
  have z0 : W.heap.size = w.heap.size + 1 + 1 + 1 := by rw [← hW]; simp
  have A1 : AtO 32 W w.heap.size (.slice a xs.length c) := by rw [← hW]; exact ((AtO.new 32 w _).alloc _).alloc _
  have A2 : AtO 32 W (w.heap.size + 1) (.slice none 0 0) := by
    rw [← hW]
    have := (AtO.new 32 (w.alloc (.cells #[.slice a xs.length c] 32)) (.slice none 0 0)).alloc (.cells #[] 9)
    rwa [World.size_alloc] at this
  have A3 : ROwns W (w.heap.size + 1 + 1) 9 (.slice (some ⟨w.heap.size + 1 + 1, 0, none⟩) 0 0) (sc []) := by
    rw [← hW]
    have := ROwns.lit0 ((w.alloc (.cells #[.slice a xs.length c] 32)).alloc (.cells #[.slice none 0 0] 32)) (w.heap.size + 1 + 1) 9 (by simp)
    rwa [World.size_alloc, World.size_alloc] at this
  have A4 : Below w.heap.size w W := by rw [← hW]; exact (((Below.refl _ w).alloc (Nat.le_refl _) _).alloc (by simp) _).alloc (by simp; omega) _
  have A5 : RSt W (.slice a xs.length c) xs := by rw [← hW]; exact ((HV.out.alloc _).alloc _).alloc _
  have c0 := A1.cell
  have l0 := A1.lt
  have HA := hide (And.intro A1 (And.intro A2 (And.intro A3 (And.intro A4 A5))))
  have hz0 := hide z0
  clear A1 A2 A3 A4 A5
  go_enter Try.func19, Try.ntmps19
  go_wp2_with (at_builtin; refine wpList_append_texts W rfl _ _ 27 rfl (w.heap.size + 1 + 1) 9 Try.u27 (.string ByteArray.empty) 16 Try.i9 rfl (by decide) (.slice (some ⟨w.heap.size + 1 + 1, 0, none⟩) 0 0) (.slice a xs.length c) [] xs (by rfl) (by rfl) HA.out.2.2.1 (by rw [hz0.out]; omega) HA.out.2.2.2.2 (by have := HL.out; simp; omega) ?_; intro v1 w1 R1 R2 R3; clear R3; rw [List.nil_append] at R1; obtain ⟨a1, c1, rfl⟩ := R1.rst.form; have X1 := HA.out.1.grown R2 (fun e => by simp [Value.ownBlock] at e; omega); have c1' := X1.cell; have l1 := X1.lt; have HR1 := hide (And.intro R1 (And.intro R2 X1)); clear R1 R2 X1)
  clear c0 l0 hW
  obtain ⟨X1, X2, X3⟩ : AtO 32 w1 w.heap.size (.slice a xs.length c) ∧ AtO 32 w1 (w.heap.size + 1) (.slice none 0 0) ∧ Below w.heap.size w w1 := by
    have G := HR1.out.2.1
    have b1 : Below (w.heap.size + 1 + 1) W w1 := ⟨G.os, G.tape, G.output, G.size, fun k hk => G.block k (by rw [hz0.out]; omega) (fun e => by simp [Value.ownBlock] at e; omega)⟩
    exact ⟨HR1.out.2.2, HA.out.2.1.below b1 (by omega), HA.out.2.2.2.1.trans (b1.mono (by omega))⟩
  have X4 := HV.out.below X3 (Nat.le_refl _)
  have hO := HR1.out.1
  have H1 := hide (And.intro X1 (And.intro X2 (And.intro X3 (And.intro X4 hO))))
  clear X1 X2 X3 X4 hO HR1 HA hz0 z0 c1' l1
  refine (C1.out _ _ (H1.out.2.2.2.1.alloc _)).mono ?_
  rintro e w2 ⟨rfl, B2⟩
  have sz1 := H1.out.2.2.1.size
  have Y2 := (H1.out.2.1.alloc (.cells #[.slice a1 xs.length c1] 32)).below B2 (by have := H1.out.2.1.lt; simp; omega)
  have Y3 := (H1.out.2.2.1.alloc sz1 (.cells #[.slice a1 xs.length c1] 32)).trans (B2.mono (by simp; omega))
  have Y4 := (H1.out.2.2.2.2.alloc (.cells #[.slice a1 xs.length c1] 32)).below B2 (Nat.le_refl _)
  have Y5 : AtO 32 w2 w1.heap.size (.slice a1 xs.length c1) := (AtO.new 32 w1 _).below B2 (by simp)
  have l12 : w.heap.size + 1 < w1.heap.size := H1.out.2.1.lt
  have Y2h := hide Y2
  have Y5h := hide Y5
  have d2 := Y2.cell
  have f2 := Y2.frozen
  have k2 := Y2.lt
  have d5 := Y5.cell
  have k5 := Y5.lt
  have H2 := hide (And.intro Y3 Y4)
  have HG := hide H1.out.2.2.2.2.lt
  clear Y2 Y3 Y4 Y5 H1 B2 C1 HV
  obtain ⟨q, hq⟩ : ∃ q, (decide (0 ≤ u) && decide (u < 21)) = q := ⟨_, rfl⟩
  have C2 := hide (in_any u)
  rw [hq] at C2
  have HQ := hide hq
  clear hq
  cases r with
  | false =>
    have e1 : Hid (okW xs u s = false) := hide (by unfold okW; rw [HR.out]; rfl)
    go_wp2
    refine bodyPost_ret (v := .tuple #[.agg #[.slice a1 xs.length c1], .bool false]) (by simp [results, go_sem, d2]) rfl ⟨_, by rw [e1.out], ?_, ?_⟩
    · rw [wr_no e1.out]; exact (H2.out.2.setCell_other (by omega) _).base_le (by omega)
    · exact H2.out.1.setCell (by simp) _
  | true =>
    cases q with
    | false =>
      have e1 : Hid (okW xs u s = false) := hide (by unfold okW; rw [HR.out, HQ.out]; rfl)
      go_wp2_with (go_at_call 29; refine (C2.out _).mono ?_; rintro e w3 ⟨rfl, rfl⟩)
      refine bodyPost_ret (v := .tuple #[.agg #[.slice a1 xs.length c1], .bool false]) (by simp [results, go_sem, d2]) rfl ⟨_, by rw [e1.out], ?_, ?_⟩
      · rw [wr_no e1.out]; exact (H2.out.2.setCell_other (by omega) _).base_le (by omega)
      · exact H2.out.1.setCell (by simp) _
    | true =>
      by_cases h60 : s.size ≤ 60
      · have e1 : Hid (okW xs u s = true) := hide (by unfold okW; rw [HR.out, HQ.out]; simpa using h60)
        obtain ⟨k, hk, rfl⟩ : ∃ k : Nat, k < 21 ∧ u = k := by have := HQ.out; simp at this; exact ⟨u.toNat, by omega, by omega⟩
        have hx21 : xs.length = 21 := by have h := HR.out; unfold okD at h; simp at h; exact h.1
        have hkx : k < xs.length := by omega
        obtain ⟨g, c2, e2, p1, p2, p3, p4, p5⟩ := H2.out.2.at k (by rw [sc_length]; exact hkx)
        rw [sc_at xs k hkx] at p1
        obtain ⟨t, ht⟩ : ∃ t, xs[k] = t := ⟨_, rfl⟩
        rw [ht] at p1
        simp only [Value.slice.injEq] at e2
        obtain ⟨rfl, -, rfl⟩ := e2
        have hg := (HG.out g rfl).2
        have O2 : ROwns w2 (w.heap.size + 1 + 1) 9 (.slice (some ⟨g, 0, none⟩) (sc xs).length c1) (sc xs) := by rw [sc_length]; exact H2.out.2
        have O3 := (O2.stored k (.string s)).1
        rw [sc_set, sc_length] at O3
        have Y2 := Y2h.out.set_other (B := g) (j := k) (by omega) (.string s)
        have Y5 := Y5h.out.set_other (B := g) (j := k) (by omega) (.string s)
        have Y3 := H2.out.1.setCell (p := ⟨g, k, none⟩) (by show w.heap.size ≤ g; omega) (.string s)
        have j0 : (0 : Int) ≤ (k : Int) := by omega
        have j1 : (k : Int) < (xs.length : Int) := by omega
        obtain ⟨w3, hw3⟩ : ∃ w3, w2.setCell ⟨g, k, none⟩ (.string s) = w3 := ⟨_, rfl⟩
        rw [hw3] at O3 Y2 Y5 Y3
        have d2' := Y2.cell
        have f2' := Y2.frozen
        have k2' := Y2.lt
        have d5' := Y5.cell
        have k5' := Y5.lt
        have H3 := hide (And.intro Y3 O3)
        clear Y2 Y5 Y3 O3 O2 ht hx21 d2 f2 k2 H2
        go_wp2_with (go_at_call 29; refine (C2.out _).mono ?_; rintro e w3 ⟨rfl, rfl⟩)
        refine bodyPost_ret (v := .tuple #[.agg #[.slice (some ⟨g, 0, none⟩) xs.length c1], .bool true]) (by simp [results, go_sem, d2']) rfl ⟨_, by rw [e1.out], ?_, ?_⟩
        · rw [wr_yes e1.out]; exact (H3.out.2.setCell_other (by omega) _).base_le (by omega)
        · exact H3.out.1.setCell (by simp) _
      · have e1 : Hid (okW xs u s = false) := hide (by unfold okW; rw [HR.out, HQ.out]; simpa using h60)
        go_wp2_with (go_at_call 29; refine (C2.out _).mono ?_; rintro e w3 ⟨rfl, rfl⟩)
        refine bodyPost_ret (v := .tuple #[.agg #[.slice a1 xs.length c1], .bool false]) (by simp [results, go_sem, d2]) rfl ⟨_, by rw [e1.out], ?_, ?_⟩
        · rw [wr_no e1.out]; exact (H2.out.2.setCell_other (by omega) _).base_le (by omega)
        · exact H2.out.1.setCell (by simp) _
end Go.Proofs.Ytohmppcgbecifaa
