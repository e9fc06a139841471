/- impl.WriteUnit by its contract. -/
import Derived.Test.YtohmppcgbecifaaWr
namespace Go.Proofs.Ytohmppcgbecifaa
open Go.RowKit Kit
theorem unitOf_any (g n k : Nat) (w : World) (hk : k < n) (hn : n ≤ 1048576) : Calls Try.prog 32 #[.slice (some ⟨g, 0, none⟩) n n, .int .i64 (k : Int)] w fun e w' => e = .returned (.slice (some ⟨g, k, none⟩) 1 1) ∧ w = w' := by
  have n0 : (k : Int) + 1 ≤ (n : Int) := by omega
  have n1 : (k : Int) ≤ (n : Int) := by omega
  have n2 : ((k : Int) + 1).toNat = k + 1 := by omega
  go_enter Try.func32, Try.ntmps32
  go_wp2
  go_ret
  exact ⟨by go_num, rfl⟩
theorem newOne_any (s : ByteArray) (v : Value) (w : World) (hv : RSt w v [s]) (hs : s.size ≤ 1048576) :
    Calls Try.prog 31 #[v] w fun e w' => e = .returned (.slice (some ⟨w.heap.size, 0, none⟩) 1 1) ∧ w'.cell? ⟨w.heap.size, 0, none⟩ = some (.string s) ∧ Below w.heap.size w w' := by
  refine (newU_any v [s] w hv (by simp) (fun j hj => by match j, hj with | 0, _ => exact hs)).mono ?_
  rintro e w' ⟨rfl, h2, h3⟩
  refine ⟨rfl, ?_, h3⟩
  obtain ⟨g, c, e1, k1, -⟩ := h2.at 0 (by simp [sc])
  simp only [Value.slice.injEq, Option.some.injEq, Addr.mk.injEq] at e1
  obtain ⟨⟨rfl, -, -⟩, -, -⟩ := e1
  rw [k1]
  rfl
theorem Try.i9s : (Try.prog.info? 9).map (fun i => i.size) = some 1 := by kernel_rfl

theorem copy_one (w : World) (g k : Nat) (a : Addr) (xs : List ByteArray) (s : ByteArray) (hW : w.heap[g]? = some (.cells (sc xs).toArray 9 (0, 0))) (hk : k < xs.length) (hs : w.cell? a = some (.string s)) :
    ∃ w', (Builtin.copy_ #[27, 27] 3 #[.slice (some ⟨g, k, none⟩) 1 1, .slice (some a) 1 1]).run Try.prog w = .ok (goInt 1) w' ∧ w'.heap[g]? = some (.cells (sc (xs.set k s)).toArray 9 (0, 0)) ∧ ∀ B w0, Below B w0 w → B ≤ g → Below B w0 w' := by
  have h := run_copy_row (P := Try.prog) w 27 27 3 9 g k 1 1 a 1 1 (sc xs).toArray 9 [.string s] Try.u27 Try.i9s hW (by rfl) (fun j y hj => by
    match j, hj with
    | 0, hj => simp at hj; subst hj; simpa [Addr.add] using hs) (by simp [sc_length]; omega) (fun y hy => by simp at hy; subst hy; rfl)
  refine ⟨_, h, ?_, fun B w0 hb hB => below_setRow hb hB _⟩
  have e : ((sc xs).toArray.toList.take k ++ [Value.string s] ++ (sc xs).toArray.toList.drop (k + [Value.string s].length)).toArray = (sc (xs.set k s)).toArray := by
    rw [← splice_one xs k s hk]
    simp [splice]
  rw [e]
  exact setRow_heap w g _ _ 9 _ hW

set_option maxHeartbeats 1600000 in
theorem implWrite_any (v : Value) (xs : List ByteArray) (u : Int) (s : ByteArray) (w : World) (hv : RSt w v xs) (hl : xs.length ≤ 1048576) (hs : ∀ (j : Nat) (h : j < xs.length), xs[j].size ≤ 1048576) (hz : s.size ≤ 1048576) :
    Calls Try.prog 20 #[.agg #[v], .int .i64 u, .string s] w fun e w' => ∃ v', e = .returned (.tuple #[.agg #[v'], .bool (okW xs u s)]) ∧ ROwns w' w.heap.size 9 v' (sc (wr xs u s)) ∧ Below w.heap.size w w' := by
  obtain ⟨a, c, rfl⟩ := hv.form
  obtain ⟨r, hr⟩ : ∃ r, okD xs = r := ⟨_, rfl⟩
  obtain ⟨q, hq⟩ : ∃ q, (decide (0 ≤ u) && decide (u < 21)) = q := ⟨_, rfl⟩
  have HR := hide hr
  have HQ := hide hq
  have C1 := hide (fun (v : Value) (w : World) (hv : RSt w v xs) => implOk_any v xs w hv hl hs)
  have C2 := hide (isUnit_any u)
  have C3 := hide (fun (v : Value) (w : World) (hv : RSt w v xs) => newU_any v xs w hv hl hs)
  rw [hr] at C1
  rw [hq] at C2
  have HV := hide hv
  clear hs hr hq hv
  go_enter Try.func20, Try.ntmps20
  go_wp2_with fail
  refine (C1.out _ _ ((HV.out.alloc _).alloc _)).mono ?_
  rintro e w1 ⟨rfl, B1⟩
  have X1 : AtO 32 w1 w.heap.size (.slice a xs.length c) := ((AtO.new 32 w _).alloc _).below B1 (by simp; omega)
  have X2 : AtO 32 w1 (w.heap.size + 1) (.slice none 0 0) := by
    have := (AtO.new 32 (w.alloc (.cells #[.slice a xs.length c] 32)) (.slice none 0 0)).below B1 (by simp)
    rwa [World.size_alloc] at this
  have X3 : Below w.heap.size w w1 := (((Below.refl _ w).alloc (Nat.le_refl _) _).alloc (by simp) _).trans (B1.mono (by simp; omega))
  have X4 := HV.out.below X3 (Nat.le_refl _)
  have c0 := X1.cell
  have l0 := X1.lt
  have l2 : w.heap.size + 1 < w1.heap.size := X2.lt
  have H1 := hide (And.intro X2 (And.intro X3 X4))
  have CN := hide (C3.out _ w1 X4)
  clear B1 X1 X2 X3 X4 C1 C3 HV
  have hend : Hid (∀ w2, ROwns w2 w1.heap.size 9 (.slice (some ⟨w1.heap.size, 0, none⟩) xs.length xs.length) (sc xs) → Below w1.heap.size w1 w2 → AtO 32 w2 (w.heap.size + 1) (.slice none 0 0) ∧ Below w.heap.size w w2 ∧ w1.heap.size < w2.heap.size) := fun w2 h1 h2 => ⟨H1.out.1.below h2 l2, H1.out.2.1.trans (h2.mono (by omega)), (h1.lt _ rfl).2⟩
  by_cases hok : okW xs u s = true
  · have e1 := hide hok
    have HA : Hid (r = true ∧ q = true ∧ s.size ≤ 60) := by
      have h := hok
      unfold okW at h
      rw [HR.out, HQ.out] at h
      simp at h
      exact ⟨h.1.1, h.1.2, h.2⟩
    obtain rfl := HA.out.1
    obtain rfl := HA.out.2.1
    have h60 := HA.out.2.2
    obtain ⟨k, hk, rfl⟩ : ∃ k : Nat, k < 21 ∧ u = k := by have := HQ.out; simp at this; exact ⟨u.toNat, by omega, by omega⟩
    have hkx : k < xs.length := by have h := HR.out; unfold okD at h; simp at h; omega
    have HK := hide hkx
    clear hok hkx
    go_wp2_with (go_at_call 30; refine (C2.out _).mono ?_; rintro e w3 ⟨rfl, rfl⟩)
    refine CN.out.mono ?_
    rintro e w2 ⟨rfl, O2, B2⟩
    have HO2 := hide (And.intro O2 B2)
    obtain ⟨Y2, Y3, Y4⟩ := hend.out w2 O2 B2
    have HY := hide (And.intro Y2 Y3)
    clear O2 B2 Y2 Y3
    go_wp2_with (go_at_call 32; refine (unitOf_any _ _ k _ HK.out hl).mono ?_; rintro e w3 ⟨rfl, rfl⟩)
    have L2 : RSt (w2.alloc (.cells #[.string s] 9)) (.slice (some ⟨w2.heap.size, 0, none⟩) 1 1) [s] := ROwns.rst (xs := [s]) (ROwns.lit w2 w2.heap.size 9 #[.string s] (Nat.le_refl _) (by simp [maxLen]))
    refine (newOne_any s _ _ L2 hz).mono ?_
    rintro e w3 ⟨rfl, O3, B3⟩
    rw [World.size_alloc] at O3
    have W2 : w2.heap[w1.heap.size]? = some (.cells (sc xs).toArray 9 (0, 0)) := by
      have := HO2.out.1
      exact ROwns.whole (by rw [sc_length]; exact this)
    have b3 : Below w1.heap.size w1 w3 := (HO2.out.2.alloc (by omega) (.cells #[.string s] 9)).trans (B3.mono (by simp; omega))
    have W3 : w3.heap[w1.heap.size]? = some (.cells (sc xs).toArray 9 (0, 0)) := (B3.block _ (by simp; omega)).trans ((Below.heap_alloc _ _ _ Y4).trans W2)
    have H3 := hide (And.intro b3 W3)
    have HO3 := hide O3
    clear L2 W2 W3 b3 B3 O3 c0 l0
    obtain ⟨w4, hcp, W4, R0⟩ := copy_one w3 w1.heap.size k ⟨w2.heap.size + 1, 0, none⟩ xs s H3.out.2 HK.out HO3.out
    have R2 := R0 w1.heap.size w1 H3.out.1 (Nat.le_refl _)
    have Y5 := H1.out.1.below R2 l2
    have d5 := Y5.cell
    have f5 := Y5.frozen
    have k5 := Y5.lt
    have HR1 := hide (And.intro W4 R2)
    clear R0 R2 Y5 W4
    go_wp2
    have W4 := HR1.out.1
    have O4 : ROwns w4 w1.heap.size 9 (.slice (some ⟨w1.heap.size, 0, none⟩) xs.length xs.length) (sc (xs.set k s)) := by
      have := whole_owns (base := w1.heap.size) W4 (Nat.le_refl _) (by rw [sc_length, List.length_set]; unfold maxLen; omega)
      rwa [sc_length, List.length_set] at this
    refine bodyPost_ret (v := .tuple #[.agg #[.slice (some ⟨w1.heap.size, 0, none⟩) xs.length xs.length], .bool true]) (by simp [results, go_sem, d5]) rfl ⟨_, by rw [e1.out], ?_, ?_⟩
    · rw [wr_yes e1.out]; exact (O4.setCell_other (by omega) _).base_le (by omega)
    · exact (H1.out.2.1.trans (HR1.out.2.mono (by omega))).setCell (by simp) _
  · have e1 : Hid (okW xs u s = false) := hide (by simpa using hok)
    have HA : Hid (r = true → q = true → ¬ s.size ≤ 60) := fun h1 h2 h3 => hok (by unfold okW; rw [HR.out, HQ.out, h1, h2]; simpa using h3)
    clear hok
    have fin : Hid (∀ w2, ROwns w2 w1.heap.size 9 (.slice (some ⟨w1.heap.size, 0, none⟩) xs.length xs.length) (sc xs) → Below w1.heap.size w1 w2 → ROwns (w2.setCell ⟨w.heap.size + 1, 0, none⟩ (.slice (some ⟨w1.heap.size, 0, none⟩) xs.length xs.length)) w.heap.size 9 (.slice (some ⟨w1.heap.size, 0, none⟩) xs.length xs.length) (sc (wr xs u s)) ∧ Below w.heap.size w (w2.setCell ⟨w.heap.size + 1, 0, none⟩ (.slice (some ⟨w1.heap.size, 0, none⟩) xs.length xs.length))) := fun w2 h1 h2 => by
      rw [wr_no e1.out]
      exact ⟨(h1.setCell_other (by omega) _).base_le (by omega), (hend.out w2 h1 h2).2.1.setCell (by simp) _⟩
    cases r with
    | false =>
      go_wp2_with fail
      refine CN.out.mono ?_
      rintro e w2 ⟨rfl, O2, B2⟩
      obtain ⟨Y2, Y3, Y4⟩ := hend.out w2 O2 B2
      have d5 := Y2.cell
      have f5 := Y2.frozen
      have k5 := Y2.lt
      have HF := hide (fin.out w2 O2 B2)
      clear Y2 Y3 O2 B2
      go_wp2
      exact bodyPost_ret (v := .tuple #[.agg #[.slice (some ⟨w1.heap.size, 0, none⟩) xs.length xs.length], .bool false]) (by simp [results, go_sem, d5]) rfl ⟨_, by rw [e1.out], HF.out.1, HF.out.2⟩
    | true =>
      cases q with
      | false =>
        go_wp2_with (go_at_call 30; refine (C2.out _).mono ?_; rintro e w3 ⟨rfl, rfl⟩)
        refine CN.out.mono ?_
        rintro e w2 ⟨rfl, O2, B2⟩
        obtain ⟨Y2, Y3, Y4⟩ := hend.out w2 O2 B2
        have d5 := Y2.cell
        have f5 := Y2.frozen
        have k5 := Y2.lt
        have HF := hide (fin.out w2 O2 B2)
        clear Y2 Y3 O2 B2
        go_wp2
        exact bodyPost_ret (v := .tuple #[.agg #[.slice (some ⟨w1.heap.size, 0, none⟩) xs.length xs.length], .bool false]) (by simp [results, go_sem, d5]) rfl ⟨_, by rw [e1.out], HF.out.1, HF.out.2⟩
      | true =>
        have h60 := HA.out rfl rfl
        go_wp2_with (go_at_call 30; refine (C2.out _).mono ?_; rintro e w3 ⟨rfl, rfl⟩)
        refine CN.out.mono ?_
        rintro e w2 ⟨rfl, O2, B2⟩
        obtain ⟨Y2, Y3, Y4⟩ := hend.out w2 O2 B2
        have d5 := Y2.cell
        have f5 := Y2.frozen
        have k5 := Y2.lt
        have HF := hide (fin.out w2 O2 B2)
        clear Y2 Y3 O2 B2
        go_wp2
        exact bodyPost_ret (v := .tuple #[.agg #[.slice (some ⟨w1.heap.size, 0, none⟩) xs.length xs.length], .bool false]) (by simp [results, go_sem, d5]; omega) rfl ⟨_, by rw [e1.out], HF.out.1, HF.out.2⟩
end Go.Proofs.Ytohmppcgbecifaa
