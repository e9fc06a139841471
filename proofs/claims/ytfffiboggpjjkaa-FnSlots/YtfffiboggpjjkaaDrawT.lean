/- spec.DrawBlockText, spec.DrawBlock, spec.DrawReadBlock and laws.sameBlock by their contracts. -/
import Derived.Test.YtfffiboggpjjkaaSpoilt
import Derived.Test.YtfffiboggpjjkaaBack
import Derived.Test.YtfffiboggpjjkaaEq
namespace Go.Proofs.Ytfffiboggpjjkaa
open Go.RowKit Kit
theorem Mild.big {t : ByteArray} {xs : List Sl} (h : Mild t xs) : ∀ (j : Nat) (hj : j < xs.length), xs[j].1.size ≤ 1048576 := fun j hj => by have := h.2.2 j hj; omega
theorem Mild.len {t : ByteArray} {xs : List Sl} (h : Mild t xs) : xs.length ≤ 4 := by rcases h.2.1 with h | h <;> omega
set_option maxHeartbeats 1600000 in
theorem drawBT_any (w : World) (a : Option Addr) (len cap : Nat) (hcode : CodeIs w a len) (hlen : len ≤ 1048576) :
    Calls Try.prog 10 #[.slice a len cap] w fun e w' => ∃ (d : Bool) (v : Value) (t : ByteArray) (xs : List Sl), e = .returned (.agg #[.bool d, v, .string t]) ∧ SOwns w' w.heap.size 36 v xs ∧ Mild t xs ∧ Below w.heap.size w w' := by
  obtain ⟨W0, hW0⟩ : ∃ W0, w.alloc (Obj.cells #[.bool false, .slice none 0 0, .string ⟨#[]⟩] 26) = W0 := ⟨_, rfl⟩
  have hsz : W0.heap.size = w.heap.size + 1 := by rw [← hW0]; simp
  have B0 : Below w.heap.size w W0 := by rw [← hW0]; exact (Below.refl _ w).alloc (Nat.le_refl _) _
  have K0 : AtC W0 w.heap.size 26 #[.bool false, .slice none 0 0, .string ⟨#[]⟩] := by rw [← hW0]; exact AtC.new w 26 _
  have HO := hide (code_below hcode B0)
  have HN := hide (new_any W0 a len cap HO.out hlen)
  have HW := hide hW0
  have HB0 := hide B0
  have HK0 := hide K0
  have HZ := hide hsz
  clear hcode hW0 B0 K0 hsz
  go_enter Try.func10, Try.ntmps10
  go_wp2_with fail
  rw [HW.out]
  refine HN.out.mono ?_
  rintro e w1 ⟨rfl, hcur, hlt⟩
  have HC := hide hcur
  clear hcur
  rw [HZ.out] at HC hlt ⊢
  go_wp2_with fail
  refine (any_any W0 w1 (w.heap.size + 1) a len cap HO.out hlen HC.out hlt).mono ?_
  rintro e w2 ⟨d, v, t, xs, rfl, O2, M2, hD⟩
  obtain ⟨s2, t2, rfl, -⟩ := O2.form
  have B2 := hD.1.2.1
  have hz := HZ.out
  have K2 := HK0.out.below B2 (by omega)
  obtain ⟨q0, q1, q2, m0⟩ := K2.three
  obtain ⟨z0, z1, z2⟩ := K2.frz
  have HB := hide (show Below w.heap.size w w2 from HB0.out.trans (B2.mono (by omega)))
  have HO2 := hide (show SOwns w2 (w.heap.size + 1) 36 (.slice s2 xs.length t2) xs from O2.base_le (by omega))
  have HM := hide M2
  clear O2 hD B2 hz HC HN HO HW HK0 HB0 K2 M2
  go_wp2
  refine bodyPost_ret (v := .agg #[.bool d, .slice s2 xs.length t2, .string t]) (by simp [results, go_sem, q0, q1, q2]) rfl ⟨d, _, t, xs, rfl, ?_, HM.out, ?_⟩
  · exact (((HO2.out.setCell_low (by omega) _).setCell_low (by omega) _).setCell_low (by omega) _).base_le (by omega)
  · exact ((HB.out.setCell (Nat.le_refl _) _).setCell (Nat.le_refl _) _).setCell (Nat.le_refl _) _
set_option maxHeartbeats 1600000 in
theorem drawB_any (w : World) (a : Option Addr) (len cap : Nat) (hcode : CodeIs w a len) (hlen : len ≤ 1048576) :
    Calls Try.prog 18 #[.slice a len cap] w fun e w' => ∃ (d : Bool) (v : Value) (t : ByteArray) (xs : List Sl), e = .returned (.agg #[.bool d, v, .string t]) ∧ SOwns w' w.heap.size 36 v xs ∧ (xs = [] ∨ Once xs) ∧ Below w.heap.size w w' := by
  obtain ⟨W0, hW0⟩ : ∃ W0, w.alloc (Obj.cells #[.bool false, .slice none 0 0, .string ⟨#[]⟩] 26) = W0 := ⟨_, rfl⟩
  have hsz : W0.heap.size = w.heap.size + 1 := by rw [← hW0]; simp
  have B0 : Below w.heap.size w W0 := by rw [← hW0]; exact (Below.refl _ w).alloc (Nat.le_refl _) _
  have K0 : AtC W0 w.heap.size 26 #[.bool false, .slice none 0 0, .string ⟨#[]⟩] := by rw [← hW0]; exact AtC.new w 26 _
  have HO := hide (code_below hcode B0)
  have HN := hide (new_any W0 a len cap HO.out hlen)
  have HW := hide hW0
  have HB0 := hide B0
  have HK0 := hide K0
  have HZ := hide hsz
  clear hcode hW0 B0 K0 hsz
  go_enter Try.func18, Try.ntmps18
  go_wp2_with fail
  rw [HW.out]
  refine HN.out.mono ?_
  rintro e w1 ⟨rfl, hcur, hlt⟩
  have HC := hide hcur
  clear hcur
  rw [HZ.out] at HC hlt ⊢
  go_wp2_with fail
  refine (block4_any W0 w1 (w.heap.size + 1) a len cap HO.out hlen HC.out hlt).mono ?_
  rintro e w2 ⟨d, v, t, xs, rfl, O2, M2, hD⟩
  obtain ⟨s2, t2, rfl, -⟩ := O2.form
  have B2 := hD.1.2.1
  have hz := HZ.out
  have K2 := HK0.out.below B2 (by omega)
  obtain ⟨q0, q1, q2, m0⟩ := K2.three
  obtain ⟨z0, z1, z2⟩ := K2.frz
  have HB := hide (show Below w.heap.size w w2 from HB0.out.trans (B2.mono (by omega)))
  have HO2 := hide (show SOwns w2 (w.heap.size + 1) 36 (.slice s2 xs.length t2) xs from O2.base_le (by omega))
  have HM := hide (show xs = [] ∨ Once xs from by rcases M2 with h | h; exact .inl h.2.1; exact .inr h.2.1)
  clear O2 hD B2 hz HC HN HO HW HK0 HB0 K2 M2
  go_wp2
  refine bodyPost_ret (v := .agg #[.bool d, .slice s2 xs.length t2, .string t]) (by simp [results, go_sem, q0, q1, q2]) rfl ⟨d, _, t, xs, rfl, ?_, HM.out, ?_⟩
  · exact (((HO2.out.setCell_low (by omega) _).setCell_low (by omega) _).setCell_low (by omega) _).base_le (by omega)
  · exact ((HB.out.setCell (Nat.le_refl _) _).setCell (Nat.le_refl _) _).setCell (Nat.le_refl _) _
set_option maxHeartbeats 1600000 in
theorem drawRB_any (w : World) (a : Option Addr) (len cap : Nat) (hcode : CodeIs w a len) (hlen : len ≤ 1048576) :
    Calls Try.prog 13 #[.slice a len cap] w fun e w' => ∃ t : ByteArray, t.size ≤ 6000 ∧ e = .returned (.string t) ∧ Below w.heap.size w w' := by
  have HO := hide hcode
  clear hcode
  go_enter Try.func13, Try.ntmps13
  go_wp2_with fail
  refine (new_any w a len cap HO.out hlen).mono ?_
  rintro e w1 ⟨rfl, hcur, hlt⟩
  have HC := hide hcur
  clear hcur
  go_wp2_with fail
  refine (any_any w w1 _ a len cap HO.out hlen HC.out hlt).mono ?_
  rintro e w2 ⟨d, v, t0, xs, rfl, O2, M2, hD⟩
  have HR := hide O2.rsl
  have HD := hide hD
  have HM := hide M2
  clear O2 hD M2
  go_wp2_with fail
  refine (specText_any d v t0 xs w2 HR.out HM.out.big).mono ?_
  rintro e w3 ⟨rfl, B3⟩
  have hts := blockB_size (d := d) (xs := xs) HM.out.1
  generalize blockB d xs t0 = t at *
  generalize blockOk d xs t0 = okk at *
  have HD3 := hide (HD.out.below hlt B3)
  have hlt3 : w.heap.size < w3.heap.size := by have := HD3.out.2.size; omega
  clear B3 HD HR HC HM
  go_wp2_with fail
  refine (once_any w w3 w.heap.size a len cap 3 HO.out hlen HD3.out.cur (by decide) (by decide)).mono ?_
  rintro e w4 ⟨x, rfl, D4⟩
  have HD4 := hide D4
  have hlt4 : w.heap.size < w4.heap.size := by have := D4.2.size; omega
  clear D4 HD3
  by_cases hx : x = 0
  · subst hx
    go_wp2_with fail
    refine (spoilt_any w w4 w.heap.size a len cap t HO.out hlen HD4.out.cur hlt4 (by omega)).mono ?_
    rintro e w5 ⟨u, hu, rfl, D5⟩
    have HD5 := hide D5
    clear D5
    go_wp2
    go_ret
    exact ⟨u, hu, rfl, HD5.out.cur.2.1⟩
  · have x0 : (x == 0) = false := by simpa using hx
    go_wp2
    go_ret
    exact ⟨t, by omega, rfl, HD4.out.cur.2.1⟩
set_option maxRecDepth 100000 in
set_option maxHeartbeats 1600000 in
theorem sameB_same (d : Bool) (va vb : Value) (t : ByteArray) (l : List Sl) (w : World) (ha : RSl w va l) (hb : RSl w vb l) (hl : l.length ≤ 1048576) :
    Calls Try.prog 17 #[.agg #[.bool d, va, .string t], .agg #[.bool d, vb, .string t]] w fun e w' => e = .returned (.bool true) ∧ Below w.heap.size w w' := by
  obtain ⟨a1, c1, rfl, -, ha⟩ := ha
  obtain ⟨a2, c2, rfl, -, hb⟩ := hb
  have HA := hide ha
  have HB := hide hb
  clear ha hb
  go_enter Try.func17, Try.ntmps17
  go_wp2
  go_loopw [5] (fun i wr => ∃ j : Nat, j ≤ l.length ∧ i = .int .i64 j ∧ ∃ q, wr = ((w.alloc (.cells #[.bool d, .slice a1 l.length c1, .string t] 26)).alloc (.cells #[.bool d, .slice a2 l.length c2, .string t] 26)).drewN q) (fun i _ => l.length - (intOf i).toNat)
  case atStart => exact ⟨0, Nat.zero_le _, rfl, 0, rfl⟩
  case round =>
    obtain ⟨j, hj, rfl, q, rfl⟩ := hrel
    by_cases hlt : j < l.length
    · obtain ⟨g1, o1, rfl, hg1, m1, m2⟩ := HA.out j hlt
      obtain ⟨g2, o2, rfl, hg2, m3, m4⟩ := HB.out j hlt
      obtain ⟨n, hn⟩ : ∃ n, l[j].1 = n := ⟨_, rfl⟩
      obtain ⟨z, hz⟩ : ∃ z, l[j].2 = z := ⟨_, rfl⟩
      rw [hn] at m1 m3
      rw [hz] at m2 m4
      clear hn hz
      have hg3 : g1 < w.heap.size + 1 := by omega
      have hg4 : g2 < w.heap.size + 1 := by omega
      have j0 : (0 : Int) ≤ (j : Int) := by omega
      have j1 : (j : Int) < (l.length : Int) := by omega
      go_wp2
      go_quiet (fail)
      go_wp2
      go_roundw
      case rel => exact ⟨j + 1, by omega, by go_num, _, rfl⟩
      case measure => simp [intOf]; omega
    · go_wp2
      go_ret
      exact ⟨rfl, below_drewN (((Below.refl _ w).alloc (Nat.le_refl _) _).alloc (by simp) _) _⟩
end Go.Proofs.Ytfffiboggpjjkaa
