/- spec.ReadBlock at every text by its contract. -/
import Derived.Test.YtfffiboggpjjkaaRsS
namespace Go.Proofs.Ytfffiboggpjjkaa
open Go.RowKit Kit
theorem head_iff {s : ByteArray} (h0 : 0 < s.size) (b : UInt8) : oneB b ++ s.extract 1 s.size = s ↔ s[0] = b := by
  have hl : s.data.toList.length = s.size := rfl
  have e1 : (oneB b ++ s.extract 1 s.size).data.toList = b :: s.data.toList.drop 1 := by
    rw [ByteArray.data_append, Array.toList_append, extract_toList, List.take_of_length_le (by rw [List.length_drop, hl]; omega)]
    rfl
  have e2 : s.data.toList = s[0] :: s.data.toList.drop 1 := by
    conv => lhs; rw [← List.drop_zero (l := s.data.toList), List.drop_eq_getElem_cons (show 0 < s.data.toList.length by omega)]
    rfl
  constructor
  · intro h
    have h2 : (oneB b ++ s.extract 1 s.size).data.toList = s.data.toList := by rw [h]
    rw [e1, e2] at h2
    simp only [List.cons.injEq] at h2
    exact h2.1.symm
  · intro h
    refine ByteArray.ext (Array.toList_inj.1 ?_)
    rw [e1]
    conv => rhs; rw [e2]
    rw [h]
set_option maxHeartbeats 1600000 in
theorem specRead_text (s : ByteArray) (w : World) (hs : s.size ≤ 1048576) (h0 : 0 < s.size) (hd : s[0] ≠ 100) :
    Calls Try.prog 14 #[.string s] w fun e w' => ∃ v, e = .returned (.tuple #[.agg #[.bool (rD s), v, .string (rT s)], .bool (rOk s)]) ∧ SOwns w' w.heap.size 36 v (rX s) ∧ Below w.heap.size w w' := by
  have he := emp_false h0
  obtain ⟨x, hx⟩ : ∃ x : Nat, (s[0]).toNat = x := ⟨_, rfl⟩
  have x1 : ((x : Int) == 100) = false := by
    have : x ≠ 100 := fun e => hd (UInt8.toNat_inj.1 (by rw [hx, e]; rfl))
    simp; omega
  have hi1 : (1 : Int) ≤ (s.size : Int) := by omega
  have hi0 : (0 : Int) < (s.size : Int) := by omega
  obtain ⟨t, ht⟩ : ∃ t, s.extract 1 s.size = t := ⟨_, rfl⟩
  have hz : t.size = s.size - 1 := by rw [← ht, ByteArray.size_extract]; omega
  have C4 := hide (fun W => specText_any false (.slice none 0 0) t [] W ⟨none, 0, rfl, Nat.le_refl _, fun j hj => absurd hj (Nat.not_lt_zero _)⟩ (fun j hj => absurd hj (Nat.not_lt_zero _)))
  have key : (blockOk false [] t = true ∧ blockB false [] t = s ∧ readR s = some (false, [], t)) ∨ ((blockOk false [] t = false ∨ (blockOk false [] t = true ∧ ¬ blockB false [] t = s)) ∧ readR s = none) := by
    rw [readR_text h0 hd, ht]
    by_cases h17 : s.size ≤ 17
    · have hok : blockOk false [] t = true := by rw [blockOk_text]; exact decide_eq_true ⟨rfl, by omega⟩
      have eb : blockB false [] t = oneB 116 ++ s.extract 1 s.size := by rw [ht]; simp [blockB, hok]
      have hh := head_iff h0 116
      by_cases h6 : s[0] = 116
      · left; exact ⟨hok, by rw [eb]; exact hh.2 h6, by simp [h6, h17]⟩
      · right; exact ⟨.inr ⟨hok, by rw [eb]; exact fun h => h6 (hh.1 h)⟩, by simp [h6]⟩
    · right
      exact ⟨.inl (by rw [blockOk_text]; exact decide_eq_false (by omega)), by simp [h17]⟩
  have HKEY := hide key
  obtain ⟨k, hk⟩ : ∃ k, blockOk false [] t = k := ⟨_, rfl⟩
  obtain ⟨bk, hbk⟩ : ∃ bk, blockB false [] t = bk := ⟨_, rfl⟩
  rw [hk, hbk] at C4 HKEY
  have V0 : AtC ((w.alloc (.cells #[.bool false, .slice none 0 0, .string ⟨#[]⟩] 26)).alloc (.cells #[.bool false, .slice none 0 0, .string t] 26)) (w.heap.size + 1) 26 #[.bool false, .slice none 0 0, .string t] := by
    have := AtC.new (w.alloc (.cells #[.bool false, .slice none 0 0, .string ⟨#[]⟩] 26)) 26 #[.bool false, .slice none 0 0, .string t]
    simpa using this
  have HV0 := hide V0
  have HR0 := hide ((AtC.new w 26 #[.bool false, .slice none 0 0, .string ⟨#[]⟩]).alloc (.cells #[.bool false, .slice none 0 0, .string t] 26))
  have HW0 := hide (((Below.refl _ w).alloc (Nat.le_refl _) (.cells #[.bool false, .slice none 0 0, .string ⟨#[]⟩] 26)).alloc (by simp) (.cells #[.bool false, .slice none 0 0, .string t] 26))
  clear key hk hbk hz V0
  rcases HKEY.out with ⟨rfl, hbs, hrd⟩ | ⟨hno, hrd⟩
  · obtain ⟨e1, e2, e3, e4⟩ := r_some hrd
    have HE := hide (And.intro e1 (And.intro e2 (And.intro e3 e4)))
    have hq := beq_true hbs
    clear e1 e2 e3 e4 hrd HKEY hbs
    go_enter Try.func14, Try.ntmps14
    go_wp2_with (go_at_call 32; refine (C4.out _).mono ?_; rintro e w2 ⟨rfl, B2⟩; obtain ⟨y0, y1, y2, yl⟩ := (HV0.out.over B2).three; obtain ⟨x0, x1', x2, xl⟩ := (HR0.out.over B2).three; obtain ⟨g0, g1, g2⟩ := (HR0.out.over B2).frz; have HB2 := hide (HW0.out.trans (B2.mono (by simp; omega))); clear B2)
    refine bodyPost_ret (v := .tuple #[.agg #[.bool false, .slice none 0 0, .string t], .bool true]) (by simp [results, go_sem, x0, x1', x2]) rfl ?_
    rw [HE.out.1, HE.out.2.1, HE.out.2.2.1, HE.out.2.2.2]
    exact ⟨_, rfl, SOwns.nil _ _ _, ((HB2.out.setCell (Nat.le_refl _) _).setCell (Nat.le_refl _) _).setCell (Nat.le_refl _) _⟩
  · obtain ⟨e1, e2, e3, e4⟩ := r_none hrd
    have HE := hide (And.intro e1 (And.intro e2 (And.intro e3 e4)))
    clear e1 e2 e3 e4 hrd HKEY
    rcases hno with rfl | ⟨rfl, hne⟩
    · go_enter Try.func14, Try.ntmps14
      go_wp2_with (go_at_call 32; refine (C4.out _).mono ?_; rintro e w2 ⟨rfl, B2⟩; obtain ⟨x0, x1', x2, xl⟩ := (HR0.out.over B2).three; obtain ⟨g0, g1, g2⟩ := (HR0.out.over B2).frz; have HB2 := hide (HW0.out.trans (B2.mono (by simp; omega))); clear B2)
      refine bodyPost_ret (v := .tuple #[.agg #[.bool false, .slice none 0 0, .string ⟨#[]⟩], .bool false]) (by simp [results, go_sem, x0, x1', x2]) rfl ?_
      rw [HE.out.1, HE.out.2.1, HE.out.2.2.1, HE.out.2.2.2]
      exact ⟨_, rfl, SOwns.nil _ _ _, ((HB2.out.setCell (Nat.le_refl _) _).setCell (Nat.le_refl _) _).setCell (Nat.le_refl _) _⟩
    · have hq := beq_false hne
      clear hne
      go_enter Try.func14, Try.ntmps14
      go_wp2_with (go_at_call 32; refine (C4.out _).mono ?_; rintro e w2 ⟨rfl, B2⟩; obtain ⟨x0, x1', x2, xl⟩ := (HR0.out.over B2).three; obtain ⟨g0, g1, g2⟩ := (HR0.out.over B2).frz; have HB2 := hide (HW0.out.trans (B2.mono (by simp; omega))); clear B2)
      refine bodyPost_ret (v := .tuple #[.agg #[.bool false, .slice none 0 0, .string ⟨#[]⟩], .bool false]) (by simp [results, go_sem, x0, x1', x2]) rfl ?_
      rw [HE.out.1, HE.out.2.1, HE.out.2.2.1, HE.out.2.2.2]
      exact ⟨_, rfl, SOwns.nil _ _ _, ((HB2.out.setCell (Nat.le_refl _) _).setCell (Nat.le_refl _) _).setCell (Nat.le_refl _) _⟩
theorem specRead_any (s : ByteArray) (w : World) (hs : s.size ≤ 1048576) :
    Calls Try.prog 14 #[.string s] w fun e w' => ∃ v, e = .returned (.tuple #[.agg #[.bool (rD s), v, .string (rT s)], .bool (rOk s)]) ∧ SOwns w' w.heap.size 36 v (rX s) ∧ Below w.heap.size w w' := by
  by_cases h0 : 0 < s.size
  · by_cases hd : s[0] = 100
    · exact specRead_dir s w hs h0 hd
    · exact specRead_text s w hs h0 hd
  · obtain ⟨e1, e2, e3, e4⟩ := r_none (readR_empty (s := s) (by omega))
    rw [e1, e2, e3, e4]
    refine (specRead_none s w (by omega)).mono ?_
    rintro e w1 ⟨rfl, B1⟩
    exact ⟨_, rfl, SOwns.nil _ _ _, B1⟩
end Go.Proofs.Ytfffiboggpjjkaa
