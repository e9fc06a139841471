/- A right block comes back from its bytes, and bytes that are a block are the bytes of it. No Go function is spoken of. -/
import Derived.Test.YtfffiboggpjjkaaRsT
namespace Go.Proofs.Ytfffiboggpjjkaa
open Go.RowKit Kit
theorem tk_text {s : ByteArray} : ∀ (n p : Nat) (xs : List Sl) (e : Nat), p ≤ s.size → tk s n p = some (xs, e) → e ≤ s.size ∧ s.data.toList.take e = s.data.toList.take p ++ encs xs := by
  intro n
  induction n with
  | zero =>
    intro p xs e hp h
    simp only [tk, Option.some.injEq, Prod.mk.injEq] at h
    obtain ⟨rfl, rfl⟩ := h
    exact ⟨hp, by simp [encs]⟩
  | succ n ih =>
    intro p xs e hp h
    by_cases hlt : p < s.size
    · cases hr : rsO s (p + 1) with
      | none => rw [tk_none hlt hr] at h; cases h
      | some tq =>
        obtain ⟨t, q⟩ := tq
        rw [tk_some hlt hr] at h
        cases hk : tk s n q with
        | none => rw [hk] at h; cases h
        | some x =>
          obtain ⟨ys, e'⟩ := x
          rw [hk] at h
          simp only [Option.map_some, Option.some.injEq, Prod.mk.injEq] at h
          obtain ⟨rfl, rfl⟩ := h
          obtain ⟨k1, k2, k3, k4⟩ := rsO_shape (by omega) hr
          obtain ⟨i1, i2⟩ := ih q ys e' k3 hk
          refine ⟨i1, ?_⟩
          have hp' : p < s.data.toList.length := hlt
          have e1 : s.data.toList.take q = s.data.toList.take p ++ ((s.data.toList.drop p).take (q - p)) := by
            conv => lhs; rw [show q = p + (q - p) by omega, List.take_add]
          have e2 : (s.data.toList.drop p).take (q - p) = s[p] :: (s.data.toList.drop (p + 1)).take (q - (p + 1)) := by
            rw [List.drop_eq_getElem_cons hp', show q - p = (q - (p + 1)) + 1 by omega, List.take_succ_cons]
            rfl
          rw [i2, e1, e2, ← k4]
          simp [encs, enc, loB]
    · rw [tk_short hlt] at h; cases h
theorem rd_text {s : ByteArray} {d : Bool} {xs : List Sl} {t : ByteArray} (h : readR s = some (d, xs, t)) : blockB d xs t = s := by
  by_cases h0 : 0 < s.size
  · by_cases hd : s[0] = 100
    · cases hk : tk s 4 1 with
      | none => rw [readR_dirn h0 hd hk] at h; cases h
      | some x =>
        obtain ⟨ys, e⟩ := x
        rw [readR_dir h0 hd hk] at h
        split at h
        · rename_i hc
          simp only [Option.some.injEq, Prod.mk.injEq] at h
          obtain ⟨rfl, rfl, rfl⟩ := h
          obtain ⟨_, i2⟩ := tk_text 4 1 ys e (by omega) hk
          have hl : s.data.toList.length = s.size := rfl
          rw [hc.1, List.take_of_length_le (by omega)] at i2
          have e1 : s.data.toList.take 1 = [100] := by
            rw [List.take_one, List.head?_eq_getElem?, List.getElem?_eq_getElem (by omega)]
            have : s.data.toList[0]'(by omega) = s[0] := rfl
            rw [this, hd]
            rfl
          rw [e1] at i2
          have hok : blockOk true ys ⟨#[]⟩ = true := by rw [blockOk_dir ys ⟨#[]⟩ rfl]; exact hc.2
          unfold blockB
          rw [hok]
          simp only [if_true]
          rw [← accB_data s, i2]
          rfl
        · cases h
    · rw [readR_text h0 hd] at h
      split at h
      · rename_i hc
        simp only [Option.some.injEq, Prod.mk.injEq] at h
        obtain ⟨rfl, rfl, rfl⟩ := h
        have hok : blockOk false [] (s.extract 1 s.size) = true := by rw [blockOk_text]; exact decide_eq_true ⟨rfl, by rw [ByteArray.size_extract]; omega⟩
        unfold blockB
        rw [hok]
        simp only [if_true, Bool.false_eq_true, if_false]
        exact (head_iff h0 116).2 hc.1
      · cases h
  · rw [readR_empty (by omega)] at h; cases h
theorem tk_encs {s : ByteArray} : ∀ (ys : List Sl) (p : Nat), p ≤ s.size → s.data.toList.drop p = encs ys → (∀ y ∈ ys, 0 ≤ y.2 ∧ y.2 ≤ 8 ∧ y.1.size ≤ 6) → tk s ys.length p = some (ys, s.size) := by
  intro ys
  have hl : s.data.toList.length = s.size := rfl
  induction ys with
  | nil =>
    intro p hp h _
    have := congrArg List.length h
    rw [List.length_drop, hl] at this
    simp [encs] at this
    have e : p = s.size := by omega
    simp [tk, e]
  | cons y r ih =>
    intro p hp h hb
    obtain ⟨b1, b2, b3⟩ := hb y (by simp)
    have hlen := congrArg List.length h
    rw [List.length_drop, hl] at hlen
    have hvb : vb y.1.size = [loB y.1.size] := by rw [vb, vbF_small _ _ (by omega)]
    have hyl : y.1.data.toList.length = y.1.size := rfl
    simp only [encs, enc, hvb, List.length_append, List.length_cons, List.length_nil, hyl] at hlen
    have hlt : p < s.size := by omega
    have hp' : p < s.data.toList.length := hlt
    have h1 : s.data.toList.drop p = s[p] :: s.data.toList.drop (p + 1) := by rw [List.drop_eq_getElem_cons hp']; rfl
    rw [h1] at h
    simp only [encs, enc, hvb, List.cons_append, List.nil_append, List.cons.injEq] at h
    obtain ⟨h2, h3⟩ := h
    have hrd := rd_small (s := s) (p := p + 1) (n := y.1.size) h3 (by omega)
    have h4 : s.data.toList.drop (p + 2) = y.1.data.toList ++ encs r := by
      rw [show p + 2 = (p + 1) + 1 by omega, ← List.drop_drop, h3]; rfl
    have h5 : s.data.toList.drop (p + 2 + y.1.size) = encs r := by
      rw [← List.drop_drop, h4, List.drop_append_of_le_length (by omega), List.drop_of_length_le (by omega)]; rfl
    have hex : s.extract (p + 1 + 1) (p + 1 + 1 + y.1.size) = y.1 := by
      refine ByteArray.ext (Array.toList_inj.1 ?_)
      rw [extract_toList, show p + 1 + 1 = p + 2 by omega, h4, show p + 2 + y.1.size - (p + 2) = y.1.size by omega, List.take_append_of_le_length (by omega), List.take_of_length_le (by omega)]
    have hrs : rsO s (p + 1) = some (y.1, p + 1 + 1 + y.1.size) := by
      unfold rsO
      rw [hrd]
      simp only
      rw [if_neg (by omega), hex]
    have := ih (p + 1 + 1 + y.1.size) (by omega) (by rw [show p + 1 + 1 + y.1.size = p + 2 + y.1.size by omega]; exact h5) (fun z hz => hb z (by simp [hz]))
    rw [List.length_cons, tk_some hlt hrs, this]
    simp only [Option.map_some]
    have e2 : ((s[p]).toNat : Int) = y.2 := by rw [h2]; simp [loB, UInt8.toNat_ofNat']; omega
    rw [e2]
theorem text_rd {d : Bool} {xs : List Sl} {t : ByteArray} (h : blockOk d xs t = true) : readR (blockB d xs t) = some (d, xs, t) := by
  cases d with
  | false =>
    have h' := h
    rw [blockOk_text] at h'
    obtain ⟨hx, ht⟩ := of_decide_eq_true h'
    have hx' : xs = [] := List.length_eq_zero_iff.1 hx
    subst hx'
    have e : blockB false [] t = oneB 116 ++ t := by unfold blockB; rw [h]; rfl
    rw [e]
    have hz : (oneB 116 ++ t).size = t.size + 1 := by rw [ByteArray.size_append, oneB_size]; omega
    have hl : (oneB 116 ++ t).data.toList = 116 :: t.data.toList := by rw [ByteArray.data_append, Array.toList_append]; rfl
    have h0 : 0 < (oneB 116 ++ t).size := by omega
    have hf : (oneB 116 ++ t)[0] = 116 := by
      have : (oneB 116 ++ t)[0] = (oneB 116 ++ t).data.toList[0]'(by show 0 < (oneB 116 ++ t).size; omega) := rfl
      exact (this.trans (List.getElem_of_eq hl _)).trans rfl
    have hex : (oneB 116 ++ t).extract 1 (oneB 116 ++ t).size = t := by
      refine ByteArray.ext (Array.toList_inj.1 ?_)
      rw [extract_toList, hl, hz]
      exact List.take_of_length_le (by show t.size ≤ _; omega)
    rw [readR_text h0 (by rw [hf]; decide), if_pos ⟨hf, by omega⟩, hex]
  | true =>
    by_cases ht : t.size = 0
    · have := size_zero ht
      subst this
      have hs : slotsOk xs = true := by rw [blockOk_dir xs _ rfl] at h; exact h
      obtain ⟨h4, hb⟩ := slots_bounds hs
      have e : blockB true xs ⟨#[]⟩ = accB (100 :: encs xs) := by unfold blockB; rw [h]; rfl
      rw [e]
      have hz := accB_size (100 :: encs xs)
      have hl : (accB (100 :: encs xs)).data.toList = 100 :: encs xs := rfl
      have h0 : 0 < (accB (100 :: encs xs)).size := by rw [hz]; simp
      have hf : (accB (100 :: encs xs))[0] = 100 := by
        have : (accB (100 :: encs xs))[0] = (accB (100 :: encs xs)).data.toList[0]'h0 := rfl
        rw [this]
        simp [hl]
      have hk := tk_encs (s := accB (100 :: encs xs)) xs 1 (by omega) (by rw [hl]; rfl) (fun y hy => by
        obtain ⟨i, hi, rfl⟩ := List.getElem_of_mem hy
        exact hb i hi)
      rw [h4] at hk
      rw [readR_dir h0 hf hk, if_pos ⟨rfl, hs⟩]
    · rw [blockOk_dirt xs t ht] at h; cases h
theorem blockB_size {d : Bool} {xs : List Sl} {t : ByteArray} (ht : t.size ≤ 17) : (blockB d xs t).size ≤ 40 := by
  cases h : blockOk d xs t with
  | false => simp [blockB, h, ByteArray.size]
  | true =>
    cases d with
    | false =>
      have e : blockB false xs t = oneB 116 ++ t := by unfold blockB; rw [h]; rfl
      rw [e, ByteArray.size_append, oneB_size]; omega
    | true =>
      have hs : slotsOk xs = true := by
        by_cases h2 : t.size = 0
        · rw [blockOk_dir _ _ h2] at h; exact h
        · rw [blockOk_dirt _ _ h2] at h; cases h
      have e : blockB true xs t = accB (100 :: encs xs) := by unfold blockB; rw [h]; rfl
      rw [e, accB_size]
      have := pre_length hs 4
      rw [pre_all xs 4 (by have := (slots_bounds hs).1; omega)] at this
      omega
end Go.Proofs.Ytfffiboggpjjkaa
