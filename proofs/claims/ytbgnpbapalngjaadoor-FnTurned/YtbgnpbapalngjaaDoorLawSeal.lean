/- The laws of impl's Sealed and Unsealed, walked: true at every text, memory as it was. -/
import Derived.Test.YtbgnpbapalngjaaDoorUnseal
namespace Go.Proofs.YtbgnpbapalngjaaDoor
open Go.RowKit Kit
/-- What Sealed answers. -/
def sealV (t : ByteArray) : Value := if t.size ≤ 20000 then .tuple #[.string (sealB t), .bool true] else .tuple #[.string ⟨#[]⟩, .bool false]
theorem implSealed_any (t : ByteArray) (w : World) (hz : t.size ≤ 1048580) (ht : Tab w) : Calls Tryd.prog 11 #[.string t] w fun e w' => e = .returned (sealV t) ∧ Below w.heap.size w w' := by
  unfold sealV
  split
  · exact implSealed_yes t w (by assumption) ht
  · exact implSealed_no t w (by assumption) hz
theorem specSealed_any (t : ByteArray) (w : World) (hz : t.size ≤ 1048580) : Calls Tryd.prog 17 #[.string t] w fun e w' => e = .returned (sealV t) ∧ Below w.heap.size w w' := by
  unfold sealV
  split
  · exact specSealed_yes t w (by assumption)
  · exact specSealed_no t w (by assumption) hz
theorem sealV_two (t : ByteArray) : ∃ s b, sealV t = .tuple #[.string s, .bool b] := by
  unfold sealV
  split
  · exact ⟨_, _, rfl⟩
  · exact ⟨_, _, rfl⟩
theorem lawSealed (a0 : ByteArray) (w : World) (ht : Tab w) :
    Calls Tryd.prog 6 #[.string a0] w fun e w' => e = .returned (.bool true) ∧ Below w.heap.size w w' := by
  have HT := hide ht
  clear ht
  by_cases hz : a0.size ≤ 1048576
  · have b0 : decide ((1048576 : Int) < (a0.size : Int)) = false := by simp; omega
    have H1 := hide (specSealed_any a0 w (by omega))
    have H2 := fun w1 (h : Tab w1) => hide (implSealed_any a0 w1 (by omega) h)
    obtain ⟨s, b, hv⟩ := sealV_two a0
    rw [hv] at H1
    simp only [hv] at H2
    clear hv
    go_enter Tryd.func6, Tryd.ntmps6
    go_wp2_with fail
    refine H1.out.mono ?_
    rintro e w1 ⟨rfl, hb⟩
    go_wp2_with fail
    refine (H2 w1 (HT.out.below hb rfl)).out.mono ?_
    rintro e w2 ⟨rfl, hb2⟩
    have HB := hide (hb.trans (hb2.mono hb.size))
    clear hb hb2 H1 H2
    go_wp2
    go_ret
    exact ⟨rfl, HB.out⟩
  · have b0 : decide ((1048576 : Int) < (a0.size : Int)) = true := by simp; omega
    go_enter Tryd.func6, Tryd.ntmps6
    go_wp2
    go_ret
    exact ⟨rfl, Below.refl _ _⟩
/-- Two calls answer alike. -/
theorem unsealed_both (t : ByteArray) (hz : t.size ≤ 1048576) : ∃ s b, (∀ w, Hid (Calls Tryd.prog 18 #[.string t] w fun e w' => e = .returned (.tuple #[.string s, .bool b]) ∧ Below w.heap.size w w')) ∧ ∀ w, Tab w → Hid (Calls Tryd.prog 12 #[.string t] w fun e w' => e = .returned (.tuple #[.string s, .bool b]) ∧ Below w.heap.size w w') := by
  by_cases h4 : t.size < 4
  · exact ⟨_, _, fun w => hide (specUnsealed_short t w h4), fun w _ => hide (implUnsealed_short t w h4)⟩
  · obtain ⟨n, hn⟩ : ∃ n, t.size = n + 4 := ⟨t.size - 4, by omega⟩
    by_cases h1 : n ≤ 20000
    · obtain ⟨P, b, hs⟩ := seal4 t n hn
      cases b with
      | true => exact ⟨P, true, fun w => hide (specUnsealed_mid t w n P true hs h1), fun w ht => hide (implUnsealed_mid t w n P true hs h1 ht)⟩
      | false => exact ⟨⟨#[]⟩, false, fun w => hide (specUnsealed_mid t w n P false hs h1), fun w ht => hide (implUnsealed_mid t w n P false hs h1 ht)⟩
    · exact ⟨_, _, fun w => hide (specUnsealed_long t w n hn (by omega) (by omega)), fun w _ => hide (implUnsealed_long t w n hn (by omega) (by omega))⟩
theorem lawUnsealed (a0 : ByteArray) (w : World) (ht : Tab w) :
    Calls Tryd.prog 7 #[.string a0] w fun e w' => e = .returned (.bool true) ∧ Below w.heap.size w w' := by
  have HT := hide ht
  clear ht
  by_cases hz : a0.size ≤ 1048576
  · have b0 : decide ((1048576 : Int) < (a0.size : Int)) = false := by simp; omega
    obtain ⟨s, b, H1, H2⟩ := unsealed_both a0 hz
    go_enter Tryd.func7, Tryd.ntmps7
    go_wp2_with fail
    refine (H1 w).out.mono ?_
    rintro e w1 ⟨rfl, hb⟩
    go_wp2_with fail
    refine (H2 w1 (HT.out.below hb rfl)).out.mono ?_
    rintro e w2 ⟨rfl, hb2⟩
    have HB := hide (hb.trans (hb2.mono hb.size))
    clear hb hb2 H1 H2
    go_wp2
    go_ret
    exact ⟨rfl, HB.out⟩
  · have b0 : decide ((1048576 : Int) < (a0.size : Int)) = true := by simp; omega
    go_enter Tryd.func7, Tryd.ntmps7
    go_wp2
    go_ret
    exact ⟨rfl, Below.refl _ _⟩
end Go.Proofs.YtbgnpbapalngjaaDoor
