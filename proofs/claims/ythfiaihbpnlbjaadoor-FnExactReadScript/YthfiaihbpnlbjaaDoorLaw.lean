/- The walk of laws.FnExactReadScript: it returns true at every text. -/
import Derived.Test.YthfiaihbpnlbjaaDoorSr
namespace Go.Proofs.YthfiaihbpnlbjaaDoor.fnExactReadScript
open Go.RowKit Kit
theorem readS_len : ∀ (l : List ByteArray) (k : Nat) (out : List Evt), out.length ≤ 60 → (readS l k out).1.length ≤ 60
  | [], _, _, h => h
  | s :: l, k, out, h => by
    unfold readS
    split
    · exact Nat.zero_le _
    · exact readS_len l _ _ h
    · split
      · exact Nat.zero_le _
      · rename_i h2
        exact readS_len l _ _ (by rw [List.length_append]; simp; omega)
theorem ansS_len (s : ByteArray) : (ansS s).1.length ≤ 60 := by
  unfold ansS
  split
  · exact readS_len _ _ _ (Nat.zero_le _)
  · exact Nat.zero_le _
theorem cell2 {w w' : World} {m : Int} (h : w.cell? ⟨2, 0, none⟩ = some (.int .i64 m)) (hb : Below w.heap.size w w') : w'.cell? ⟨2, 0, none⟩ = some (.int .i64 m) := (hb.cell (p := ⟨2, 0, none⟩) (block_lt_of_cell h)).trans h
set_option maxRecDepth 100000 in
set_option maxHeartbeats 3200000 in
theorem walk (s : ByteArray) (w : World) (m : Int) (hm : w.cell? ⟨2, 0, none⟩ = some (.int .i64 m)) (htab : Lib.TabIs Tryd.prog w "strings.asciiSpace" .u8 Lib.asciiSpaceTab) :
    Calls Tryd.prog 3 #[.string s] w fun e w' => e = .returned (.bool true) ∧ Below w.heap.size w w' := by
  by_cases h2 : 1048576 < s.size
  · go_enter Tryd.func3, Tryd.ntmps3
    go_wp2
    go_ret
    exact ⟨rfl, Below.refl _ _⟩
  have HT := hide htab
  have HM := hide hm
  have HL := hide (ansS_len s)
  have CS := hide (fun W => specScript_any s W (by omega))
  have CI := hide (fun W m h t => implScript_any s W m h t)
  clear htab hm
  obtain ⟨⟨l, z⟩, hA⟩ : ∃ A, ansS s = A := ⟨_, rfl⟩
  rw [hA] at HL CS CI
  simp only at HL CS CI
  clear hA
  obtain ⟨n, hn⟩ : ∃ n, l.length = n := ⟨_, rfl⟩
  have HN := hide hn
  have hn60 : n ≤ 60 := by rw [← hn]; exact HL.out
  clear hn
  go_enter Tryd.func3, Tryd.ntmps3
  go_wp2_with fail
  refine (CS.out _).mono ?_
  rintro e w1 ⟨v1, rfl, R1, B1⟩
  obtain ⟨a1, c1, hv1⟩ := R1.form
  rw [HN.out] at hv1
  subst hv1
  have HB1 := hide B1
  have HR1 : Hid (∀ W, Below w1.heap.size w1 W → REv W (.slice a1 n c1) l) := hide fun W b => (R1.below b).rev
  clear R1 B1
  go_wp2_with fail
  refine (CI.out w1 m (cell2 HM.out HB1.out) (tab_below HT.out HB1.out)).mono ?_
  rintro e w2 ⟨v2, rfl, R2, B2⟩
  obtain ⟨a2, c2, hv2⟩ := R2.form
  rw [HN.out] at hv2
  subst hv2
  have HB2 := hide B2
  have HR2 := hide R2
  clear R2 B2
  go_wp2_with fail
  refine (eqEventS_same _ _ l w2 HR2.out.rev (HR1.out _ HB2.out) (by have := HL.out; omega)).mono ?_
  rintro e w3 ⟨rfl, B3⟩
  have HR3 := hide (HR2.out.below B3)
  have HB3 := hide (HB2.out.trans (B3.mono HB2.out.size))
  clear B3 HR2
  go_wp2_with fail
  refine (markEventS_any _ l w1.heap.size 1 w3 HR3.out (by decide) (by decide) (by have := HL.out; omega)).mono ?_
  rintro e w4 ⟨rfl, N4, G4⟩
  have HR4 := hide N4
  have HB4 : Hid (Below w1.heap.size w1 w4) := hide (HB3.out.grown G4 HB3.out.size (fun k e => (HR3.out.lt k e).1))
  clear N4 G4 HR3
  rw [HN.out] at HR4 ⊢
  go_wp2_with fail
  refine (heldEventS_any _ n w1.heap.size 1 w4 HR4.out (by decide) (by decide) (by omega)).mono ?_
  rintro e w5 ⟨rfl, B5⟩
  have HR5 := hide (HR4.out.below B5)
  have HB5 := hide (HB4.out.trans (B5.mono HB4.out.size))
  clear B5 HR4
  have HB15 := hide (HB1.out.trans (HB5.out.mono HB1.out.size))
  go_wp2_with fail
  refine (CI.out w5 m (cell2 HM.out HB15.out) (tab_below HT.out HB15.out)).mono ?_
  rintro e w6 ⟨v6, rfl, R6, B6⟩
  obtain ⟨a6, c6, hv6⟩ := R6.form
  rw [HN.out] at hv6
  subst hv6
  have HR6 := hide R6
  have HRb := hide (HR5.out.below B6)
  have HB6 := hide (HB5.out.trans (B6.mono HB5.out.size))
  clear R6 B6
  go_wp2_with fail
  refine (eqEventS_same _ _ l w6 HR6.out.rev (HR1.out _ HB6.out) (by have := HL.out; omega)).mono ?_
  rintro e w7 ⟨rfl, B7⟩
  have HRc := hide (HRb.out.below B7)
  have HB7 := hide (HB6.out.trans (B7.mono HB6.out.size))
  clear B7 HRb
  go_wp2_with fail
  refine (heldEventS_any _ n w1.heap.size 1 w7 HRc.out (by decide) (by decide) (by omega)).mono ?_
  rintro e w8 ⟨rfl, B8⟩
  have HB8 := hide (HB1.out.trans ((HB7.out.trans (B8.mono HB7.out.size)).mono HB1.out.size))
  clear B8
  go_wp2
  go_ret
  exact ⟨rfl, HB8.out⟩
end Go.Proofs.YthfiaihbpnlbjaaDoor.fnExactReadScript
