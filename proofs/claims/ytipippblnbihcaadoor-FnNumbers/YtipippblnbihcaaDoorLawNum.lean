/- The walk of laws.FnNumbers: it returns true at every code. -/
import Derived.Test.YtipippblnbihcaaDoorBackB
namespace Go.Proofs.YtipippblnbihcaaDoor.fnNumbers
open Go.RowKit Kit
theorem code_below {w w' : World} {a : Option Addr} {len : Nat} (h : CodeIs w a len) (hb : Below w.heap.size w w') : CodeIs w' a len := by
  intro j hj
  obtain ⟨b, off, z, h1, h2, h3, h4⟩ := h j hj
  exact ⟨b, off, z, h1, by have := hb.size; omega, (hb.cell (p := ⟨b, off + j, none⟩) h2).trans h3, h4⟩
theorem str_eq (t : ByteArray) : (t.toList == t.toList) = true := by simp

theorem drawHex_str (w : World) (a : Option Addr) (len cap : Nat) (hcode : CodeIs w a len) (hlen : len ≤ 1048576) :
    Calls Tryd.prog 10 #[.slice a len cap] w fun e w' => ∃ t : ByteArray, t.size ≤ 20001 ∧ e = .returned (.string t) ∧ Below w.heap.size w w' :=
  (drawHex_any w a len cap hcode hlen).mono fun e w' ⟨l, hl, he, hb⟩ => ⟨⟨l.toArray⟩, by simpa [ByteArray.size] using hl, he, hb⟩
def abcB : ByteArray := ⟨#[97, 98, 99]⟩
theorem big_no (a : Option Addr) (len cap : Nat) (w : World) (h : len ≤ 1048576) :
    Calls Tryd.prog 4 #[.slice a len cap] w fun e w' => e = .returned (.bool false) ∧ w = w' := by
  have b0 : decide ((1048576 : Int) < (len : Int)) = false := by simp; omega
  go_enter Tryd.func4, Tryd.ntmps4
  go_wp2
  go_ret
  exact ⟨rfl, rfl⟩

set_option maxRecDepth 100000 in
set_option maxHeartbeats 3200000 in
theorem walk (a : Option Addr) (len cap : Nat) (w : World) (hcode : CodeIs w a len) (hg0 : 0 < w.heap.size) (htab : Lib.TabIs Tryd.prog w "internal/strconv.uint64pow10" .u64 Lib.pow10Tab) :
    Calls Tryd.prog 3 #[.slice a len cap] w fun e w' => e = .returned (.bool true) ∧ Below w.heap.size w w' := by
  by_cases hlen : len ≤ 1048576
  · have HO := hide hcode
    have HT := hide htab
    have b0 : decide ((1048576 : Int) < (len : Int)) = false := by simp; omega
    clear hcode htab
    go_enter Tryd.func3, Tryd.ntmps3
    go_wp2_with fail
    refine (big_no a len cap w hlen).mono ?_
    rintro e w' ⟨rfl, rfl⟩
    go_wp2_with fail
    refine (drawVar_any w a len cap HO.out hlen).mono ?_
    rintro e w1 ⟨z, rfl, hb1⟩
    have HB1 := hide hb1
    clear hb1
    have m120 : (⟨#[120]⟩ : ByteArray) = xB := rfl
    have m121 : (⟨#[121]⟩ : ByteArray) = yB := rfl
    have s120 : xB.size = 1 := rfl
    have s121 : yB.size = 1 := rfl
    have hS := hide (steps 12345 (by decide) ByteArray.empty)
    by_cases hz : 0 ≤ z ∧ z ≤ 1000000000
    · obtain ⟨n, rfl⟩ := Int.eq_ofNat_of_zero_le hz.1
      have hn : n ≤ 1000000000 := by omega
      have hV := hide (steps n hn ByteArray.empty)
      have hhz := headOf_size n
      clear hz
      go_wp2_with fail
      refine (hV.out.var _).mono ?_
      rintro e w2 ⟨rfl, hb2⟩
      have HB2 := hide (HB1.out.trans (hb2.mono HB1.out.size))
      clear hb2 HB1
      go_wp2_with fail
      refine (hV.out.read _).mono ?_
      rintro e w3 ⟨rfl, rfl⟩
      go_wp2_with fail
      refine (hV.out.dec _ (by have := HB2.out.size; omega) (var?_below HB2.out gTab hg0 HT.out)).mono ?_
      rintro e w4 ⟨rfl, hb4⟩
      have HB4 := hide (HB2.out.trans (hb4.mono HB2.out.size))
      clear hb4 HB2
      go_wp2_with fail
      refine (hV.out.rdec _).mono ?_
      rintro e w5 ⟨rfl, hb5⟩
      have HB5 := hide (HB4.out.trans (hb5.mono HB4.out.size))
      clear hb5 HB4
      go_wp2_with fail
      refine (drawHex_str w5 a len cap (code_below HO.out HB5.out) hlen).mono ?_
      rintro e w6 ⟨t, ht, rfl, hb6⟩
      have HB6 := hide (HB5.out.trans (hb6.mono HB5.out.size))
      clear hb6 HB5
      by_cases h300 : t.size ≤ 300
      · have hT := hide (stepsB t h300)
        have hsB := headOf_size t.size
        go_wp2_with fail
        refine (hT.out.short _).mono ?_
        rintro e w7 ⟨rfl, hb7⟩
        have HB7 := hide (HB6.out.trans (hb7.mono HB6.out.size))
        clear hb7 HB6
        go_wp2_with fail
        refine (hT.out.rshort _).mono ?_
        rintro e w8 ⟨rfl, hb8⟩
        have HB8 := hide (HB7.out.trans (hb8.mono HB7.out.size))
        clear hb8 HB7
        go_wp2_with fail
        refine (hT.out.hex _).mono ?_
        rintro e w9 ⟨rfl, hb9⟩
        have HB9 := hide (HB8.out.trans (hb9.mono HB8.out.size))
        clear hb9 HB8
        go_wp2_with fail
        refine (hT.out.unhex _).mono ?_
        rintro e wA ⟨rfl, hbA⟩
        have HBA := hide (HB9.out.trans (hbA.mono HB9.out.size))
        clear hbA HB9
        go_wp2
        go_ret
        exact ⟨rfl, HBA.out⟩
      · have hT := hide (stepsB abcB (by decide))
        have m97 : (⟨#[97, 98, 99]⟩ : ByteArray) = abcB := rfl
        have hsB := headOf_size abcB.size
        go_wp2_with fail
        refine (hT.out.short _).mono ?_
        rintro e w7 ⟨rfl, hb7⟩
        have HB7 := hide (HB6.out.trans (hb7.mono HB6.out.size))
        clear hb7 HB6
        go_wp2_with fail
        refine (hT.out.rshort _).mono ?_
        rintro e w8 ⟨rfl, hb8⟩
        have HB8 := hide (HB7.out.trans (hb8.mono HB7.out.size))
        clear hb8 HB7
        go_wp2_with fail
        refine (hT.out.hex _).mono ?_
        rintro e w9 ⟨rfl, hb9⟩
        have HB9 := hide (HB8.out.trans (hb9.mono HB8.out.size))
        clear hb9 HB8
        go_wp2_with fail
        refine (hT.out.unhex _).mono ?_
        rintro e wA ⟨rfl, hbA⟩
        have HBA := hide (HB9.out.trans (hbA.mono HB9.out.size))
        clear hbA HB9
        go_wp2
        go_ret
        exact ⟨rfl, HBA.out⟩
    · by_cases hz0 : z < 0
      · clear hz
        have hhz := headOf_size 12345
        go_wp2_with fail
        refine (hS.out.var _).mono ?_
        rintro e w2 ⟨rfl, hb2⟩
        have HB2 := hide (HB1.out.trans (hb2.mono HB1.out.size))
        clear hb2 HB1
        go_wp2_with fail
        refine (hS.out.read _).mono ?_
        rintro e w3 ⟨rfl, rfl⟩
        go_wp2_with fail
        refine (hS.out.dec _ (by have := HB2.out.size; omega) (var?_below HB2.out gTab hg0 HT.out)).mono ?_
        rintro e w4 ⟨rfl, hb4⟩
        have HB4 := hide (HB2.out.trans (hb4.mono HB2.out.size))
        clear hb4 HB2
        go_wp2_with fail
        refine (hS.out.rdec _).mono ?_
        rintro e w5 ⟨rfl, hb5⟩
        have HB5 := hide (HB4.out.trans (hb5.mono HB4.out.size))
        clear hb5 HB4
        go_wp2_with fail
        refine (drawHex_str w5 a len cap (code_below HO.out HB5.out) hlen).mono ?_
        rintro e w6 ⟨t, ht, rfl, hb6⟩
        have HB6 := hide (HB5.out.trans (hb6.mono HB5.out.size))
        clear hb6 HB5
        by_cases h300 : t.size ≤ 300
        · have hT := hide (stepsB t h300)
          have hsB := headOf_size t.size
          go_wp2_with fail
          refine (hT.out.short _).mono ?_
          rintro e w7 ⟨rfl, hb7⟩
          have HB7 := hide (HB6.out.trans (hb7.mono HB6.out.size))
          clear hb7 HB6
          go_wp2_with fail
          refine (hT.out.rshort _).mono ?_
          rintro e w8 ⟨rfl, hb8⟩
          have HB8 := hide (HB7.out.trans (hb8.mono HB7.out.size))
          clear hb8 HB7
          go_wp2_with fail
          refine (hT.out.hex _).mono ?_
          rintro e w9 ⟨rfl, hb9⟩
          have HB9 := hide (HB8.out.trans (hb9.mono HB8.out.size))
          clear hb9 HB8
          go_wp2_with fail
          refine (hT.out.unhex _).mono ?_
          rintro e wA ⟨rfl, hbA⟩
          have HBA := hide (HB9.out.trans (hbA.mono HB9.out.size))
          clear hbA HB9
          go_wp2
          go_ret
          exact ⟨rfl, HBA.out⟩
        · have hT := hide (stepsB abcB (by decide))
          have m97 : (⟨#[97, 98, 99]⟩ : ByteArray) = abcB := rfl
          have hsB := headOf_size abcB.size
          go_wp2_with fail
          refine (hT.out.short _).mono ?_
          rintro e w7 ⟨rfl, hb7⟩
          have HB7 := hide (HB6.out.trans (hb7.mono HB6.out.size))
          clear hb7 HB6
          go_wp2_with fail
          refine (hT.out.rshort _).mono ?_
          rintro e w8 ⟨rfl, hb8⟩
          have HB8 := hide (HB7.out.trans (hb8.mono HB7.out.size))
          clear hb8 HB7
          go_wp2_with fail
          refine (hT.out.hex _).mono ?_
          rintro e w9 ⟨rfl, hb9⟩
          have HB9 := hide (HB8.out.trans (hb9.mono HB8.out.size))
          clear hb9 HB8
          go_wp2_with fail
          refine (hT.out.unhex _).mono ?_
          rintro e wA ⟨rfl, hbA⟩
          have HBA := hide (HB9.out.trans (hbA.mono HB9.out.size))
          clear hbA HB9
          go_wp2
          go_ret
          exact ⟨rfl, HBA.out⟩
      · have hz1 : 1000000000 < z := by omega
        clear hz
        have hhz := headOf_size 12345
        go_wp2_with fail
        refine (hS.out.var _).mono ?_
        rintro e w2 ⟨rfl, hb2⟩
        have HB2 := hide (HB1.out.trans (hb2.mono HB1.out.size))
        clear hb2 HB1
        go_wp2_with fail
        refine (hS.out.read _).mono ?_
        rintro e w3 ⟨rfl, rfl⟩
        go_wp2_with fail
        refine (hS.out.dec _ (by have := HB2.out.size; omega) (var?_below HB2.out gTab hg0 HT.out)).mono ?_
        rintro e w4 ⟨rfl, hb4⟩
        have HB4 := hide (HB2.out.trans (hb4.mono HB2.out.size))
        clear hb4 HB2
        go_wp2_with fail
        refine (hS.out.rdec _).mono ?_
        rintro e w5 ⟨rfl, hb5⟩
        have HB5 := hide (HB4.out.trans (hb5.mono HB4.out.size))
        clear hb5 HB4
        go_wp2_with fail
        refine (drawHex_str w5 a len cap (code_below HO.out HB5.out) hlen).mono ?_
        rintro e w6 ⟨t, ht, rfl, hb6⟩
        have HB6 := hide (HB5.out.trans (hb6.mono HB5.out.size))
        clear hb6 HB5
        by_cases h300 : t.size ≤ 300
        · have hT := hide (stepsB t h300)
          have hsB := headOf_size t.size
          go_wp2_with fail
          refine (hT.out.short _).mono ?_
          rintro e w7 ⟨rfl, hb7⟩
          have HB7 := hide (HB6.out.trans (hb7.mono HB6.out.size))
          clear hb7 HB6
          go_wp2_with fail
          refine (hT.out.rshort _).mono ?_
          rintro e w8 ⟨rfl, hb8⟩
          have HB8 := hide (HB7.out.trans (hb8.mono HB7.out.size))
          clear hb8 HB7
          go_wp2_with fail
          refine (hT.out.hex _).mono ?_
          rintro e w9 ⟨rfl, hb9⟩
          have HB9 := hide (HB8.out.trans (hb9.mono HB8.out.size))
          clear hb9 HB8
          go_wp2_with fail
          refine (hT.out.unhex _).mono ?_
          rintro e wA ⟨rfl, hbA⟩
          have HBA := hide (HB9.out.trans (hbA.mono HB9.out.size))
          clear hbA HB9
          go_wp2
          go_ret
          exact ⟨rfl, HBA.out⟩
        · have hT := hide (stepsB abcB (by decide))
          have m97 : (⟨#[97, 98, 99]⟩ : ByteArray) = abcB := rfl
          have hsB := headOf_size abcB.size
          go_wp2_with fail
          refine (hT.out.short _).mono ?_
          rintro e w7 ⟨rfl, hb7⟩
          have HB7 := hide (HB6.out.trans (hb7.mono HB6.out.size))
          clear hb7 HB6
          go_wp2_with fail
          refine (hT.out.rshort _).mono ?_
          rintro e w8 ⟨rfl, hb8⟩
          have HB8 := hide (HB7.out.trans (hb8.mono HB7.out.size))
          clear hb8 HB7
          go_wp2_with fail
          refine (hT.out.hex _).mono ?_
          rintro e w9 ⟨rfl, hb9⟩
          have HB9 := hide (HB8.out.trans (hb9.mono HB8.out.size))
          clear hb9 HB8
          go_wp2_with fail
          refine (hT.out.unhex _).mono ?_
          rintro e wA ⟨rfl, hbA⟩
          have HBA := hide (HB9.out.trans (hbA.mono HB9.out.size))
          clear hbA HB9
          go_wp2
          go_ret
          exact ⟨rfl, HBA.out⟩
  · have hbig : 1048576 < len := by omega
    go_enter Tryd.func3, Tryd.ntmps3
    go_wp2
    go_ret
    exact ⟨rfl, Below.refl _ _⟩
end Go.Proofs.YtipippblnbihcaaDoor.fnNumbers
