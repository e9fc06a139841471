/- spec's and impl's Sealed and Unsealed by their contracts: a text with its sum behind it in four bytes; the text of what was so sealed. -/
import Derived.Test.YtbgnpbapalngjaaDoorSum
import Derived.Test.YtbgnpbapalngjaaDoorShelf
namespace Go.Proofs.YtbgnpbapalngjaaDoor
open Go.RowKit Kit
theorem clone_any (s : ByteArray) (w : World) (h : s.size ≤ 281474976710656) :
    Calls Tryd.prog 23 #[.string s] w fun e w' => e = .returned (.string s) ∧ Below w.heap.size w w' := by
  go_enter Tryd.func23, Tryd.ntmps23
  go_wp2_with (go_at_call 26; refine (Tryd.stringslite_Clone _ _ h).mono ?_; rintro e w1 ⟨rfl, hb⟩)
  go_ret
  exact ⟨rfl, hb⟩
/-- Four bytes of a number as a string. -/
def fourB (x : Nat) : ByteArray := ⟨(be4 x).toArray⟩
theorem fourB_size (x : Nat) : (fourB x).size = 4 := rfl
theorem conv_four (x : Nat) (h : x < 4294967296) (E : TypeId) (W : World) : (convert 22 9 (.slice (some ⟨W.heap.size, 0, none⟩) 4 4)).run Tryd.prog (W.alloc (.cells #[.int .u8 ((x : Int) / 16777216), .int .u8 ((x : Int) / 65536 % 256), .int .u8 ((x : Int) / 256 % 256), .int .u8 ((x : Int) % 256)] E)) = .ok (.string (fourB x)) (W.alloc (.cells #[.int .u8 ((x : Int) / 16777216), .int .u8 ((x : Int) / 65536 % 256), .int .u8 ((x : Int) / 256 % 256), .int .u8 ((x : Int) % 256)] E)) := by
  refine run_convert_bytes_back (P := Tryd.prog) _ 22 9 5 ⟨W.heap.size, 0, none⟩ 4 (be4 x) Tryd.underlying22 Tryd.underlying5 Tryd.underlying9 ?_
  intro j hj
  rw [be4_length] at hj
  match j, hj with
  | 0, _ => simp [Addr.add, be4, UInt8.toNat_ofNat']; omega
  | 1, _ => simp [Addr.add, be4, UInt8.toNat_ofNat']
  | 2, _ => simp [Addr.add, be4, UInt8.toNat_ofNat']
  | 3, _ => simp [Addr.add, be4, UInt8.toNat_ofNat']
theorem four_any (x : Nat) (w : World) (h : x < 4294967296) :
    Calls Tryd.prog 25 #[.int .u32 x] w fun e w' => e = .returned (.string (fourB x)) ∧ Below w.heap.size w w' := by
  have hco := conv_four x h
  go_enter Tryd.func25, Tryd.ntmps25
  go_wp2
  go_ret
  exact ⟨rfl, (Below.refl _ _).alloc (Nat.le_refl _) _⟩
/-- A text with its sum behind it. -/
def sealB (t : ByteArray) : ByteArray := t ++ fourB (sumT t.data.toList)
set_option maxRecDepth 100000 in
theorem implSealed_yes (t : ByteArray) (w : World) (h : t.size ≤ 20000) (ht : Tab w) :
    Calls Tryd.prog 11 #[.string t] w fun e w' => e = .returned (.tuple #[.string (sealB t), .bool true]) ∧ Below w.heap.size w w' := by
  have HT := hide ht
  clear ht
  have b0 : decide ((20000 : Int) < (t.size : Int)) = false := by simp; omega
  have hx := sumT_lt t.data.toList
  have HS := hide (show sealB t = t ++ fourB (sumT t.data.toList) from rfl)
  have HO := hide (implOf_any t w (by omega) HT.out)
  obtain ⟨x, hxe⟩ : ∃ x, sumT t.data.toList = x := ⟨_, rfl⟩
  rw [hxe] at hx HS HO
  clear hxe
  have hco := conv_four x hx
  have hsz := fourB_size x
  go_enter Tryd.func11, Tryd.ntmps11
  go_wp2_with fail
  refine HO.out.mono ?_
  rintro e w1 ⟨rfl, rfl⟩
  go_wp2
  go_ret2
  exact ⟨by rw [HS.out]; rfl, (Below.refl _ _).alloc (Nat.le_refl _) _⟩
theorem implSealed_no (t : ByteArray) (w : World) (h : ¬ t.size ≤ 20000) (hz : t.size ≤ 1048580) :
    Calls Tryd.prog 11 #[.string t] w fun e w' => e = .returned (.tuple #[.string ⟨#[]⟩, .bool false]) ∧ Below w.heap.size w w' := by
  have b0 : decide ((20000 : Int) < (t.size : Int)) = true := by simp; omega
  go_enter Tryd.func11, Tryd.ntmps11
  go_wp2
  go_ret2
  exact ⟨rfl, Below.refl _ _⟩
theorem specSealed_yes (t : ByteArray) (w : World) (h : t.size ≤ 20000) :
    Calls Tryd.prog 17 #[.string t] w fun e w' => e = .returned (.tuple #[.string (sealB t), .bool true]) ∧ Below w.heap.size w w' := by
  have b0 : decide ((20000 : Int) < (t.size : Int)) = false := by simp; omega
  have hx := sumT_lt t.data.toList
  have HS := hide (show sealB t = t ++ fourB (sumT t.data.toList) from rfl)
  have HO := hide (specOf_any t w (by omega))
  obtain ⟨x, hxe⟩ : ∃ x, sumT t.data.toList = x := ⟨_, rfl⟩
  rw [hxe] at hx HS HO
  clear hxe
  have hsz := fourB_size x
  go_enter Tryd.func17, Tryd.ntmps17
  go_wp2_with fail
  refine HO.out.mono ?_
  rintro e w1 ⟨rfl, rfl⟩
  go_wp2_with fail
  refine (four_any x w hx).mono ?_
  rintro e w1 ⟨rfl, hb⟩
  go_wp2
  go_ret2
  exact ⟨by rw [HS.out]; rfl, hb⟩
theorem specSealed_no (t : ByteArray) (w : World) (h : ¬ t.size ≤ 20000) (hz : t.size ≤ 1048580) :
    Calls Tryd.prog 17 #[.string t] w fun e w' => e = .returned (.tuple #[.string ⟨#[]⟩, .bool false]) ∧ Below w.heap.size w w' := by
  have b0 : decide ((20000 : Int) < (t.size : Int)) = true := by simp; omega
  go_enter Tryd.func17, Tryd.ntmps17
  go_wp2
  go_ret2
  exact ⟨rfl, Below.refl _ _⟩
end Go.Proofs.YtbgnpbapalngjaaDoor
