/- spec's and impl's Unsealed by their contracts: the text whose sealed form this is, or none. -/
import Derived.Test.YtbgnpbapalngjaaDoorSeal
import Derived.Deep.RegionHeld3
import Derived.Deep.QuietTactic
import Derived.BigQuiet
namespace Go.Proofs.YtbgnpbapalngjaaDoor
open Go.RowKit Kit
/-- What was sealed here, where it was. -/
def Seal4 (t : ByteArray) (n : Nat) (P : ByteArray) (b : Bool) : Prop := t.size = n + 4 ∧ t.extract 0 n = P ∧ ((sealB P).toList == t.toList) = b ∧ ((t.extract n (n + 4)).toList == (fourB (sumT P.data.toList)).toList) = b
theorem extract_toList (s : ByteArray) (a b : Nat) : (s.extract a b).data.toList = (s.data.toList.drop a).take (b - a) := by
  simp [ByteArray.data_extract, List.take_drop]
theorem sealB_list (t : ByteArray) : (sealB t).data.toList = sealL t.data.toList := by simp [sealB, sealL, fourB]
theorem size_list (t : ByteArray) : t.data.toList.length = t.size := by simp
theorem seal4_list (t : ByteArray) (n : Nat) (h : t.size = n + 4) : (t.extract 0 n).data.toList = t.data.toList.take n ∧ (t.extract n (n + 4)).data.toList = t.data.toList.drop n := by
  rw [extract_toList, extract_toList]
  refine ⟨by simp, List.take_of_length_le ?_⟩
  rw [List.length_drop, size_list]
  omega
theorem seal4 (t : ByteArray) (n : Nat) (h : t.size = n + 4) : ∃ P b, Seal4 t n P b := by
  refine ⟨_, _, h, rfl, rfl, ?_⟩
  obtain ⟨h1, h2⟩ := seal4_list t n h
  rw [Bool.eq_iff_iff]
  simp only [beq_iff_eq, ByteArray.toList_eq]
  rw [sealB_list, h2, h1]
  unfold sealL fourB
  constructor
  · intro e
    have e2 : be4 (sumT (t.data.toList.take n)) = t.data.toList.drop n := e.symm
    rw [e2]
    exact List.take_append_drop n _
  · intro e
    have e2 := e.trans (List.take_append_drop n t.data.toList).symm
    exact (List.append_cancel_left e2).symm

theorem of_drew {w w1 : World} (h : Below w.drew.heap.size w.drew w1) : Below w.heap.size w w1 := (Below.refl _ w).drew.trans h
theorem implUnsealed_short (t : ByteArray) (w : World) (h : t.size < 4) :
    Calls Tryd.prog 12 #[.string t] w fun e w' => e = .returned (.tuple #[.string ⟨#[]⟩, .bool false]) ∧ Below w.heap.size w w' := by
  have b0 : decide ((t.size : Int) - 4 < 0) = true := by simp; omega
  go_enter Tryd.func12, Tryd.ntmps12
  go_wp2
  go_ret2
  exact ⟨rfl, Below.refl _ _⟩
theorem implUnsealed_long (t : ByteArray) (w : World) (n : Nat) (h : t.size = n + 4) (h1 : 20000 < n) (h2 : t.size ≤ 1048580) :
    Calls Tryd.prog 12 #[.string t] w fun e w' => e = .returned (.tuple #[.string ⟨#[]⟩, .bool false]) ∧ Below w.heap.size w w' := by
  have b0 : decide ((n : Int) < 0) = false := by simp
  have hsz : (t.size : Int) - 4 = (n : Int) := by omega
  have hn0 : (0 : Int) ≤ (n : Int) := by omega
  have hn1 : (n : Int) ≤ (t.size : Int) := by omega
  have hp : (t.extract 0 n).size = n := by rw [ByteArray.size_extract]; omega
  obtain ⟨P, hP⟩ : ∃ P, t.extract 0 n = P := ⟨_, rfl⟩
  rw [hP] at hp
  go_enter Tryd.func12, Tryd.ntmps12
  go_wp2_with fail
  refine (implSealed_no P w (by omega) (by omega)).mono ?_
  rintro e w1 ⟨rfl, hb⟩
  go_wp2
  go_ret2
  exact ⟨rfl, hb⟩
theorem implUnsealed_mid (t : ByteArray) (w : World) (n : Nat) (P : ByteArray) (b : Bool) (h : Seal4 t n P b) (h1 : n ≤ 20000) (ht : Tab w) :
    Calls Tryd.prog 12 #[.string t] w fun e w' => e = .returned (.tuple (if b then #[.string P, .bool true] else #[.string ⟨#[]⟩, .bool false])) ∧ Below w.heap.size w w' := by
  obtain ⟨h, hP, hc, -⟩ := h
  have HT := hide ht
  clear ht
  have b0 : decide ((n : Int) < 0) = false := by simp
  have hsz : (t.size : Int) - 4 = (n : Int) := by omega
  have hn0 : (0 : Int) ≤ (n : Int) := by omega
  have hn1 : (n : Int) ≤ (t.size : Int) := by omega
  have hp : (t.extract 0 n).size = n := by rw [ByteArray.size_extract]; omega
  rw [hP] at hp
  have HS := hide (implSealed_yes P w (by omega) HT.out)
  obtain ⟨S, hS⟩ : ∃ S, sealB P = S := ⟨_, rfl⟩
  rw [hS] at HS hc
  clear hS
  cases b with
  | false =>
    go_enter Tryd.func12, Tryd.ntmps12
    go_wp2_with fail
    refine HS.out.mono ?_
    rintro e w1 ⟨rfl, hb⟩
    go_wp2
    go_ret2
    exact ⟨rfl, hb⟩
  | true =>
    go_enter Tryd.func12, Tryd.ntmps12
    go_wp2_with fail
    refine HS.out.mono ?_
    rintro e w1 ⟨rfl, hb⟩
    go_wp2_with fail
    refine (clone_any P w1 (by omega)).mono ?_
    rintro e w2 ⟨rfl, hb2⟩
    go_wp2
    go_ret2
    exact ⟨rfl, hb.trans (hb2.mono hb.size)⟩
theorem specUnsealed_short (t : ByteArray) (w : World) (h : t.size < 4) :
    Calls Tryd.prog 18 #[.string t] w fun e w' => e = .returned (.tuple #[.string ⟨#[]⟩, .bool false]) ∧ Below w.heap.size w w' := by
  have b0 : decide ((t.size : Int) - 4 < 0) = true := by simp; omega
  go_enter Tryd.func18, Tryd.ntmps18
  go_wp2
  go_quiet (fail)
  go_wp2
  go_ret2
  exact ⟨rfl, below_drewN (Below.refl _ _) _⟩
theorem specUnsealed_long (t : ByteArray) (w : World) (n : Nat) (h : t.size = n + 4) (h1 : 20000 < n) (h2 : t.size ≤ 1048580) :
    Calls Tryd.prog 18 #[.string t] w fun e w' => e = .returned (.tuple #[.string ⟨#[]⟩, .bool false]) ∧ Below w.heap.size w w' := by
  have b0 : decide ((n : Int) < 0) = false := by simp
  have b1 : decide ((20000 : Int) < (n : Int)) = true := by simp; omega
  have hsz : (t.size : Int) - 4 = (n : Int) := by omega
  go_enter Tryd.func18, Tryd.ntmps18
  go_wp2
  go_quiet (fail)
  go_wp2
  go_ret2
  exact ⟨rfl, below_drewN (Below.refl _ _) _⟩
theorem specUnsealed_mid (t : ByteArray) (w : World) (n : Nat) (P : ByteArray) (b : Bool) (h : Seal4 t n P b) (h1 : n ≤ 20000) :
    Calls Tryd.prog 18 #[.string t] w fun e w' => e = .returned (.tuple (if b then #[.string P, .bool true] else #[.string ⟨#[]⟩, .bool false])) ∧ Below w.heap.size w w' := by
  obtain ⟨h, hP, -, hc⟩ := h
  have b0 : decide ((n : Int) < 0) = false := by simp
  have b1 : decide ((20000 : Int) < (n : Int)) = false := by simp; omega
  have hsz : (t.size : Int) - 4 = (n : Int) := by omega
  have hn0 : (0 : Int) ≤ (n : Int) := by omega
  have hn1 : (n : Int) ≤ (t.size : Int) := by omega
  have hn2 : (n : Int) ≤ (n : Int) + 4 := by omega
  have hp : (t.extract 0 n).size = n := by rw [ByteArray.size_extract]; omega
  rw [hP] at hp
  have hx := sumT_lt P.data.toList
  have HO := fun w => hide (specOf_any P w (by omega))
  obtain ⟨x, hxe⟩ : ∃ x, sumT P.data.toList = x := ⟨_, rfl⟩
  rw [hxe] at hx hc
  simp only [hxe] at HO
  clear hxe
  cases b with
  | false =>
    go_enter Tryd.func18, Tryd.ntmps18
    go_wp2
    go_region_held3 (fun _ => True) (trivial) (first | (go_at_call 16; refine (HO _).out.mono ?_; rintro e w1 ⟨rfl, rfl⟩) | (go_at_call 25; refine (four_any _ _ ?_).mono ?_; assumption; rintro e w1 ⟨rfl, hb⟩))
    all_goals go_wp2
    all_goals go_ret2
    all_goals exact ⟨rfl, of_drew hb⟩
  | true =>
    go_enter Tryd.func18, Tryd.ntmps18
    go_wp2
    go_region_held3 (fun _ => True) (trivial) (first | (go_at_call 16; refine (HO _).out.mono ?_; rintro e w1 ⟨rfl, rfl⟩) | (go_at_call 25; refine (four_any _ _ ?_).mono ?_; assumption; rintro e w1 ⟨rfl, hb⟩))
    all_goals go_wp2
    all_goals go_ret2
    all_goals exact ⟨rfl, of_drew hb⟩
end Go.Proofs.YtbgnpbapalngjaaDoor
