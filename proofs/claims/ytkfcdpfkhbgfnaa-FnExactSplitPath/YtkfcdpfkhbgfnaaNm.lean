/- spec.NameOk and impl.NameOk by their contracts, at this seat; l01In. -/
import Derived.Test.YtkfcdpfkhbgfnaaIn
import Derived.Deep.RegionWith
namespace Go.Proofs.Ytkfcdpfkhbgfnaa.Kit
open Go.RowKit
/-- A byte of a name. -/
def chN (c : Nat) : Bool := decide ((97 ≤ c ∧ c ≤ 122) ∨ (48 ≤ c ∧ c ≤ 57))
/-- A name is right. -/
def nameOk (s : ByteArray) : Bool := decide ((1 ≤ s.size ∧ s.size ≤ 6) ∧ ∀ (j : Nat) (h : j < s.size), chN (s[j]).toNat = true)
theorem nameOk_len {s : ByteArray} (h : s.size < 1 ∨ 6 < s.size) : false = nameOk s := by
  unfold nameOk
  exact (decide_eq_false (by omega)).symm
theorem nameOk_bad {s : ByteArray} {j c : Nat} (h : j < s.size) (hc : (s[j]).toNat = c) (hb : ¬ ((97 ≤ c ∧ c ≤ 122) ∨ (48 ≤ c ∧ c ≤ 57))) : false = nameOk s := by
  unfold nameOk
  refine (decide_eq_false ?_).symm
  rintro ⟨_, h2⟩
  have := h2 j h
  rw [hc] at this
  exact hb (of_decide_eq_true this)
theorem nameOk_all {s : ByteArray} (h : 1 ≤ s.size ∧ s.size ≤ 6) (ha : ∀ (j : Nat) (h : j < s.size), chN (s[j]).toNat = true) : true = nameOk s := by
  unfold nameOk
  exact (decide_eq_true ⟨h, ha⟩).symm
theorem nameOk_size {s : ByteArray} (h : nameOk s = true) : 1 ≤ s.size ∧ s.size ≤ 6 := (of_decide_eq_true h).1
/-- The first j bytes are a name's. -/
def upTo (s : ByteArray) (j : Nat) : Prop := ∀ (i : Nat) (h : i < s.size), i < j → chN (s[i]).toNat = true
theorem upTo_zero (s : ByteArray) : upTo s 0 := fun _ _ h => absurd h (Nat.not_lt_zero _)
theorem upTo_next {s : ByteArray} {j c : Nat} (hu : upTo s j) (h : j < s.size) (hc : (s[j]).toNat = c) (hg : (97 ≤ c ∧ c ≤ 122) ∨ (48 ≤ c ∧ c ≤ 57)) : upTo s (j + 1) := fun i hi hlt => by
  by_cases he : i = j
  · subst he; rw [hc]; exact decide_eq_true hg
  · exact hu i hi (by omega)
theorem upTo_all {s : ByteArray} {j : Nat} (hu : upTo s j) (h : s.size ≤ j) : ∀ (j : Nat) (h : j < s.size), chN (s[j]).toNat = true := fun i hi => hu i hi (by omega)
theorem emp_true {s : ByteArray} (h : s.size = 0) : s.toList.isEmpty = true := by
  rw [List.isEmpty_iff, ByteArray.toList_eq, ← List.length_eq_zero_iff]
  exact h
theorem emp_false {s : ByteArray} (h : 0 < s.size) : s.toList.isEmpty = false := by
  rw [List.isEmpty_eq_false_iff, ByteArray.toList_eq]
  intro e
  have h2 : s.data.toList.length = s.size := rfl
  rw [e, List.length_nil] at h2
  omega
theorem ret_bool {b c : Bool} (h : b = c) : Ending.returned (.bool b) = .returned (.bool c) := by rw [h]
end Go.Proofs.Ytkfcdpfkhbgfnaa.Kit
namespace Go.Proofs.Ytkfcdpfkhbgfnaa
open Go.RowKit Kit
def inB (x a b : Int) : Bool := decide (a ≤ x ∧ x ≤ b)
theorem inB_true {x a b : Int} (h : inB x a b = true) : a ≤ x ∧ x ≤ b := of_decide_eq_true h
theorem inB_false {x a b : Int} (h : inB x a b = false) : x < a ∨ b < x := by
  have := of_decide_eq_false h
  omega
theorem l01In_any (x a b : Int) (w : World) :
    Calls Try.prog 13 #[.int .i64 x, .int .i64 a, .int .i64 b] w fun e w' => e = .returned (.bool (inB x a b)) ∧ w' = w := by
  by_cases h0 : a ≤ x
  · by_cases h1 : x ≤ b
    · have hv : inB x a b = true := by simp [inB, h0, h1]
      have HV := hide hv
      clear hv
      go_enter Try.func13, Try.ntmps13
      go_wp2
      go_ret
      exact ⟨by rw [HV.out]; simp, rfl⟩
    · have hv : inB x a b = false := by simp [inB, h1]
      have HV := hide hv
      clear hv
      go_enter Try.func13, Try.ntmps13
      go_wp2
      go_ret
      exact ⟨by rw [HV.out]; simp, rfl⟩
  · have hv : inB x a b = false := by simp [inB, h0]
    have HV := hide hv
    clear hv
    go_enter Try.func13, Try.ntmps13
    go_wp2
    go_ret
    exact ⟨by rw [HV.out]; simp, rfl⟩

set_option maxRecDepth 100000 in
set_option maxHeartbeats 1600000 in
theorem specName_any (s : ByteArray) (w : World) (hs : s.size ≤ 1048576) :
    Calls Try.prog 9 #[.string s] w fun e w' => e = .returned (.bool (nameOk s)) ∧ Below w.heap.size w w' := by
  obtain ⟨r, hr⟩ : ∃ r, nameOk s = r := ⟨_, rfl⟩
  have HR := hide hr
  rw [hr]
  clear hr
  go_enter Try.func9, Try.ntmps9
  go_wp2
  go_loop [3] (fun i => ∃ j : Nat, j ≤ s.size ∧ i = .int .i64 j ∧ Hid (upTo s j)) (fun i => s.size - (intOf i).toNat)
  case atStart => exact ⟨0, Nat.zero_le _, rfl, upTo_zero s⟩
  case round =>
    obtain ⟨j, hj, rfl, HU⟩ := hrel
    by_cases hlt : j < s.size
    · obtain ⟨c, hc⟩ : ∃ c : Nat, (s[j]).toNat = c := ⟨_, rfl⟩
      have hc1 : c < 256 := by rw [← hc]; exact (s[j]).toNat_lt
      have HC := hide hc
      have j0 : (0 : Int) ≤ (j : Int) := by omega
      have j1 : (j : Int) < (s.size : Int) := by omega
      go_wp2
      all_goals first | (go_ret; refine ⟨ret_bool ?_, Below.refl _ _⟩; rw [← HR.out]; exact nameOk_bad hlt HC.out (by omega)) | skip
      all_goals go_round
      all_goals first | (simp [intOf]; omega) | exact ⟨j + 1, by omega, by go_num, upTo_next HU.out hlt HC.out (by omega)⟩
    · go_wp2_with (go_at_call 13; refine (l01In_any _ _ _ _).mono ?_; rintro e w1 ⟨rfl, rfl⟩)
      go_ret
      refine ⟨ret_bool ?_, Below.refl _ _⟩
      rw [← HR.out]
      by_cases h : 1 ≤ s.size ∧ s.size ≤ 6
      · rw [← nameOk_all h (upTo_all HU.out (by omega))]; simp [inB]; omega
      · rw [← nameOk_len (by omega)]; simp [inB]; omega

set_option maxRecDepth 100000 in
set_option maxHeartbeats 1600000 in
theorem implName_in (s : ByteArray) (w : World) (h0 : 1 ≤ s.size) (h6 : s.size ≤ 6) :
    Calls Try.prog 15 #[.string s] w fun e w' => e = .returned (.bool (nameOk s)) ∧ Below w.heap.size w w' := by
  obtain ⟨r, hr⟩ : ∃ r, nameOk s = r := ⟨_, rfl⟩
  have HR := hide hr
  rw [hr]
  clear hr
  have he := emp_false (s := s) (by omega)
  have h7 : decide (6 < (s.size : Int)) = false := by simp; omega
  have hbs := fun W => run_bytes_of_string (P := Try.prog) W 9 34 5 s Try.underlying9 Try.underlying34 Try.underlying5
  go_enter Try.func15, Try.ntmps15
  go_wp2
  go_loopw [4, 15] (fun _ i wr => ∃ j : Nat, j ≤ s.size ∧ i = .int .i64 j ∧ Hid (upTo s j) ∧ Below w.heap.size w wr ∧ Lies wr w.heap.size s) (fun _ i _ => s.size - (intOf i).toNat)
  case atStart => exact ⟨0, Nat.zero_le _, rfl, upTo_zero s, ((Below.refl _ w).alloc (Nat.le_refl _) _).drew, (lies_new w s _ _ _).of_heap rfl⟩
  case round =>
    obtain ⟨j, hj, rfl, HU, hb, hlies⟩ := hrel
    by_cases hlt : j < s.size
    · obtain ⟨c, hc⟩ : ∃ c : Nat, (s[j]).toNat = c := ⟨_, rfl⟩
      have hc1 : c < 256 := by rw [← hc]; exact (s[j]).toNat_lt
      have HC := hide hc
      have hcell := hlies.cell j hlt
      rw [hc] at hcell
      clear hc
      have HL := hide hlies
      have HB := hide hb
      clear hlies hb
      have j0 : (0 : Int) ≤ (j : Int) := by omega
      have j1 : (j : Int) < (s.size : Int) := by omega
      go_wp2
      all_goals first | (go_ret; refine ⟨ret_bool ?_, HB.out⟩; rw [← HR.out]; exact nameOk_bad hlt HC.out (by omega)) | skip
      all_goals go_roundw
      all_goals first | (simp [intOf]; omega) | exact ⟨j + 1, by omega, by go_num, upTo_next HU.out hlt HC.out (by omega), HB.out, HL.out⟩
    · have HB := hide hb
      clear hlies hb
      go_wp2
      go_ret
      refine ⟨ret_bool ?_, HB.out⟩
      rw [← HR.out]
      exact nameOk_all ⟨h0, h6⟩ (upTo_all HU.out (by omega))
theorem implName_out (s : ByteArray) (w : World) (h : s.size < 1 ∨ 6 < s.size) :
    Calls Try.prog 15 #[.string s] w fun e w' => e = .returned (.bool (nameOk s)) ∧ Below w.heap.size w w' := by
  rw [← nameOk_len h]
  by_cases h0 : s.size < 1
  · have he := emp_true (s := s) (by omega)
    go_enter Try.func15, Try.ntmps15
    go_wp2
    go_ret
    exact ⟨rfl, Below.refl _ _⟩
  · have he := emp_false (s := s) (by omega)
    have h6 : 6 < s.size := by omega
    go_enter Try.func15, Try.ntmps15
    go_wp2
    go_ret
    exact ⟨rfl, Below.refl _ _⟩
theorem implName_any (s : ByteArray) (w : World) :
    Calls Try.prog 15 #[.string s] w fun e w' => e = .returned (.bool (nameOk s)) ∧ Below w.heap.size w w' := by
  by_cases h : 1 ≤ s.size ∧ s.size ≤ 6
  · exact implName_in s w h.1 h.2
  · exact implName_out s w (by omega)
end Go.Proofs.Ytkfcdpfkhbgfnaa
