
/- impl.placeOf, impl.SlotOf and spec.SlotOf by their contracts. -/
import Derived.Test.YtajollmmpdkhbaaCom
import Derived.Test.YtajollmmpdkhbaaKSl
import Derived.Test.YtajollmmpdkhbaaKName
namespace Go.Proofs.Ytajollmmpdkhbaa.Kit
open Go.RowKit
/-- The place of a name, from k on. -/
def plF (name : ByteArray) : Nat → List Sl → Int
  | _, [] => -1
  | k, s :: r => if s.1 = name then (k : Int) else plF name (k + 1) r
/-- The place of a name. -/
def placeR (xs : List Sl) (name : ByteArray) : Int := if name.size = 0 then -1 else plF name 0 xs
theorem placeR_empty (xs : List Sl) {name : ByteArray} (h : name.size = 0) : placeR xs name = -1 := if_pos h
theorem placeR_start (xs : List Sl) {name : ByteArray} (h : name.size ≠ 0) : placeR xs name = plF name 0 (xs.drop 0) := if_neg h
theorem pl_hit {R : Int} {xs : List Sl} {name : ByteArray} {j : Nat} (h : j < xs.length) (hp : R = plF name j (xs.drop j)) (hq : xs[j].1 = name) : R = (j : Int) := by
  rw [hp, List.drop_eq_getElem_cons h, plF, if_pos hq]
theorem pl_next {R : Int} {xs : List Sl} {name : ByteArray} {j : Nat} (h : j < xs.length) (hp : R = plF name j (xs.drop j)) (hq : ¬ xs[j].1 = name) : R = plF name (j + 1) (xs.drop (j + 1)) := by
  rw [hp, List.drop_eq_getElem_cons h, plF, if_neg hq]
theorem pl_end {R : Int} {xs : List Sl} {name : ByteArray} {j : Nat} (h : xs.length ≤ j) (hp : R = plF name j (xs.drop j)) : R = -1 := by
  rw [hp, List.drop_of_length_le h, plF]
theorem beq_true {a b : ByteArray} (h : a = b) : (a.toList == b.toList) = true := by rw [h]; simp
theorem beq_false {a b : ByteArray} (h : ¬ a = b) : (a.toList == b.toList) = false := by
  rw [beq_eq_false_iff_ne, ByteArray.toList_eq, ByteArray.toList_eq]
  intro e
  exact h (ByteArray.ext (Array.toList_inj.1 e))
theorem ret_int {a b : Int} (h : a = b) : Ending.returned (.int .i64 a) = .returned (.int .i64 b) := by rw [h]
end Go.Proofs.Ytajollmmpdkhbaa.Kit
namespace Go.Proofs.Ytajollmmpdkhbaa
open Go.RowKit Kit
set_option maxRecDepth 100000 in
set_option maxHeartbeats 1600000 in
theorem placeOf_some (v : Value) (xs : List Sl) (name : ByteArray) (w : World) (hv : RSl w v xs) (hl : xs.length ≤ 1048576) (hn : name.size ≠ 0) :
    Calls Try.prog 106 #[v, .string name] w fun e w' => e = .returned (.int .i64 (placeR xs name)) ∧ Below w.heap.size w w' := by
  obtain ⟨a, c, rfl, -, hc⟩ := hv
  have HC := hide hc
  clear hc
  have HR := hide (placeR_start xs hn)
  obtain ⟨R, hR⟩ : ∃ R, placeR xs name = R := ⟨_, rfl⟩
  rw [hR] at HR ⊢
  clear hR
  have he := emp_false (s := name) (by omega)
  go_enter Try.func106, Try.ntmps106
  go_wp2
  go_loopw [5, 6, 11] (fun _ _ i wr => ∃ j : Nat, j ≤ xs.length ∧ i = .int .i64 j ∧ Hid (R = plF name j (xs.drop j)) ∧ Below w.heap.size w wr) (fun _ _ i _ => xs.length - (intOf i).toNat)
  case atStart => exact ⟨0, Nat.zero_le _, rfl, HR, Below.refl _ _⟩
  case round =>
    obtain ⟨j, hj, rfl, HP, hb⟩ := hrel
    by_cases hlt : j < xs.length
    · obtain ⟨g, off, rfl, hg, k1, k2⟩ := HC.out j hlt
      have q1 := (hb.cell (p := ⟨g, off + j * 2, none⟩) hg).trans k1
      have q2 := (hb.cell (p := ⟨g, off + j * 2 + 1, none⟩) hg).trans k2
      have hsz := hb.size
      have j0 : (0 : Int) ≤ (j : Int) := by omega
      have j1 : (j : Int) < (xs.length : Int) := by omega
      obtain ⟨t, ht⟩ : ∃ t, xs[j].1 = t := ⟨_, rfl⟩
      obtain ⟨z, hz⟩ : ∃ z, xs[j].2 = z := ⟨_, rfl⟩
      rw [ht] at q1
      rw [hz] at q2
      have HT := hide ht
      have HB := hide hb
      clear k1 k2 ht hz hb
      by_cases hq : t = name
      · have b1 := beq_true hq
        have HH := hide (pl_hit hlt HP.out (HT.out.trans hq))
        clear hq
        go_wp2
        go_ret
        exact ⟨ret_int HH.out.symm, HB.out.alloc hsz _⟩
      · have b1 := beq_false hq
        have HH := hide (pl_next hlt HP.out (by rw [HT.out]; exact hq))
        go_wp2
        go_roundw
        case rel => exact ⟨j + 1, by omega, by go_num, HH, HB.out.alloc hsz _⟩
        case measure => simp [intOf]; omega
    · have HH := hide (pl_end (by omega) HP.out)
      have HB := hide hb
      clear hb
      go_wp2
      go_ret
      exact ⟨ret_int HH.out.symm, HB.out⟩

theorem placeOf_none (v : Value) (xs : List Sl) (name : ByteArray) (w : World) (hv : RSl w v xs) (hn : name.size = 0) :
    Calls Try.prog 106 #[v, .string name] w fun e w' => e = .returned (.int .i64 (placeR xs name)) ∧ Below w.heap.size w w' := by
  obtain ⟨a, c, rfl, -⟩ := hv
  rw [placeR_empty xs hn]
  have he := emp_true (s := name) hn
  go_enter Try.func106, Try.ntmps106
  go_wp2
  go_ret
  exact ⟨rfl, Below.refl _ _⟩
theorem placeOf_any (v : Value) (xs : List Sl) (name : ByteArray) (w : World) (hv : RSl w v xs) (hl : xs.length ≤ 1048576) :
    Calls Try.prog 106 #[v, .string name] w fun e w' => e = .returned (.int .i64 (placeR xs name)) ∧ Below w.heap.size w w' := by
  by_cases hn : name.size = 0
  · exact placeOf_none v xs name w hv hn
  · exact placeOf_some v xs name w hv hl hn
end Go.Proofs.Ytajollmmpdkhbaa
