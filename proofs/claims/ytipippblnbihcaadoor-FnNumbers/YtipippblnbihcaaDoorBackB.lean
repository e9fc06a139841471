/- The walk of laws.FnNumbers: it returns true at every code. -/
import Derived.Test.YtipippblnbihcaaDoorWordsB
import Derived.Test.YtipippblnbihcaaDoorBack
namespace Go.Proofs.YtipippblnbihcaaDoor
open Go.RowKit Kit

theorem headOf_list (n : Nat) : (headOf n).data.toList = vb n := by simp [headOf]
theorem app_list (a b : ByteArray) : (a ++ b).data.toList = a.data.toList ++ b.data.toList := by simp
theorem vb_size (n : Nat) : (vb n).length = (headOf n).size := by simp [headOf, ByteArray.size]
theorem rd_xy (n : Nat) (h : n ≤ 1000000000) (S : ByteArray) (hS : S = ⟨#[120]⟩ ++ headOf n ++ ⟨#[121]⟩) : rdVal S 1 = .tuple #[.int .i64 n, .int .i64 (((headOf n).size : Int) + 1), .bool true] := by
  have e : S.data.toList.drop 1 = vb n ++ [121] := by
    rw [hS, app_list, app_list, headOf_list]
    rfl
  rw [rdVal_some (rd_back S 1 n [121] h e), vb_size]
  rw [show ((1 + (headOf n).size : Nat) : Int) = ((headOf n).size : Int) + 1 by omega]
theorem rs_back (t : ByteArray) (h : t.size ≤ 20000) (S : ByteArray) (hS : S = headOf t.size ++ t) : rsVal S 0 = .tuple #[.string t, .int .i64 (S.size : Int), .bool true] := by
  have e : S.data.toList.drop 0 = vb t.size ++ t.data.toList := by rw [List.drop_zero, hS, app_list, headOf_list]
  have hsz : S.size = (headOf t.size).size + t.size := by rw [hS, ByteArray.size_append]
  rw [rsVal_good (rd_back S 0 t.size _ (by omega) e) (by rw [vb_size]; omega), vb_size]
  have e2 : S.extract (0 + (headOf t.size).size) (0 + (headOf t.size).size + t.size) = t := by
    apply Go.WideShapes.bytes_inj
    rw [extract_toList, show 0 + (headOf t.size).size + t.size - (0 + (headOf t.size).size) = t.size by omega, Nat.zero_add, hS, app_list]
    have hl : (headOf t.size).data.toList.length = (headOf t.size).size := by simp
    have hl2 : t.data.toList.length = t.size := by simp
    rw [← hl, List.drop_left, ← hl2, List.take_length]
  rw [e2, show ((0 + (headOf t.size).size + t.size : Nat) : Int) = (S.size : Int) by omega]
theorem uh_back (t : ByteArray) (S : ByteArray) (hS : S = ⟨(hexL t.data.toList).toArray⟩) : uhVal S = .tuple #[.string t, .bool true] := by
  have e : uh S = some t.data.toList := by unfold uh; rw [hS]; exact uhF_back _
  rw [uhVal_some e]
theorem itoa_size (n : Nat) (h : n ≤ 1000000000) : (accB (Lib.itoa n)).size ≤ 10 := by
  have hr := rdd_back n h
  apply Nat.le_of_not_lt
  intro hlt
  have := rdd_long (s := accB (Lib.itoa n)) (r := some n) (by simpa [accB] using hr) hlt
  cases this

namespace fnNumbers
def xB : ByteArray := ⟨#[120]⟩
def yB : ByteArray := ⟨#[121]⟩
theorem gTab : Tryd.prog.globalNamed "internal/strconv.uint64pow10" = some 0 := by kernel_rfl

/-- What is left of the law behind the two draws, as a plain sequence of contracts. -/
structure Steps (n : Nat) (t : ByteArray) : Prop where
  var : ∀ w, Calls Tryd.prog 6 #[.int .i64 n] w fun e w' => e = .returned (.tuple #[.string (headOf n), .bool true]) ∧ Below w.heap.size w w'
  read : ∀ w, Calls Tryd.prog 7 #[.string (xB ++ headOf n ++ yB), .int .i64 1] w fun e w' => e = .returned (.tuple #[.int .i64 n, .int .i64 (((headOf n).size : Int) + 1), .bool true]) ∧ w = w'
  dec : ∀ w, 0 < w.heap.size → Lib.TabIs Tryd.prog w "internal/strconv.uint64pow10" .u64 Lib.pow10Tab → Calls Tryd.prog 9 #[.int .i64 n] w fun e w' => e = .returned (.string (accB (Lib.itoa n))) ∧ Below w.heap.size w w'
  rdec : ∀ w, Calls Tryd.prog 8 #[.string (accB (Lib.itoa n))] w fun e w' => e = .returned (.tuple #[.int .i64 n, .bool true]) ∧ Below w.heap.size w w'
theorem steps (n : Nat) (h : n ≤ 1000000000) (t : ByteArray) : Steps n t where
  var w := implVar_head n w (by omega) (by omega)
  read w := by
    have hz := headOf_size n
    have hs : (⟨#[120]⟩ ++ headOf n ++ ⟨#[121]⟩ : ByteArray).size = (headOf n).size + 2 := by rw [ByteArray.size_append, ByteArray.size_append]; show 1 + _ + 1 = _; omega
    have := implRead_in (⟨#[120]⟩ ++ headOf n ++ ⟨#[121]⟩) 1 w (by omega) (by omega)
    rw [rd_xy n h _ rfl] at this
    exact this.mono fun e w' ⟨h1, h2⟩ => ⟨h1, h2.symm⟩
  dec w _ ht := implDecimal_any n w (by omega) (by omega) ht
  rdec w := implRD_any (accB (Lib.itoa n)) w (some n) (by simpa [accB] using rdd_back n h) (by have := itoa_size n h; omega)
structure StepsB (t : ByteArray) : Prop where
  short : ∀ w, Calls Tryd.prog 11 #[.string t] w fun e w' => e = .returned (.tuple #[.string (headOf t.size ++ t), .bool true]) ∧ Below w.heap.size w w'
  rshort : ∀ w, Calls Tryd.prog 12 #[.string (headOf t.size ++ t), .int .i64 0] w fun e w' => e = .returned (.tuple #[.string t, .int .i64 ((headOf t.size ++ t).size : Int), .bool true]) ∧ Below w.heap.size w w'
  hex : ∀ w, Calls Tryd.prog 13 #[.string t] w fun e w' => e = .returned (.tuple #[.string (accB (hexL t.data.toList)), .bool true]) ∧ Below w.heap.size w w'
  unhex : ∀ w, Calls Tryd.prog 14 #[.string (accB (hexL t.data.toList))] w fun e w' => e = .returned (.tuple #[.string t, .bool true]) ∧ Below w.heap.size w w'
theorem stepsB (t : ByteArray) (h : t.size ≤ 300) : StepsB t where
  short w := implShort_yes t w (by omega)
  rshort w := by
    have hz := headOf_size t.size
    have hs : (headOf t.size ++ t).size = (headOf t.size).size + t.size := ByteArray.size_append
    have := implRS_in (headOf t.size ++ t) 0 w (by omega) (by omega)
    rw [rs_back t (by omega) _ rfl] at this
    exact this
  hex w := implHex_yes t w (by omega)
  unhex w := by
    have hl := hexL_length t.data.toList
    have hl2 : t.data.toList.length = t.size := by simp
    have hs := accB_size (hexL t.data.toList)
    have := implUnhex_in (accB (hexL t.data.toList)) w (by omega) (by omega)
    rw [uh_back t (accB (hexL t.data.toList)) rfl] at this
    exact this
end fnNumbers
end Go.Proofs.YtipippblnbihcaaDoor
