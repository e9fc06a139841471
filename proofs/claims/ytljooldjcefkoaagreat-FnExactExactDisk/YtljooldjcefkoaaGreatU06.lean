/- Texts of the proof, bundled: IArg, KName, KPlace, KRight, KOkI, KOk, KOkS, Okd, Tm. -/
import Derived.Deep.RegionHeld3
import Derived.Deep.QuietTactic
import Derived.BigQuiet
import Derived.Test.YtljooldjcefkoaaGreatU01
import Derived.Test.YtljooldjcefkoaaGreatU05
import Derived.Test.YtljooldjcefkoaaGreatU03
import Derived.Test.YtljooldjcefkoaaGreatU04
/- An inode that came in: where it lies, and spec's and impl's InodeOk and InodeText at every list of pointers. -/
namespace Go.Proofs.YtljooldjcefkoaaGreat.Kit
open Go.RowKit
/-- A variable of a type like an inode's lies in block b. -/
def AtT (T : TypeId) (w : World) (b : Nat) (k l : Int) (v : Value) : Prop := w.heap[b]? = some (.cells #[.int .i64 k, .int .i64 l, v] T (0, 0))
theorem AtT.lt {T : TypeId} {w : World} {b : Nat} {k l : Int} {v : Value} (h : AtT T w b k l v) : b < w.heap.size := (Array.getElem?_eq_some_iff.1 h).1
theorem AtT.new (T : TypeId) (w : World) (k l : Int) (v : Value) : AtT T (w.alloc (.cells #[.int .i64 k, .int .i64 l, v] T)) w.heap.size k l v := heap_new w _
theorem AtT.alloc {T : TypeId} {w : World} {b : Nat} {k l : Int} {v : Value} (h : AtT T w b k l v) (o : Obj) : AtT T (w.alloc o) b k l v := (Below.heap_alloc _ _ _ h.lt).trans h
theorem AtT.below {T : TypeId} {w w' : World} {b B : Nat} {k l : Int} {v : Value} (h : AtT T w b k l v) (hb : Below B w w') (hB : b < B) : AtT T w' b k l v := (hb.block b hB).trans h
theorem AtT.grown {T : TypeId} {w w' : World} {b : Nat} {k l : Int} {v : Value} {row : Option Nat} (h : AtT T w b k l v) (hg : w.grownBy w' row) (hr : row ≠ some b) : AtT T w' b k l v := (hg.block b h.lt (fun e => hr e.symm)).trans h
theorem AtT.cells {T : TypeId} {w : World} {b : Nat} {k l : Int} {v : Value} (h : AtT T w b k l v) :
    w.cell? ⟨b, 0, none⟩ = some (.int .i64 k) ∧ w.cell? ⟨b, 1, none⟩ = some (.int .i64 l) ∧ w.cell? ⟨b, 2, none⟩ = some v := by
  have h' : w.heap[b]? = some (.cells #[.int .i64 k, .int .i64 l, v] T (0, 0)) := h
  exact ⟨by simp [World.cell?, h'], by simp [World.cell?, h'], by simp [World.cell?, h']⟩
theorem RInts.drew {w : World} {v : Value} {xs : List Int} (h : RInts w v xs) : RInts w.drew v xs := h.below (Below.refl w.heap.size w).drew (Nat.le_refl _)
end Go.Proofs.YtljooldjcefkoaaGreat.Kit
namespace Go.Proofs.YtljooldjcefkoaaGreat
open Go.RowKit Kit
/-- An inode is right. -/
def okL (k l : Int) : List Int → Bool
  | [p, q] => okR k l p q
  | _ => false
theorem okL_other (k l : Int) (xs : List Int) (h : xs.length ≠ 2) : okL k l xs = false := by
  match xs, h with
  | [], _ => rfl
  | [_], _ => rfl
  | [_, _], h => exact absurd rfl h
  | _ :: _ :: _ :: _, _ => rfl
theorem two_or (xs : List Int) : (∃ p q, xs = [p, q]) ∨ xs.length ≠ 2 := by
  match xs with
  | [] => right; simp
  | [_] => right; simp
  | [p, q] => left; exact ⟨p, q, rfl⟩
  | _ :: _ :: _ :: _ => right; simp
theorem specOk_anyI (k l : Int) (xs : List Int) (v : Value) (w : World) (hv : RInts w v xs) :
    Calls Tryz.prog 48 #[.agg #[.int .i64 k, .int .i64 l, v]] w fun e w' => e = .returned (.bool (okL k l xs)) ∧ Below w.heap.size w w' := by
  rcases two_or xs with ⟨p, q, rfl⟩ | h
  · exact specOk_two k l p q v w hv
  · rw [okL_other k l xs h]; exact specOk_other k l xs v w hv h
theorem implOk_anyI (k l : Int) (xs : List Int) (v : Value) (w : World) (hv : RInts w v xs) :
    Calls Tryz.prog 85 #[.agg #[.int .i64 k, .int .i64 l, v]] w fun e w' => e = .returned (.bool (okL k l xs)) ∧ Below w.heap.size w w' := by
  rcases two_or xs with ⟨p, q, rfl⟩ | h
  · exact implOk_two k l p q v w hv
  · rw [okL_other k l xs h]; exact implOk_other k l xs v w hv h
/-- The bytes of an inode, nothing where it is not right. -/
def textL (k l : Int) (xs : List Int) : ByteArray := if okL k l xs then quadB k.toNat l.toNat (xs.getD 0 0).toNat (xs.getD 1 0).toNat else ⟨#[]⟩
theorem okR_bounds {k l p q : Int} (h : okR k l p q = true) : (0 ≤ k ∧ k ≤ 2) ∧ (0 ≤ l ∧ l ≤ 200) ∧ (0 ≤ p ∧ p ≤ 16) ∧ (0 ≤ q ∧ q ≤ 16) := by
  have h' := of_decide_eq_true h
  omega
end Go.Proofs.YtljooldjcefkoaaGreat
/- spec.NameOk and impl.NameOk by their contracts, and the walk of laws.FnExactNameOk. -/
namespace Go.Proofs.YtljooldjcefkoaaGreat.Kit
open Go.RowKit
/-- A byte of a name. -/
def chN (c : Nat) : Bool := decide ((97 ≤ c ∧ c ≤ 122) ∨ (48 ≤ c ∧ c ≤ 57))
/-- A name is right. -/
def nameOk (s : ByteArray) : Bool := decide ((1 ≤ s.size ∧ s.size ≤ 6) ∧ ∀ (j : Nat) (h : j < s.size), chN (s[j]).toNat = true)
theorem nameOk_len {s : ByteArray} (h : s.size < 1 ∨ 6 < s.size) : false = nameOk s := by
  unfold nameOk
  exact (decide_eq_false (by omega)).symm
theorem nameOk_bad {s : ByteArray} {j c : Nat} (h : j < s.size) (hc : (s[j]).toNat = c) (hb : ¬ ((97 ≤ c ∧ c ≤ 122) ∨ (48 ≤ c ∧ c ≤ 57))) : false = nameOk s := by
  unfold nameOk
  refine (decide_eq_false ?_).symm
  rintro ⟨_, h2⟩
  have := h2 j h
  rw [hc] at this
  exact hb (of_decide_eq_true this)
theorem nameOk_all {s : ByteArray} (h : 1 ≤ s.size ∧ s.size ≤ 6) (ha : ∀ (j : Nat) (h : j < s.size), chN (s[j]).toNat = true) : true = nameOk s := by
  unfold nameOk
  exact (decide_eq_true ⟨h, ha⟩).symm
theorem nameOk_size {s : ByteArray} (h : nameOk s = true) : 1 ≤ s.size ∧ s.size ≤ 6 := (of_decide_eq_true h).1
/-- The first j bytes are a name's. -/
def upTo (s : ByteArray) (j : Nat) : Prop := ∀ (i : Nat) (h : i < s.size), i < j → chN (s[i]).toNat = true
theorem upTo_zero (s : ByteArray) : upTo s 0 := fun _ _ h => absurd h (Nat.not_lt_zero _)
theorem upTo_next {s : ByteArray} {j c : Nat} (hu : upTo s j) (h : j < s.size) (hc : (s[j]).toNat = c) (hg : (97 ≤ c ∧ c ≤ 122) ∨ (48 ≤ c ∧ c ≤ 57)) : upTo s (j + 1) := fun i hi hlt => by
  by_cases he : i = j
  · subst he; rw [hc]; exact decide_eq_true hg
  · exact hu i hi (by omega)
theorem upTo_all {s : ByteArray} {j : Nat} (hu : upTo s j) (h : s.size ≤ j) : ∀ (j : Nat) (h : j < s.size), chN (s[j]).toNat = true := fun i hi => hu i hi (by omega)
theorem emp_true {s : ByteArray} (h : s.size = 0) : s.toList.isEmpty = true := by
  rw [List.isEmpty_iff, ByteArray.toList_eq, ← List.length_eq_zero_iff]
  exact h
theorem emp_false {s : ByteArray} (h : 0 < s.size) : s.toList.isEmpty = false := by
  rw [List.isEmpty_eq_false_iff, ByteArray.toList_eq]
  intro e
  have h2 : s.data.toList.length = s.size := rfl
  rw [e, List.length_nil] at h2
  omega
end Go.Proofs.YtljooldjcefkoaaGreat.Kit
namespace Go.Proofs.YtljooldjcefkoaaGreat
open Go.RowKit Kit
set_option maxRecDepth 100000 in
set_option maxHeartbeats 1600000 in
theorem specName_any (s : ByteArray) (w : World) (hs : s.size ≤ 1048576) :
    Calls Tryz.prog 82 #[.string s] w fun e w' => e = .returned (.bool (nameOk s)) ∧ Below w.heap.size w w' := by
  obtain ⟨r, hr⟩ : ∃ r, nameOk s = r := ⟨_, rfl⟩
  have HR := hide hr
  rw [hr]
  clear hr
  go_enter Tryz.func82, Tryz.ntmps82
  go_wp2
  go_loop [3] (fun i => ∃ j : Nat, j ≤ s.size ∧ i = .int .i64 j ∧ Hid (upTo s j)) (fun i => s.size - (intOf i).toNat)
  case atStart => exact ⟨0, Nat.zero_le _, rfl, upTo_zero s⟩
  case round =>
    obtain ⟨j, hj, rfl, HU⟩ := hrel
    by_cases hlt : j < s.size
    · obtain ⟨c, hc⟩ : ∃ c : Nat, (s[j]).toNat = c := ⟨_, rfl⟩
      have hc1 : c < 256 := by rw [← hc]; exact (s[j]).toNat_lt
      have HC := hide hc
      have j0 : (0 : Int) ≤ (j : Int) := by omega
      have j1 : (j : Int) < (s.size : Int) := by omega
      go_wp2
      all_goals first | (go_ret; refine ⟨ret_bool ?_, Below.refl _ _⟩; rw [← HR.out]; exact nameOk_bad hlt HC.out (by omega)) | skip
      all_goals go_round
      all_goals first | (simp [intOf]; omega) | exact ⟨j + 1, by omega, by go_num, upTo_next HU.out hlt HC.out (by omega)⟩
    · go_wp2_with (go_at_call 51; refine (l01In_any _ _ _ _).mono ?_; rintro e w1 ⟨rfl, rfl⟩)
      go_ret
      refine ⟨ret_bool ?_, Below.refl _ _⟩
      rw [← HR.out]
      by_cases h : 1 ≤ s.size ∧ s.size ≤ 6
      · rw [← nameOk_all h (upTo_all HU.out (by omega))]; simp [inB]; omega
      · rw [← nameOk_len (by omega)]; simp [inB]; omega

set_option maxRecDepth 100000 in
set_option maxHeartbeats 1600000 in
theorem implName_in (s : ByteArray) (w : World) (h0 : 1 ≤ s.size) (h6 : s.size ≤ 6) :
    Calls Tryz.prog 120 #[.string s] w fun e w' => e = .returned (.bool (nameOk s)) ∧ Below w.heap.size w w' := by
  obtain ⟨r, hr⟩ : ∃ r, nameOk s = r := ⟨_, rfl⟩
  have HR := hide hr
  rw [hr]
  clear hr
  have he := emp_false (s := s) (by omega)
  have h7 : decide (6 < (s.size : Int)) = false := by simp; omega
  have hbs := fun W => run_bytes_of_string (P := Tryz.prog) W 9 148 5 s Tryz.underlying9 Tryz.underlying148 Tryz.underlying5
  go_enter Tryz.func120, Tryz.ntmps120
  go_wp2
  go_loopw [4, 15] (fun _ i wr => ∃ j : Nat, j ≤ s.size ∧ i = .int .i64 j ∧ Hid (upTo s j) ∧ Below w.heap.size w wr ∧ Lies wr w.heap.size s) (fun _ i _ => s.size - (intOf i).toNat)
  case atStart => exact ⟨0, Nat.zero_le _, rfl, upTo_zero s, ((Below.refl _ w).alloc (Nat.le_refl _) _).drew, (lies_new w s _ _ _).of_heap rfl⟩
  case round =>
    obtain ⟨j, hj, rfl, HU, hb, hlies⟩ := hrel
    by_cases hlt : j < s.size
    · obtain ⟨c, hc⟩ : ∃ c : Nat, (s[j]).toNat = c := ⟨_, rfl⟩
      have hc1 : c < 256 := by rw [← hc]; exact (s[j]).toNat_lt
      have HC := hide hc
      have hcell := hlies.cell j hlt
      rw [hc] at hcell
      clear hc
      have HL := hide hlies
      have HB := hide hb
      clear hlies hb
      have j0 : (0 : Int) ≤ (j : Int) := by omega
      have j1 : (j : Int) < (s.size : Int) := by omega
      go_wp2
      all_goals first | (go_ret; refine ⟨ret_bool ?_, HB.out⟩; rw [← HR.out]; exact nameOk_bad hlt HC.out (by omega)) | skip
      all_goals go_roundw
      all_goals first | (simp [intOf]; omega) | exact ⟨j + 1, by omega, by go_num, upTo_next HU.out hlt HC.out (by omega), HB.out, HL.out⟩
    · have HB := hide hb
      clear hlies hb
      go_wp2
      go_ret
      refine ⟨ret_bool ?_, HB.out⟩
      rw [← HR.out]
      exact nameOk_all ⟨h0, h6⟩ (upTo_all HU.out (by omega))
theorem implName_out (s : ByteArray) (w : World) (h : s.size < 1 ∨ 6 < s.size) :
    Calls Tryz.prog 120 #[.string s] w fun e w' => e = .returned (.bool (nameOk s)) ∧ Below w.heap.size w w' := by
  rw [← nameOk_len h]
  by_cases h0 : s.size < 1
  · have he := emp_true (s := s) (by omega)
    go_enter Tryz.func120, Tryz.ntmps120
    go_wp2
    go_ret
    exact ⟨rfl, Below.refl _ _⟩
  · have he := emp_false (s := s) (by omega)
    have h6 : 6 < s.size := by omega
    go_enter Tryz.func120, Tryz.ntmps120
    go_wp2
    go_ret
    exact ⟨rfl, Below.refl _ _⟩
theorem implName_any (s : ByteArray) (w : World) :
    Calls Tryz.prog 120 #[.string s] w fun e w' => e = .returned (.bool (nameOk s)) ∧ Below w.heap.size w w' := by
  by_cases h : 1 ≤ s.size ∧ s.size ≤ 6
  · exact implName_in s w h.1 h.2
  · exact implName_out s w (by omega)
namespace fnExactNameOk
end fnExactNameOk
end Go.Proofs.YtljooldjcefkoaaGreat
/- impl.placeOf, impl.SlotOf and spec.SlotOf by their contracts. -/
namespace Go.Proofs.YtljooldjcefkoaaGreat.Kit
open Go.RowKit
/-- The place of a name, from k on. -/
def plF (name : ByteArray) : Nat → List Sl → Int
  | _, [] => -1
  | k, s :: r => if s.1 = name then (k : Int) else plF name (k + 1) r
/-- The place of a name. -/
def placeR (xs : List Sl) (name : ByteArray) : Int := if name.size = 0 then -1 else plF name 0 xs
theorem placeR_empty (xs : List Sl) {name : ByteArray} (h : name.size = 0) : placeR xs name = -1 := if_pos h
theorem placeR_start (xs : List Sl) {name : ByteArray} (h : name.size ≠ 0) : placeR xs name = plF name 0 (xs.drop 0) := if_neg h
theorem pl_hit {R : Int} {xs : List Sl} {name : ByteArray} {j : Nat} (h : j < xs.length) (hp : R = plF name j (xs.drop j)) (hq : xs[j].1 = name) : R = (j : Int) := by
  rw [hp, List.drop_eq_getElem_cons h, plF, if_pos hq]
theorem pl_next {R : Int} {xs : List Sl} {name : ByteArray} {j : Nat} (h : j < xs.length) (hp : R = plF name j (xs.drop j)) (hq : ¬ xs[j].1 = name) : R = plF name (j + 1) (xs.drop (j + 1)) := by
  rw [hp, List.drop_eq_getElem_cons h, plF, if_neg hq]
theorem pl_end {R : Int} {xs : List Sl} {name : ByteArray} {j : Nat} (h : xs.length ≤ j) (hp : R = plF name j (xs.drop j)) : R = -1 := by
  rw [hp, List.drop_of_length_le h, plF]
theorem beq_true {a b : ByteArray} (h : a = b) : (a.toList == b.toList) = true := by rw [h]; simp
theorem beq_false {a b : ByteArray} (h : ¬ a = b) : (a.toList == b.toList) = false := by
  rw [beq_eq_false_iff_ne, ByteArray.toList_eq, ByteArray.toList_eq]
  intro e
  exact h (ByteArray.ext (Array.toList_inj.1 e))
theorem ret_int {a b : Int} (h : a = b) : Ending.returned (.int .i64 a) = .returned (.int .i64 b) := by rw [h]
end Go.Proofs.YtljooldjcefkoaaGreat.Kit
namespace Go.Proofs.YtljooldjcefkoaaGreat
open Go.RowKit Kit
set_option maxRecDepth 100000 in
set_option maxHeartbeats 1600000 in
theorem placeOf_some (v : Value) (xs : List Sl) (name : ByteArray) (w : World) (hv : RSl w v xs) (hl : xs.length ≤ 1048576) (hn : name.size ≠ 0) :
    Calls Tryz.prog 108 #[v, .string name] w fun e w' => e = .returned (.int .i64 (placeR xs name)) ∧ Below w.heap.size w w' := by
  obtain ⟨a, c, rfl, -, hc⟩ := hv
  have HC := hide hc
  clear hc
  have HR := hide (placeR_start xs hn)
  obtain ⟨R, hR⟩ : ∃ R, placeR xs name = R := ⟨_, rfl⟩
  rw [hR] at HR ⊢
  clear hR
  have he := emp_false (s := name) (by omega)
  go_enter Tryz.func108, Tryz.ntmps108
  go_wp2
  go_loopw [5, 6, 11] (fun _ _ i wr => ∃ j : Nat, j ≤ xs.length ∧ i = .int .i64 j ∧ Hid (R = plF name j (xs.drop j)) ∧ Below w.heap.size w wr) (fun _ _ i _ => xs.length - (intOf i).toNat)
  case atStart => exact ⟨0, Nat.zero_le _, rfl, HR, Below.refl _ _⟩
  case round =>
    obtain ⟨j, hj, rfl, HP, hb⟩ := hrel
    by_cases hlt : j < xs.length
    · obtain ⟨g, off, rfl, hg, k1, k2⟩ := HC.out j hlt
      have q1 := (hb.cell (p := ⟨g, off + j * 2, none⟩) hg).trans k1
      have q2 := (hb.cell (p := ⟨g, off + j * 2 + 1, none⟩) hg).trans k2
      have hsz := hb.size
      have j0 : (0 : Int) ≤ (j : Int) := by omega
      have j1 : (j : Int) < (xs.length : Int) := by omega
      obtain ⟨t, ht⟩ : ∃ t, xs[j].1 = t := ⟨_, rfl⟩
      obtain ⟨z, hz⟩ : ∃ z, xs[j].2 = z := ⟨_, rfl⟩
      rw [ht] at q1
      rw [hz] at q2
      have HT := hide ht
      have HB := hide hb
      clear k1 k2 ht hz hb
      by_cases hq : t = name
      · have b1 := beq_true hq
        have HH := hide (pl_hit hlt HP.out (HT.out.trans hq))
        clear hq
        go_wp2
        go_ret
        exact ⟨ret_int HH.out.symm, HB.out.alloc hsz _⟩
      · have b1 := beq_false hq
        have HH := hide (pl_next hlt HP.out (by rw [HT.out]; exact hq))
        go_wp2
        go_roundw
        case rel => exact ⟨j + 1, by omega, by go_num, HH, HB.out.alloc hsz _⟩
        case measure => simp [intOf]; omega
    · have HH := hide (pl_end (by omega) HP.out)
      have HB := hide hb
      clear hb
      go_wp2
      go_ret
      exact ⟨ret_int HH.out.symm, HB.out⟩

theorem placeOf_none (v : Value) (xs : List Sl) (name : ByteArray) (w : World) (hv : RSl w v xs) (hn : name.size = 0) :
    Calls Tryz.prog 108 #[v, .string name] w fun e w' => e = .returned (.int .i64 (placeR xs name)) ∧ Below w.heap.size w w' := by
  obtain ⟨a, c, rfl, -⟩ := hv
  rw [placeR_empty xs hn]
  have he := emp_true (s := name) hn
  go_enter Tryz.func108, Tryz.ntmps108
  go_wp2
  go_ret
  exact ⟨rfl, Below.refl _ _⟩
theorem placeOf_any (v : Value) (xs : List Sl) (name : ByteArray) (w : World) (hv : RSl w v xs) (hl : xs.length ≤ 1048576) :
    Calls Tryz.prog 108 #[v, .string name] w fun e w' => e = .returned (.int .i64 (placeR xs name)) ∧ Below w.heap.size w w' := by
  by_cases hn : name.size = 0
  · exact placeOf_none v xs name w hv hn
  · exact placeOf_some v xs name w hv hl hn
end Go.Proofs.YtljooldjcefkoaaGreat
/- (impl.Slot).right by its contract. -/
namespace Go.Proofs.YtljooldjcefkoaaGreat.Kit
open Go.RowKit
/-- A slot is right by itself. -/
def slotOk (s : Sl) : Bool := decide ((s.1.size = 0 ∧ s.2 = 0) ∨ (nameOk s.1 = true ∧ 1 ≤ s.2 ∧ s.2 ≤ 8))
theorem slotOk_true {t : ByteArray} {z : Int} (h : (t.size = 0 ∧ z = 0) ∨ (nameOk t = true ∧ 1 ≤ z ∧ z ≤ 8)) : true = slotOk (t, z) := (decide_eq_true h).symm
theorem slotOk_false {t : ByteArray} {z : Int} (h : ¬ ((t.size = 0 ∧ z = 0) ∨ (nameOk t = true ∧ 1 ≤ z ∧ z ≤ 8))) : false = slotOk (t, z) := (decide_eq_false h).symm
theorem size_zero {t : ByteArray} (h : t.size = 0) : t = ⟨#[]⟩ := ByteArray.ext (Array.eq_empty_of_size_eq_zero h)
end Go.Proofs.YtljooldjcefkoaaGreat.Kit
namespace Go.Proofs.YtljooldjcefkoaaGreat
open Go.RowKit Kit
set_option maxHeartbeats 800000 in
theorem right_anyK (t : ByteArray) (z : Int) (w : World) :
    Calls Tryz.prog 107 #[.agg #[.string t, .int .i64 z]] w fun e w' => e = .returned (.bool (slotOk (t, z))) ∧ Below w.heap.size w w' := by
  obtain ⟨r, hr⟩ : ∃ r, slotOk (t, z) = r := ⟨_, rfl⟩
  have HR := hide hr
  rw [hr]
  clear hr
  by_cases h : t.size = 0 ∧ z = 0
  · obtain ⟨h0, rfl⟩ := h
    have := size_zero h0
    subst this
    have e1 : r = true := by rw [← HR.out]; rfl
    subst e1
    go_enter Tryz.func107, Tryz.ntmps107
    go_wp2
    go_ret
    exact ⟨rfl, by go_grown⟩
  · obtain ⟨n, hn⟩ : ∃ n, nameOk t = n := ⟨_, rfl⟩
    have C := hide (fun W => implName_any t W)
    rw [hn] at C
    have HN := hide hn
    have HH := hide h
    have he : ¬ (t.toList = [] ∧ z = 0) := fun e => h ⟨by have h2 : t.data.toList.length = t.size := rfl; rw [← h2, ← ByteArray.toList_eq, e.1]; rfl, e.2⟩
    have fin : ∀ b : Bool, (b = true ↔ (n = true ∧ 1 ≤ z ∧ z ≤ 8)) → b = r := by
      intro b hb
      rw [← HR.out]
      cases b with
      | true => exact slotOk_true (.inr ⟨by rw [HN.out]; exact (hb.1 rfl).1, (hb.1 rfl).2⟩)
      | false => exact slotOk_false (by rintro (h1 | h1); exact HH.out h1; rw [HN.out] at h1; have := hb.2 h1; cases this)
    have HF := hide fin
    have HE := hide he
    clear hn h fin he
    cases n with
    | true =>
      go_enter Tryz.func107, Tryz.ntmps107
      go_wp2_with (go_at_call 120; refine (C.out _).mono ?_; rintro e w1 ⟨rfl, hb1⟩; obtain ⟨q0, q1, q2⟩ := AtC.two ((AtC.new w 77 #[.string t, .int .i64 z]).over hb1))
      all_goals first | exact absurd ⟨‹t.toList = []›, ‹z = 0›⟩ HE.out | (go_ret; refine ⟨ret_bool (HF.out _ ?_), ((Below.refl _ w).alloc (Nat.le_refl _) _).trans (hb1.mono (by simp))⟩; simp; try omega)
    | false =>
      go_enter Tryz.func107, Tryz.ntmps107
      go_wp2_with (go_at_call 120; refine (C.out _).mono ?_; rintro e w1 ⟨rfl, hb1⟩)
      all_goals first | exact absurd ⟨‹t.toList = []›, ‹z = 0›⟩ HE.out | (go_ret; refine ⟨ret_bool (HF.out _ ?_), ((Below.refl _ w).alloc (Nat.le_refl _) _).trans (hb1.mono (by simp))⟩; simp; try omega)
end Go.Proofs.YtljooldjcefkoaaGreat
/- impl.slotsRight and impl.BlockOk by their contracts. -/
namespace Go.Proofs.YtljooldjcefkoaaGreat.Kit
open Go.RowKit
/-- What is asked of slots, one behind the other. -/
def okF : List Sl → List Sl → Bool
  | _, [] => true
  | ahead, s :: r => slotOk s && decide (placeR ahead s.1 < 0) && okF (ahead ++ [s]) r
/-- The slots of a directory are right. -/
def slotsOk (xs : List Sl) : Bool := decide (xs.length = 4) && okF [] xs
/-- A block is right. -/
def blockOk (d : Bool) (xs : List Sl) (t : ByteArray) : Bool := if d then decide (t.size = 0) && slotsOk xs else decide (xs.length = 0 ∧ t.size ≤ 16)
theorem ok_start {xs : List Sl} (h : xs.length = 4) : slotsOk xs = okF (xs.take 0) (xs.drop 0) := by simp [slotsOk, h]
theorem ok_other {xs : List Sl} (h : xs.length ≠ 4) : slotsOk xs = false := by simp [slotsOk, h]
theorem ok_next {R : Bool} {xs : List Sl} {j : Nat} (h : j < xs.length) (hp : R = okF (xs.take j) (xs.drop j)) (h1 : slotOk xs[j] = true) (h2 : placeR (xs.take j) xs[j].1 < 0) : R = okF (xs.take (j + 1)) (xs.drop (j + 1)) := by
  rw [hp, List.drop_eq_getElem_cons h, okF, h1, decide_eq_true h2, List.take_succ_eq_append_getElem h]
  rfl
theorem ok_bad {R : Bool} {xs : List Sl} {j : Nat} (h : j < xs.length) (hp : R = okF (xs.take j) (xs.drop j)) (h1 : slotOk xs[j] = false) : R = false := by
  rw [hp, List.drop_eq_getElem_cons h, okF, h1]
  rfl
theorem ok_twice {R : Bool} {xs : List Sl} {j : Nat} (h : j < xs.length) (hp : R = okF (xs.take j) (xs.drop j)) (h2 : ¬ placeR (xs.take j) xs[j].1 < 0) : R = false := by
  rw [hp, List.drop_eq_getElem_cons h, okF, decide_eq_false h2]
  simp
theorem ok_end {R : Bool} {xs : List Sl} {j : Nat} (h : xs.length ≤ j) (hp : R = okF (xs.take j) (xs.drop j)) : R = true := by
  rw [hp, List.drop_of_length_le h, okF]
theorem RSl.take {w : World} {a : Option Addr} {c : Nat} {xs : List Sl} (h : RSl w (.slice a xs.length c) xs) (j : Nat) (hj : j ≤ xs.length) : RSl w (.slice a j c) (xs.take j) := by
  obtain ⟨a', c', e, hcap, h⟩ := h
  simp only [Value.slice.injEq] at e
  obtain ⟨rfl, -, rfl⟩ := e
  have hl : (xs.take j).length = j := by simp; omega
  refine ⟨a, c, by rw [hl], by omega, fun i hi => ?_⟩
  rw [hl] at hi
  obtain ⟨g, off, e, hg, k1, k2⟩ := h i (by omega)
  exact ⟨g, off, e, hg, by simpa using k1, by simpa using k2⟩
end Go.Proofs.YtljooldjcefkoaaGreat.Kit
namespace Go.Proofs.YtljooldjcefkoaaGreat
open Go.RowKit Kit
set_option maxRecDepth 100000 in
set_option maxHeartbeats 1600000 in
theorem slotsRight_four (v : Value) (xs : List Sl) (w : World) (hv : RSl w v xs) (hl : xs.length = 4) :
    Calls Tryz.prog 100 #[v] w fun e w' => e = .returned (.bool (slotsOk xs)) ∧ Below w.heap.size w w' := by
  have HV := hide hv
  obtain ⟨a, c, rfl, hcap, hc⟩ := hv
  have HC := hide hc
  have HL := hide hl
  clear hc
  have HR := hide (ok_start hl)
  obtain ⟨R, hR⟩ : ∃ R, slotsOk xs = R := ⟨_, rfl⟩
  rw [hR] at HR ⊢
  rw [hl] at HV hcap ⊢
  clear hR hl
  go_enter Tryz.func100, Tryz.ntmps100
  go_wp2
  go_loopw [3, 4, 10] (fun _ _ i wr => ∃ j : Nat, j ≤ 4 ∧ i = .int .i64 j ∧ Hid (R = okF (xs.take j) (xs.drop j)) ∧ Below w.heap.size w wr) (fun _ _ i _ => 4 - (intOf i).toNat)
  case atStart => exact ⟨0, Nat.zero_le _, rfl, HR, Below.refl _ _⟩
  case round =>
    obtain ⟨j, hj, rfl, HP, hb⟩ := hrel
    by_cases hlt : j < 4
    · have hlx : j < xs.length := by rw [HL.out]; exact hlt
      obtain ⟨g, off, rfl, hg, k1, k2⟩ := HC.out j hlx
      have q1 := (hb.cell (p := ⟨g, off + j * 2, none⟩) hg).trans k1
      have q2 := (hb.cell (p := ⟨g, off + j * 2 + 1, none⟩) hg).trans k2
      have hsz := hb.size
      have j0 : (0 : Int) ≤ (j : Int) := by omega
      have j1 : (j : Int) < 4 := by omega
      have jc : (j : Int) ≤ (c : Int) := by omega
      have HTK := hide ((show RSl w (.slice (some ⟨g, off, none⟩) xs.length c) xs by rw [HL.out]; exact HV.out).take j (by omega))
      have C1 := hide (fun W => right_anyK xs[j].1 xs[j].2 W)
      have C2 := hide (fun W h => placeOf_any (.slice (some ⟨g, off, none⟩) j c) (xs.take j) xs[j].1 W h (by simp; have := HL.out; omega))
      have HBAD := hide (ok_bad hlx HP.out)
      have HTW := hide (ok_twice hlx HP.out)
      have HNX := hide (ok_next hlx HP.out)
      obtain ⟨t, ht⟩ : ∃ t, xs[j].1 = t := ⟨_, rfl⟩
      obtain ⟨z, hz⟩ : ∃ z, xs[j].2 = z := ⟨_, rfl⟩
      obtain ⟨r1, hr1⟩ : ∃ r, slotOk xs[j] = r := ⟨_, rfl⟩
      obtain ⟨r2, hr2⟩ : ∃ r, placeR (xs.take j) xs[j].1 = r := ⟨_, rfl⟩
      have e1 : (xs[j].1, xs[j].2) = xs[j] := rfl
      rw [e1, hr1] at C1
      rw [hr2] at C2 HTW HNX
      rw [hr1] at HBAD HNX
      rw [ht] at q1 C1 C2
      rw [hz] at q2 C1
      have HB := hide hb
      clear k1 k2 ht hz hr1 hr2 e1 hb HP hlx
      have HS : Hid (∀ w', Below (wr.heap.size + 1) (wr.alloc (.cells #[.string t, .int .i64 z] 77)) w' → w'.cell? ⟨wr.heap.size, 0, none⟩ = some (.string t) ∧ w'.cell? ⟨wr.heap.size, 1, none⟩ = some (.int .i64 z)) := fun w' hb => by
        obtain ⟨e0, e1, _⟩ := ((AtC.new wr 77 #[.string t, .int .i64 z]).below hb (by simp)).two
        exact ⟨e0, e1⟩
      have HBW := hide (HB.out.alloc hsz (.cells #[.string t, .int .i64 z] 77))
      cases r1 with
      | false =>
        go_wp2_with fail
        first | (go_region_with (go_at_call 107; refine (C1.out _).mono ?_; rintro e w6 ⟨rfl, B6⟩)) | fail
        all_goals have HBB := hide (HBW.out.trans ((of_drew B6).mono (by simp; omega)))
        all_goals have HQ := hide (HBAD.out trivial)
        all_goals clear B6
        all_goals go_wp2
        all_goals go_ret
        all_goals exact ⟨ret_bool HQ.out.symm, HBB.out⟩
      | true =>
        go_wp2_with fail
        go_region_held3 (fun w' => w'.cell? ⟨wr.heap.size, 0, none⟩ = some (.string t) ∧ w'.cell? ⟨wr.heap.size, 1, none⟩ = some (.int .i64 z)) (first | exact HS.out _ (Below.refl _ _).drew | exact HS.out _ (by simpa using of_drew B6) | exact HS.out _ (by simpa using ((of_drew B6).trans (B7.mono (of_drew B6).size)))) (first | (go_at_call 107; refine (C1.out _).mono ?_; rintro e w6 ⟨rfl, B6⟩) | (go_at_call 108; refine (C2.out _ (HTK.out.below (HBW.out.trans ((of_drew B6).mono (by simp; omega))) (Nat.le_refl _))).mono ?_; rintro e w7 ⟨rfl, B7⟩))
        have HBB := hide (HBW.out.trans (((of_drew B6).trans (B7.mono (of_drew B6).size)).mono (by simp; omega)))
        clear B6 B7
        by_cases hr : 0 ≤ r2
        · have HQ := hide (HTW.out hr)
          go_wp2
          go_ret
          exact ⟨ret_bool HQ.out.symm, HBB.out⟩
        · have HQ := hide (HNX.out trivial (by omega))
          go_wp2
          go_roundw
          case rel => exact ⟨j + 1, by omega, by go_num, HQ, HBB.out⟩
          case measure => simp [intOf]; omega
    · have HH := hide (ok_end (by rw [HL.out]; omega) HP.out)
      have HB := hide hb
      clear hb
      go_wp2
      go_ret
      exact ⟨ret_bool HH.out.symm, HB.out⟩
end Go.Proofs.YtljooldjcefkoaaGreat
/- impl.BlockOk and spec.BlockOk by their contracts. -/
namespace Go.Proofs.YtljooldjcefkoaaGreat.Kit
open Go.RowKit
theorem blockOk_dir (xs : List Sl) (t : ByteArray) (h : t.size = 0) : blockOk true xs t = slotsOk xs := by simp [blockOk, h]
theorem blockOk_dirt (xs : List Sl) (t : ByteArray) (h : t.size ≠ 0) : blockOk true xs t = false := by simp [blockOk, h]
theorem blockOk_text (xs : List Sl) (t : ByteArray) : blockOk false xs t = decide (xs.length = 0 ∧ t.size ≤ 16) := by simp [blockOk]
theorem take_at {xs : List Sl} {i j : Nat} (h : i < (xs.take j).length) : (xs.take j)[i] = xs[i]'(by simp at h; omega) := by simp
theorem pl_hit' {R : Int} {xs : List Sl} {name : ByteArray} {j k : Nat} (h : k < j) (hx : j < xs.length) (hp : R = plF name k ((xs.take j).drop k)) (hq : (xs[k]'(by omega)).1 = name) : R = (k : Int) :=
  pl_hit (by simp; omega) hp (by rw [take_at]; exact hq)
theorem pl_next' {R : Int} {xs : List Sl} {name : ByteArray} {j k : Nat} (h : k < j) (hx : j < xs.length) (hp : R = plF name k ((xs.take j).drop k)) (hq : ¬ (xs[k]'(by omega)).1 = name) : R = plF name (k + 1) ((xs.take j).drop (k + 1)) :=
  pl_next (by simp; omega) hp (by rw [take_at]; exact hq)
theorem pl_end' {R : Int} {xs : List Sl} {name : ByteArray} {j k : Nat} (h : j ≤ k) (hp : R = plF name k ((xs.take j).drop k)) : R = -1 :=
  pl_end (by simp; omega) hp
end Go.Proofs.YtljooldjcefkoaaGreat.Kit
namespace Go.Proofs.YtljooldjcefkoaaGreat
open Go.RowKit Kit
theorem slotsRight_any (v : Value) (xs : List Sl) (w : World) (hv : RSl w v xs) :
    Calls Tryz.prog 100 #[v] w fun e w' => e = .returned (.bool (slotsOk xs)) ∧ Below w.heap.size w w' := by
  by_cases hl : xs.length = 4
  · exact slotsRight_four v xs w hv hl
  · rw [ok_other hl]
    obtain ⟨a, c, rfl, -⟩ := hv
    generalize xs.length = n at *
    have h1 : ((n : Int) != 4) = true := by simp; omega
    go_enter Tryz.func100, Tryz.ntmps100
    go_wp2
    go_ret
    exact ⟨rfl, Below.refl _ _⟩
theorem implOk_anyK (d : Bool) (v : Value) (t : ByteArray) (xs : List Sl) (w : World) (hv : RSl w v xs) :
    Calls Tryz.prog 86 #[.agg #[.bool d, v, .string t]] w fun e w' => e = .returned (.bool (blockOk d xs t)) ∧ Below w.heap.size w w' := by
  cases d with
  | true =>
    by_cases h : t.size = 0
    · rw [blockOk_dir xs t h]
      have he := emp_true h
      have HV := hide hv
      have C := hide (fun W h => slotsRight_any v xs W h)
      obtain ⟨a, c, rfl, -⟩ := hv
      obtain ⟨R, hR⟩ : ∃ R, slotsOk xs = R := ⟨_, rfl⟩
      rw [hR] at C ⊢
      clear hR h
      go_enter Tryz.func86, Tryz.ntmps86
      go_wp2_with (go_at_call 100; refine (C.out _ (HV.out.alloc _)).mono ?_; rintro e w1 ⟨rfl, hb1⟩)
      go_ret
      exact ⟨rfl, ((Below.refl _ w).alloc (Nat.le_refl _) _).trans (hb1.mono (by simp))⟩
    · rw [blockOk_dirt xs t h]
      have he := emp_false (s := t) (by omega)
      obtain ⟨a, c, rfl, -⟩ := hv
      go_enter Tryz.func86, Tryz.ntmps86
      go_wp2
      go_ret
      exact ⟨rfl, by go_grown⟩
  | false =>
    rw [blockOk_text]
    obtain ⟨a, c, rfl, -⟩ := hv
    generalize xs.length = n at *
    by_cases h : n = 0
    · subst h
      go_enter Tryz.func86, Tryz.ntmps86
      go_wp2
      go_ret
      exact ⟨ret_bool (by simp; omega), by go_grown⟩
    · have h1 : ((n : Int) == 0) = false := by simp; omega
      go_enter Tryz.func86, Tryz.ntmps86
      go_wp2
      go_ret
      exact ⟨ret_bool (by simp [h]), by go_grown⟩
theorem specOk_plain (d : Bool) (v : Value) (t : ByteArray) (xs : List Sl) (w : World) (hv : RSl w v xs) (h : d = false ∨ xs.length ≠ 4 ∨ t.size ≠ 0) :
    Calls Tryz.prog 49 #[.agg #[.bool d, v, .string t]] w fun e w' => e = .returned (.bool (blockOk d xs t)) ∧ Below w.heap.size w w' := by
  cases d with
  | false =>
    rw [blockOk_text]
    obtain ⟨a, c, rfl, -⟩ := hv
    generalize xs.length = n at *
    by_cases h : n = 0
    · subst h
      go_enter Tryz.func49, Tryz.ntmps49
      go_wp2
      go_ret
      exact ⟨ret_bool (by simp; omega), by go_grown⟩
    · have h1 : ((n : Int) == 0) = false := by simp; omega
      go_enter Tryz.func49, Tryz.ntmps49
      go_wp2
      go_ret
      exact ⟨ret_bool (by simp), by go_grown⟩
  | true =>
    have e1 : blockOk true xs t = false := by
      by_cases h2 : t.size = 0
      · rw [blockOk_dir xs t h2]; exact ok_other (by simpa [h2] using h)
      · exact blockOk_dirt xs t h2
    rw [e1]
    obtain ⟨a, c, rfl, -⟩ := hv
    generalize xs.length = n at *
    by_cases h4 : n = 4
    · subst h4
      have he := emp_false (s := t) (by rcases h with h | h | h; cases h; exact absurd rfl h; omega)
      go_enter Tryz.func49, Tryz.ntmps49
      go_wp2
      go_ret
      exact ⟨rfl, by go_grown⟩
    · have h1 : ((n : Int) != 4) = true := by simp; omega
      go_enter Tryz.func49, Tryz.ntmps49
      go_wp2
      go_ret
      exact ⟨rfl, by go_grown⟩
end Go.Proofs.YtljooldjcefkoaaGreat
/- spec.BlockOk at four slots by its contract. -/
namespace Go.Proofs.YtljooldjcefkoaaGreat
open Go.RowKit Kit
set_option maxRecDepth 100000 in
set_option maxHeartbeats 3200000 in
theorem specOk_four (v : Value) (t0 : ByteArray) (xs : List Sl) (w : World) (hv : RSl w v xs) (hl : xs.length = 4) (ht0 : t0.size = 0) (hbig : ∀ (j : Nat) (h : j < xs.length), xs[j].1.size ≤ 1048576) :
    Calls Tryz.prog 49 #[.agg #[.bool true, v, .string t0]] w fun e w' => e = .returned (.bool (slotsOk xs)) ∧ Below w.heap.size w w' := by
  have HV := hide hv
  have HG := hide hbig
  obtain ⟨a, c, rfl, hcap, hc⟩ := hv
  have HC := hide hc
  have HL := hide hl
  clear hc hbig
  have HR := hide (ok_start hl)
  obtain ⟨R, hR⟩ : ∃ R, slotsOk xs = R := ⟨_, rfl⟩
  rw [hR] at HR ⊢
  rw [hl] at HV hcap ⊢
  have he0 := emp_true ht0
  clear hR hl ht0
  go_enter Tryz.func49, Tryz.ntmps49
  go_wp2
  go_loopw [3, 4, 5] (fun i _ _ wr => ∃ j : Nat, j ≤ 4 ∧ i = .int .i64 j ∧ Hid (R = okF (xs.take j) (xs.drop j)) ∧ Below w.heap.size w wr ∧ AtC wr w.heap.size 73 #[.bool true, .slice a 4 c, .string t0]) (fun i _ _ _ => 4 - (intOf i).toNat)
  case atStart => exact ⟨0, Nat.zero_le _, rfl, HR, (Below.refl _ w).alloc (Nat.le_refl _) _, AtC.new w 73 _⟩
  case round =>
    obtain ⟨j, hj, rfl, HP, hb, hat⟩ := hrel
    obtain ⟨b0, b1, b2, hbl⟩ := hat.three
    by_cases hlt : j < 4
    · have hlx : j < xs.length := by rw [HL.out]; exact hlt
      obtain ⟨g, off, rfl, hg, k1, k2⟩ := HC.out j hlx
      have q1 := (hb.cell (p := ⟨g, off + j * 2, none⟩) hg).trans k1
      have q2 := (hb.cell (p := ⟨g, off + j * 2 + 1, none⟩) hg).trans k2
      have hsz := hb.size
      have j0 : (0 : Int) ≤ (j : Int) := by omega
      have j1 : (j : Int) < 4 := by omega
      have C1 := hide (fun W => specName_any xs[j].1 W (HG.out j hlx))
      have HBAD := hide (ok_bad hlx HP.out)
      have HTW := hide (ok_twice hlx HP.out)
      have HNX := hide (ok_next hlx HP.out)
      obtain ⟨t, ht⟩ : ∃ t, xs[j].1 = t := ⟨_, rfl⟩
      obtain ⟨z, hz⟩ : ∃ z, xs[j].2 = z := ⟨_, rfl⟩
      have e1 : xs[j] = (t, z) := by rw [← ht, ← hz]
      rw [e1] at HBAD HNX HTW
      rw [ht] at q1 C1
      rw [hz] at q2
      have HAT := hide hat
      have HB := hide hb
      clear k1 k2 ht hz e1 hb HP hlx hat
      by_cases hA : t.size = 0 ∧ z = 0
      · obtain ⟨hA, rfl⟩ := hA
        have he := emp_true hA
        have HQ := hide (HNX.out (slotOk_true (.inl ⟨hA, rfl⟩)).symm (by rw [placeR_empty _ hA]; decide))
        clear hA
        go_wp2
        go_roundw
        case rel => exact ⟨j + 1, by omega, by go_num, HQ, HB.out.alloc hsz _, HAT.out.alloc _⟩
        case measure => simp [intOf]; omega
      · have HA := hide hA
        obtain ⟨n, hn⟩ : ∃ n, nameOk t = n := ⟨_, rfl⟩
        rw [hn] at C1
        have HN := hide hn
        have HE : Hid (∀ (P : Prop) [Decidable P], True) := fun _ => trivial
        have hAN := HAT.out.alloc (.cells #[.string t, .int .i64 z] 77)
        have hBW := HB.out.alloc hsz (.cells #[.string t, .int .i64 z] 77)
        have hSW := AtC.new wr 77 #[.string t, .int .i64 z]
        have HAN := hide hAN
        have HBW := hide hBW
        have HSW := hide hSW
        clear hn hAN hBW hSW HE
        by_cases hG : n = true ∧ 1 ≤ z ∧ z ≤ 8
        · obtain ⟨rfl, z1, z8⟩ := hG
          have hs1 : 1 ≤ t.size := (nameOk_size HN.out).1
          have he := emp_false (s := t) (by omega)
          have zz : (z == 0) = false := by simp; omega
          have hin : inB z 1 8 = true := by simp [inB, z1, z8]
          have HSO := hide (slotOk_true (t := t) (z := z) (.inr ⟨HN.out, z1, z8⟩)).symm
          have HNX2 := hide (HNX.out HSO.out)
          have HPS := hide (placeR_start (xs.take j) (name := t) (by omega))
          obtain ⟨r2, hr2⟩ : ∃ r, placeR (xs.take j) t = r := ⟨_, rfl⟩
          simp only [hr2] at HNX2 HTW HPS
          clear hr2 hA HNX HBAD
          go_wp2_with (first | (go_at_call 82; refine (C1.out _).mono ?_; rintro e w1 ⟨rfl, B1⟩; obtain ⟨s0, s1, sl⟩ := (HSW.out.over B1).two; obtain ⟨d0, d1, d2, dl⟩ := (HAN.out.over B1).three) | (go_at_call 51; refine (l01In_any _ _ _ _).mono ?_; rintro e w1 ⟨rfl, rfl⟩))
          have hB1 : Below w.heap.size w w1 := HBW.out.trans (B1.mono (by simp; omega))
          have HB1 := hide hB1
          have hA1 := HAN.out.over B1
          have HA1 := hide hA1
          clear hB1 hA1 B1 b0 b1 b2
          go_loopw [5] (fun i wz => ∃ k : Nat, k ≤ j ∧ i = .int .i64 k ∧ Hid (r2 = plF t k ((xs.take j).drop k)) ∧ ∃ q, wz = w1.drewN q) (fun i _ => j - (intOf i).toNat)
          case atStart => exact ⟨0, Nat.zero_le _, rfl, HPS, 0, rfl⟩
          case round =>
            obtain ⟨k, hk, rfl, HK, q, rfl⟩ := hrel
            by_cases hkj : k < j
            · have hkx : k < xs.length := by rw [HL.out]; omega
              obtain ⟨g', off', e', hg', m1, m2⟩ := HC.out k hkx
              simp only [Option.some.injEq, Addr.mk.injEq] at e'
              obtain ⟨rfl, rfl, -⟩ := e'
              have n1 := (HB1.out.cell (p := ⟨g, off + k * 2, none⟩) hg).trans m1
              have hjx : j < xs.length := by rw [HL.out]; exact hlt
              have HIT := hide (pl_hit' hkj hjx HK.out)
              have NXT := hide (pl_next' hkj hjx HK.out)
              obtain ⟨t2, ht2⟩ : ∃ t, xs[k].1 = t := ⟨_, rfl⟩
              rw [ht2] at n1 HIT NXT
              clear m1 m2 ht2 hjx hkx q1 q2
              have k0 : (0 : Int) ≤ (k : Int) := by omega
              have k1 : (k : Int) < 4 := by omega
              by_cases hq : t2 = t
              · have c1 := beq_true hq
                have HQ := hide (HTW.out (by have := HIT.out hq; omega))
                clear hq
                go_wp2
                go_quiet (fail)
                go_wp2
                go_ret
                exact ⟨ret_bool HQ.out.symm, below_drewN (below_drewN HB1.out _) _⟩
              · have c1 := beq_false hq
                have HQ := hide (NXT.out hq)
                clear hq
                go_wp2
                go_quiet (fail)
                go_wp2
                go_roundw
                case rel => exact ⟨k + 1, by omega, by go_num, HQ, _, rfl⟩
                case measure => simp [intOf]; omega
            · have HQ := hide (HNX2.out (by have := pl_end' (by omega) HK.out; omega))
              clear q1 q2
              go_wp2
              go_roundw
              case rel => exact ⟨j + 1, by omega, by go_num, HQ, below_drewN HB1.out _, HA1.out⟩
              case measure => simp [intOf]; omega
        · have HQ := hide (HBAD.out (slotOk_false (t := t) (z := z) (by rintro (h | h); exact HA.out h; exact hG ⟨by rw [← HN.out]; exact h.1, h.2⟩)).symm)
          have hE : (t.size = 0 ∧ (z == 0) = false) ∨ 0 < t.size := by
            by_cases h : t.size = 0
            · left; exact ⟨h, by simp; intro hz; exact HA.out ⟨h, hz⟩⟩
            · right; omega
          have hin : n = true → inB z 1 8 = false := fun h => by simp [inB]; intro h1; have := hG; simp [h] at this; omega
          have HI := hide hin
          have HEE := hide hE
          clear hin hE hA hG HBAD HNX HTW
          cases n with
          | false =>
            rcases HEE.out with ⟨h0, hz⟩ | h0
            · have he := emp_true h0
              clear h0
              go_wp2_with (first | (go_at_call 82; refine (C1.out _).mono ?_; rintro e w1 ⟨rfl, B1⟩))
              go_ret
              exact ⟨ret_bool HQ.out.symm, HBW.out.trans (B1.mono (by simp; omega))⟩
            · have he := emp_false h0
              clear h0
              go_wp2_with (first | (go_at_call 82; refine (C1.out _).mono ?_; rintro e w1 ⟨rfl, B1⟩))
              go_ret
              exact ⟨ret_bool HQ.out.symm, HBW.out.trans (B1.mono (by simp; omega))⟩
          | true =>
            have hin := HI.out rfl
            have hs1 : 1 ≤ t.size := (nameOk_size HN.out).1
            have he := emp_false (s := t) (by omega)
            go_wp2_with (first | (go_at_call 82; refine (C1.out _).mono ?_; rintro e w1 ⟨rfl, B1⟩; obtain ⟨s0, s1, sl⟩ := (HSW.out.over B1).two) | (go_at_call 51; refine (l01In_any _ _ _ _).mono ?_; rintro e w1 ⟨rfl, rfl⟩))
            go_ret
            exact ⟨ret_bool HQ.out.symm, HBW.out.trans (B1.mono (by simp; omega))⟩
    · have HH := hide (ok_end (by rw [HL.out]; omega) HP.out)
      have HB := hide hb
      clear hb hat
      go_wp2
      go_ret
      exact ⟨ret_bool HH.out.symm, HB.out⟩
theorem specOk_anyK (d : Bool) (v : Value) (t : ByteArray) (xs : List Sl) (w : World) (hv : RSl w v xs) (hbig : ∀ (j : Nat) (h : j < xs.length), xs[j].1.size ≤ 1048576) :
    Calls Tryz.prog 49 #[.agg #[.bool d, v, .string t]] w fun e w' => e = .returned (.bool (blockOk d xs t)) ∧ Below w.heap.size w w' := by
  by_cases h : d = false ∨ xs.length ≠ 4 ∨ t.size ≠ 0
  · exact specOk_plain d v t xs w hv h
  · simp only [not_or, Bool.not_eq_false, Decidable.not_not, ne_eq] at h
    obtain ⟨rfl, h4, h0⟩ := h
    rw [blockOk_dir xs t h0]
    exact specOk_four v t xs w hv h4 h0 hbig
end Go.Proofs.YtljooldjcefkoaaGreat
/- impl.inodesRight, impl.blocksRight, impl.DiskOk and spec.DiskOk by their contracts. -/
namespace Go.Proofs.YtljooldjcefkoaaGreat.Kit
open Go.RowKit
theorem all_no {α : Type} {f : α → Bool} {l : List α} {j : Nat} (h : j < l.length) (hf : f l[j] = false) : l.all f = false := by
  rw [List.all_eq_false]
  exact ⟨l[j], List.getElem_mem h, by simp [hf]⟩
theorem all_yes {α : Type} {f : α → Bool} {l : List α} (h : ∀ (j : Nat) (h : j < l.length), f l[j] = true) : l.all f = true := by
  rw [List.all_eq_true]
  intro x hx
  obtain ⟨j, hj, rfl⟩ := List.getElem_of_mem hx
  exact h j hj
end Go.Proofs.YtljooldjcefkoaaGreat.Kit
namespace Go.Proofs.YtljooldjcefkoaaGreat
open Go.RowKit Kit
/-- Whether an inode is right; whether all are. -/
def inoOk (x : Ino) : Bool := okL x.1 x.2.1 x.2.2
def inosOk (l : List Ino) : Bool := l.all inoOk
/-- Whether a block is right; whether all are. -/
def blkOk (b : Blk) : Bool := blockOk b.1 b.2.1 b.2.2
def blksOk (l : List Blk) : Bool := l.all blkOk
/-- Whether a disk is right. -/
def diskOk (xs ys : List Bool) (is : List Ino) (bs : List Blk) : Bool := okB xs.length ys.length && (inosOk is && decide (is.length = 8)) && (blksOk bs && decide (bs.length = 16))
set_option maxRecDepth 100000 in
set_option maxHeartbeats 1600000 in
theorem inosRight_any (v : Value) (l : List Ino) (w : World) (hv : R3 KI w v l) (hl : l.length ≤ 1048576) :
    Calls Tryz.prog 57 #[v] w fun e w' => e = .returned (.bool (inosOk l && decide (l.length = 8))) ∧ Below w.heap.size w w' := by
  obtain ⟨a1, c1, rfl, -, hv'⟩ := hv.ino
  have HA := hide hv'
  clear hv hv'
  go_enter Tryz.func57, Tryz.ntmps57
  go_wp2
  go_loopw [7] (fun i wr => ∃ j : Nat, j ≤ l.length ∧ i = .int .i64 j ∧ Hid (∀ (k : Nat) (h : k < l.length), k < j → inoOk l[k] = true) ∧ Below w.heap.size w wr) (fun i _ => l.length - (intOf i).toNat)
  case atStart => exact ⟨0, Nat.zero_le _, rfl, fun _ _ h => absurd h (Nat.not_lt_zero _), Below.refl _ _⟩
  case round =>
    obtain ⟨j, hj, rfl, HS, hb⟩ := hrel
    by_cases hlt : j < l.length
    · obtain ⟨g1, o1, p1, rfl, hg1, m1, m2, m3, hr1⟩ := HA.out j hlt
      have q1 := (hb.cell (p := ⟨g1, o1 + j * 3, none⟩) hg1).trans m1
      have q2 := (hb.cell (p := ⟨g1, o1 + j * 3 + 1, none⟩) hg1).trans m2
      have q3 := (hb.cell (p := ⟨g1, o1 + j * 3 + 2, none⟩) hg1).trans m3
      obtain ⟨x, hx⟩ : ∃ x, l[j] = x := ⟨_, rfl⟩
      obtain ⟨y, s, z⟩ := x
      rw [hx] at q1 q2 hr1
      obtain ⟨pa, pc, rfl⟩ := hr1.form
      simp only at q1 q2 q3 hr1
      have HR : Hid (∀ w', Below w.heap.size w w' → RInts w' (.slice pa z.length pc) z) := fun w' hb => hr1.below hb (Nat.le_refl _)
      have j0 : (0 : Int) ≤ (j : Int) := by omega
      have j1 : (j : Int) < (l.length : Int) := by omega
      have hsz := hb.size
      have HBB := hide hb
      have HX := hide hx
      clear hb m1 m2 m3 hr1 hx
      cases hq : inoOk (y, s, z) with
      | true =>
        have HQ := hide hq
        have hq2 : okL y s z = true := hq
        have HQ2 := hide hq2
        clear hq hq2
        go_wp2_with (go_at_call 85; refine (implOk_anyI _ _ z _ _ (HR.out _ (HBB.out.alloc hsz _))).mono ?_; rw [HQ2.out]; rintro e w1 ⟨rfl, B1⟩; have HB1 := hide ((HBB.out.alloc hsz _).trans (B1.mono (by simp; omega))); clear B1)
        go_roundw
        case rel =>
          refine ⟨j + 1, by omega, by go_num, fun k hk hkj => ?_, HB1.out⟩
          by_cases hkk : k = j
          · subst hkk; rw [HX.out]; exact HQ.out
          · exact HS.out k hk (by omega)
        case measure => simp [intOf]; omega
      | false =>
        have hno : inosOk l = false := all_no hlt (by rw [HX.out]; exact hq)
        have HNO := hide hno
        have hq2 : okL y s z = false := hq
        have HQ2 := hide hq2
        clear hq hq2 hno
        go_wp2_with (go_at_call 85; refine (implOk_anyI _ _ z _ _ (HR.out _ (HBB.out.alloc hsz _))).mono ?_; rw [HQ2.out]; rintro e w1 ⟨rfl, B1⟩; have HB1 := hide ((HBB.out.alloc hsz _).trans (B1.mono (by simp; omega))); clear B1)
        go_ret
        exact ⟨ret_bool (by rw [HNO.out]; rfl), HB1.out⟩
    · have hyes : inosOk l = true := all_yes fun k hk => HS.out k hk (by omega)
      have HY := hide hyes
      have HBB := hide hb
      clear hb hyes
      go_wp2
      go_ret
      exact ⟨ret_bool (by rw [HY.out, Bool.true_and, Bool.eq_iff_iff]; simp; omega), HBB.out⟩
set_option maxRecDepth 100000 in
set_option maxHeartbeats 1600000 in
theorem blksRight_any (v : Value) (l : List Blk) (w : World) (hv : R3 KB w v l) (hl : l.length ≤ 1048576) :
    Calls Tryz.prog 58 #[v] w fun e w' => e = .returned (.bool (blksOk l && decide (l.length = 16))) ∧ Below w.heap.size w w' := by
  obtain ⟨a1, c1, rfl, -, hv'⟩ := hv.blk
  have HA := hide hv'
  clear hv hv'
  go_enter Tryz.func58, Tryz.ntmps58
  go_wp2
  go_loopw [7] (fun i wr => ∃ j : Nat, j ≤ l.length ∧ i = .int .i64 j ∧ Hid (∀ (k : Nat) (h : k < l.length), k < j → blkOk l[k] = true) ∧ Below w.heap.size w wr) (fun i _ => l.length - (intOf i).toNat)
  case atStart => exact ⟨0, Nat.zero_le _, rfl, fun _ _ h => absurd h (Nat.not_lt_zero _), Below.refl _ _⟩
  case round =>
    obtain ⟨j, hj, rfl, HS, hb⟩ := hrel
    by_cases hlt : j < l.length
    · obtain ⟨g1, o1, p1, rfl, hg1, m1, m2, m3, hr1⟩ := HA.out j hlt
      have q1 := (hb.cell (p := ⟨g1, o1 + j * 3, none⟩) hg1).trans m1
      have q2 := (hb.cell (p := ⟨g1, o1 + j * 3 + 1, none⟩) hg1).trans m2
      have q3 := (hb.cell (p := ⟨g1, o1 + j * 3 + 2, none⟩) hg1).trans m3
      obtain ⟨x, hx⟩ : ∃ x, l[j] = x := ⟨_, rfl⟩
      obtain ⟨y, s, z⟩ := x
      rw [hx] at q1 q3 hr1
      obtain ⟨pa, pc, rfl⟩ := hr1.form
      simp only at q1 q2 q3 hr1
      have HR : Hid (∀ w', Below w.heap.size w w' → RSl w' (.slice pa s.length pc) s) := fun w' hb => hr1.below hb (Nat.le_refl _)
      have j0 : (0 : Int) ≤ (j : Int) := by omega
      have j1 : (j : Int) < (l.length : Int) := by omega
      have hsz := hb.size
      have HBB := hide hb
      have HX := hide hx
      clear hb m1 m2 m3 hr1 hx
      cases hq : blkOk (y, s, z) with
      | true =>
        have HQ := hide hq
        have hq2 : blockOk y s z = true := hq
        have HQ2 := hide hq2
        clear hq hq2
        go_wp2_with (go_at_call 86; refine (implOk_anyK _ _ _ s _ (HR.out _ (HBB.out.alloc hsz _))).mono ?_; rw [HQ2.out]; rintro e w1 ⟨rfl, B1⟩; have HB1 := hide ((HBB.out.alloc hsz _).trans (B1.mono (by simp; omega))); clear B1)
        go_roundw
        case rel =>
          refine ⟨j + 1, by omega, by go_num, fun k hk hkj => ?_, HB1.out⟩
          by_cases hkk : k = j
          · subst hkk; rw [HX.out]; exact HQ.out
          · exact HS.out k hk (by omega)
        case measure => simp [intOf]; omega
      | false =>
        have hno : blksOk l = false := all_no hlt (by rw [HX.out]; exact hq)
        have HNO := hide hno
        have hq2 : blockOk y s z = false := hq
        have HQ2 := hide hq2
        clear hq hq2 hno
        go_wp2_with (go_at_call 86; refine (implOk_anyK _ _ _ s _ (HR.out _ (HBB.out.alloc hsz _))).mono ?_; rw [HQ2.out]; rintro e w1 ⟨rfl, B1⟩; have HB1 := hide ((HBB.out.alloc hsz _).trans (B1.mono (by simp; omega))); clear B1)
        go_ret
        exact ⟨ret_bool (by rw [HNO.out]; rfl), HB1.out⟩
    · have hyes : blksOk l = true := all_yes fun k hk => HS.out k hk (by omega)
      have HY := hide hyes
      have HBB := hide hb
      clear hb hyes
      go_wp2
      go_ret
      exact ⟨ret_bool (by rw [HY.out, Bool.true_and, Bool.eq_iff_iff]; simp; omega), HBB.out⟩
end Go.Proofs.YtljooldjcefkoaaGreat
/- What a disk tells, as plain functions: kinds, pointers, named slots, where a name leads. No Go function is spoken of. -/
namespace Go.Proofs.YtljooldjcefkoaaGreat
open Go.RowKit Kit
def kindAt (is : List Ino) (i : Int) : Int := if inB i 1 is.length = true then (is.getD (i - 1).toNat (0, 0, [])).1 else 0
def ptrsAt (is : List Ino) (i : Int) : List Int := if inB i 1 is.length = true then (is.getD (i - 1).toNat (0, 0, [])).2.2 else []
/-- The slots that have a name. -/
def nmdS (ss : List Sl) : List Sl := ss.filter fun s => decide (¬ s.1 = ⟨#[]⟩)
def nmd (b : Blk) : List Sl := if b.1 = true then nmdS b.2.1 else []
/-- The named slots of blocks, in order. -/
def nmdP (bs : List Blk) (ps : List Int) : List Sl := ps.flatMap fun p => nmd (blkAt bs p)
/-- The named slots of a directory. -/
def named (is : List Ino) (bs : List Blk) (i : Int) : List Sl := if kindAt is i = 2 then nmdP bs (ptrsAt is i) else []
/-- Where the first slot with a name leads. -/
def findI : List Sl → ByteArray → Int
  | [], _ => 0
  | s :: r, nm => if s.1 = nm then s.2 else findI r nm
theorem findI_append {a b : List Sl} {nm : ByteArray} (h : ∀ s ∈ a, ¬ s.1 = nm) : findI (a ++ b) nm = findI b nm := by
  induction a with
  | nil => rfl
  | cons s r ih =>
    rw [List.cons_append, findI, if_neg (h s (by simp))]
    exact ih fun x hx => h x (by simp [hx])
theorem findI_none {a : List Sl} {nm : ByteArray} (h : ∀ s ∈ a, ¬ s.1 = nm) : findI a nm = 0 := by
  have := findI_append (b := []) h
  rw [List.append_nil] at this
  rw [this]; rfl
theorem size_ne {nm : ByteArray} (h : nm.size ≠ 0) : ¬ nm = ⟨#[]⟩ := fun e => h (by rw [e]; rfl)
theorem ne_size {nm : ByteArray} (h : ¬ nm = ⟨#[]⟩) : nm.size ≠ 0 := fun e => h (by
  obtain ⟨⟨l⟩⟩ := nm
  have : l = [] := List.length_eq_zero_iff.1 e
  subst this
  rfl)
theorem findI_first {ss c : List Sl} {nm : ByteArray} {j : Nat} (hj : j < ss.length) (h : ss[j].1 = nm) (hn : nm.size ≠ 0) (hf : ∀ (i : Nat) (hi : i < j), ¬ (ss[i]'(Nat.lt_trans hi hj)).1 = nm) : findI (nmdS ss ++ c) nm = ss[j].2 := by
  induction ss generalizing j with
  | nil => simp at hj
  | cons s r ih =>
    cases j with
    | zero =>
      have h' : s.1 = nm := h
      have : nmdS (s :: r) = s :: nmdS r := by simp [nmdS, h', size_ne hn]
      rw [this, List.cons_append, findI, if_pos h']
      rfl
    | succ j =>
      have h0 : ¬ s.1 = nm := hf 0 (Nat.succ_pos _)
      have hi := ih (j := j) (by simpa using hj) h (fun i hi => hf (i + 1) (Nat.succ_lt_succ hi))
      by_cases e : s.1 = ⟨#[]⟩
      · have : nmdS (s :: r) = nmdS r := by simp [nmdS, e]
        rw [this]; exact hi
      · have : nmdS (s :: r) = s :: nmdS r := by simp [nmdS, e]
        rw [this, List.cons_append, findI, if_neg h0]; exact hi
theorem mem_nmdS {ss : List Sl} {s : Sl} (h : s ∈ nmdS ss) : s ∈ ss ∧ ¬ s.1 = ⟨#[]⟩ := by
  have := List.mem_filter.1 h
  exact ⟨this.1, by simpa using this.2⟩
theorem nmdS_none {ss : List Sl} {nm : ByteArray} (h : ∀ (i : Nat) (hi : i < ss.length), ¬ ss[i].1 = nm) : ∀ s ∈ nmdS ss, ¬ s.1 = nm := fun s hs => by
  obtain ⟨i, hi, rfl⟩ := List.getElem_of_mem (mem_nmdS hs).1
  exact h i hi
theorem nmdP_take {bs : List Blk} {ps : List Int} {q : Nat} (h : q < ps.length) : nmdP bs (ps.take (q + 1)) = nmdP bs (ps.take q) ++ nmd (blkAt bs ps[q]) := by
  rw [List.take_succ_eq_append_getElem h]
  unfold nmdP
  rw [List.flatMap_append, List.flatMap_cons, List.flatMap_nil, List.append_nil]
theorem nmdP_split {bs : List Blk} {ps : List Int} {q : Nat} (h : q < ps.length) : nmdP bs ps = nmdP bs (ps.take q) ++ (nmd (blkAt bs ps[q]) ++ nmdP bs (ps.drop (q + 1))) := by
  have e : ps = ps.take q ++ ps[q] :: ps.drop (q + 1) := by
    rw [← List.drop_eq_getElem_cons h, List.take_append_drop]
  have : nmdP bs (ps.take q ++ ps[q] :: ps.drop (q + 1)) = nmdP bs (ps.take q) ++ (nmd (blkAt bs ps[q]) ++ nmdP bs (ps.drop (q + 1))) := by
    unfold nmdP
    rw [List.flatMap_append, List.flatMap_cons]
  rw [← e] at this
  exact this
theorem nmdS_take {ss : List Sl} {t : Nat} (h : t < ss.length) : nmdS (ss.take (t + 1)) = nmdS (ss.take t) ++ (if ss[t].1 = ⟨#[]⟩ then [] else [ss[t]]) := by
  rw [List.take_succ_eq_append_getElem h]
  unfold nmdS
  rw [List.filter_append]
  by_cases e : ss[t].1 = ⟨#[]⟩
  · rw [if_pos e, List.filter_cons_of_neg (by simp [e]), List.filter_nil]
  · rw [if_neg e, List.filter_cons_of_pos (by simp [e]), List.filter_nil]
theorem kindAt_in {is : List Ino} {j : Nat} (h : j < is.length) : kindAt is ((j : Int) + 1) = is[j].1 ∧ ptrsAt is ((j : Int) + 1) = is[j].2.2 := by
  have hb : inB ((j : Int) + 1) 1 is.length = true := by simp [inB]; omega
  unfold kindAt ptrsAt
  rw [if_pos hb, if_pos hb, show ((j : Int) + 1 - 1).toNat = j by omega]
  simp [h]
theorem kindAt_out {is : List Ino} {i : Int} (h : inB i 1 is.length = false) : kindAt is i = 0 := by unfold kindAt; rw [h]; rfl
theorem blkAt_no {bs : List Blk} {x : Int} (h : inB x 1 bs.length = false) : blkAt bs x = (false, [], ⟨#[]⟩) := by unfold blkAt; rw [h]; rfl
end Go.Proofs.YtljooldjcefkoaaGreat
