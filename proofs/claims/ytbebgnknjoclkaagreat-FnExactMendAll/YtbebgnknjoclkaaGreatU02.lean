/- Texts of the proof, bundled: IRight, IROf, IText, ITextI, IArg, KName, KPlace, KRight, KOkI, KOk, KOkS, Okd, Tm, Mr, Rg, Rh, Fd, Tp, Idl, Ua, Tw, Okk, Rd, Ib, Shelf, Bo, Ns4, Sl, Rc, Re0, Re1, Re2. -/
import Derived.RegionTactic
import Derived.BigRegion
import Derived.Deep.RegionHeld3
import Derived.Deep.QuietTactic
import Derived.BigQuiet
import Derived.Deep.RegionHeld
import Derived.Deep.AppendLies
import Derived.Deep.Upon
import Derived.Deep.DeepCutAuto
import Derived.Deep.CutRange
import Derived.Handy
import Derived.Shelf.Small.Bits
import Derived.Shelf.Small.Wraps
import Derived.Shelf.Strconv.Itoa0
import Derived.Shelf.LaysM
import Derived.Shelf.Strconv.Clone
import Derived.Shelf.Sort.Plain
import Derived.Shelf.Slices.Turned
import Derived.Ground.Names2Prog
import Derived.Shelf.Slices.SearchI
import Derived.Shelf.Slices.In.SortNone
import Derived.Test.YtbebgnknjoclkaaGreatProg
import Derived.Laws.EntriesVeiled
import Derived.Deep.LoopGhost
import Derived.Sort.OwnSortedInts
import Derived.Test.YtbebgnknjoclkaaGreatU01
/- (impl.inodeRecord).ptrsRight and (impl.inodeRecord).right by their contracts. -/
namespace Go.Proofs.YtbebgnknjoclkaaGreat
open Go.RowKit Kit
theorem Tryz.u3 : Tryz.prog.underlying 3 = some (.int .i64) := by kernel_rfl
theorem eqArrD (d : Nat) (p q : Int) (w : World) : (Op.equalIn (d + 1 + 1) 122 (.agg #[.int .i64 p, .int .i64 q]) (.agg #[.int .i64 0, .int .i64 0])).run Tryz.prog w = .ok ((p == 0) && (q == 0)) w := by
  obtain ⟨i0, hi, hz0, hz1, hz2⟩ := info_parts Tryz.i3
  unfold Op.equalIn
  have hr : ∀ a b, (Op.equalIn (d + 1) 3 (.int .i64 a) (.int .i64 b)).run Tryz.prog w = .ok (a == b) w := fun a b => run_equalIn_int w d 3 .i64 .i64 a b Tryz.u3
  simp [run_underlying Tryz.u122, sizeOf, typeInfo, hi, hz1, part, go_sem, hr, Std.Legacy.Range.forIn_eq_forIn_range', List.range', List.forIn_cons]
  by_cases hp : p = 0 <;> by_cases hq : q = 0 <;> simp [hp, hq]
theorem eqArr (p q : Int) (w : World) : (Op.equalIn 9999 122 (.agg #[.int .i64 p, .int .i64 q]) (.agg #[.int .i64 0, .int .i64 0])).run Tryz.prog w = .ok ((p == 0) && (q == 0)) w := eqArrD 9997 p q w
/-- Both pointers are in their range. -/
def ptrsR (p q : Int) : Bool := decide (0 ≤ p ∧ p ≤ 16 ∧ 0 ≤ q ∧ q ≤ 16)
theorem ptrsR_true {p q : Int} (h : 0 ≤ p ∧ p ≤ 16 ∧ 0 ≤ q ∧ q ≤ 16) : true = ptrsR p q := by simp only [ptrsR]; exact (decide_eq_true h).symm
theorem ptrsR_false {p q : Int} (h : ¬ (0 ≤ p ∧ p ≤ 16 ∧ 0 ≤ q ∧ q ≤ 16)) : false = ptrsR p q := by simp only [ptrsR]; exact (decide_eq_false h).symm

set_option maxRecDepth 100000 in
set_option maxHeartbeats 1600000 in
theorem ptrs_any (k l p q : Int) (w : World) :
    Calls Tryz.prog 113 #[.agg #[.int .i64 k, .int .i64 l, .int .i64 p, .int .i64 q]] w fun e w' => e = .returned (.bool (ptrsR p q)) ∧ Below w.heap.size w w' := by
  have a0 := arr0 p q
  have a1 := arr1 p q
  go_enter Tryz.func113, Tryz.ntmps113
  go_wp2
  go_rounds 3
  all_goals (go_ret; refine ⟨ret_bool ?_, by go_grown⟩)
  all_goals first | (refine ptrsR_true ?_; omega) | (refine ptrsR_false ?_; omega) 

theorem okR_of_ptrs {k l p q : Int} (hk : k = 1 ∨ k = 2) (h0 : 0 ≤ l) (h1 : l ≤ 200) : ptrsR p q = okR k l p q := by
  by_cases h : 0 ≤ p ∧ p ≤ 16 ∧ 0 ≤ q ∧ q ≤ 16
  · rw [← ptrsR_true h, ← okR_true (by omega)]
  · rw [← ptrsR_false h, ← okR_false (by omega)]
set_option maxRecDepth 100000 in
set_option maxHeartbeats 1600000 in
theorem right_anyI (k l p q : Int) (w : World) :
    Calls Tryz.prog 97 #[.agg #[.int .i64 k, .int .i64 l, .int .i64 p, .int .i64 q]] w fun e w' => e = .returned (.bool (okR k l p q)) ∧ Below w.heap.size w w' := by
  have eA := eqArr p q
  by_cases h0 : k = 0
  · subst h0
    go_enter Tryz.func97, Tryz.ntmps97
    go_wp2
    all_goals (go_ret; refine ⟨ret_bool ?_, by go_grown⟩)
    all_goals first | (refine okR_true ?_; omega) | (refine okR_false ?_; omega)
  have k0 : (k == 0) = false := by simpa using h0
  by_cases h1 : k = 1
  · subst h1
    have HP := hide (okR_of_ptrs (k := 1) (l := l) (p := p) (q := q) (.inl rfl))
    clear eA k0 h0
    go_enter Tryz.func97, Tryz.ntmps97
    go_wp2_with (go_at_call 113; refine (ptrs_any _ _ _ _ _).mono ?_; rintro e w1 ⟨rfl, B1⟩)
    all_goals go_ret
    all_goals first | (refine ⟨ret_bool ?_, by go_grown⟩; refine okR_false ?_; omega) | (refine ⟨ret_bool (HP.out ‹_› ‹_›), ((Below.refl _ w).alloc (Nat.le_refl _) _).trans (B1.mono (by simp))⟩)
  have k1 : (k == 1) = false := by simpa using h1
  by_cases h2 : k = 2
  · subst h2
    have HP := hide (okR_of_ptrs (k := 2) (l := l) (p := p) (q := q) (.inr rfl))
    clear eA k0 h0 k1 h1
    go_enter Tryz.func97, Tryz.ntmps97
    go_wp2_with (go_at_call 113; refine (ptrs_any _ _ _ _ _).mono ?_; rintro e w1 ⟨rfl, B1⟩)
    all_goals go_ret
    all_goals first | (refine ⟨ret_bool ?_, by go_grown⟩; refine okR_false ?_; omega) | (refine ⟨ret_bool (HP.out ‹_› ‹_›), ((Below.refl _ w).alloc (Nat.le_refl _) _).trans (B1.mono (by simp))⟩)
  have k2 : (k == 2) = false := by simpa using h2
  have HP := hide (okR_false (k := k) (l := l) (p := p) (q := q) (by omega))
  clear eA h0 h1 h2
  go_enter Tryz.func97, Tryz.ntmps97
  go_wp2
  go_ret
  exact ⟨ret_bool HP.out, by go_grown⟩
end Go.Proofs.YtbebgnknjoclkaaGreat
/- impl.recordOf and impl.InodeOk by their contracts. -/
namespace Go.Proofs.YtbebgnknjoclkaaGreat
open Go.RowKit Kit

set_option maxRecDepth 100000 in
set_option maxHeartbeats 1600000 in
theorem recordOf_two (k l p q : Int) (v : Value) (w : World) (hv : RInts w v [p, q]) :
    Calls Tryz.prog 96 #[.agg #[.int .i64 k, .int .i64 l, v]] w fun e w' => e = .returned (.tuple #[.agg #[.int .i64 k, .int .i64 l, .int .i64 p, .int .i64 q], .bool true]) ∧ Below w.heap.size w w' := by
  obtain ⟨g, off, c, rfl, hg, c0, c1⟩ := RInts.two hv
  clear hv
  have hg1 : g < w.heap.size + 1 := by omega
  have hg2 : g < w.heap.size + 1 + 1 := by omega
  go_enter Tryz.func96, Tryz.ntmps96
  go_wp2
  go_rounds 3
  refine bodyPost_ret (v := .tuple #[.agg #[.int .i64 k, .int .i64 l, .int .i64 p, .int .i64 q], .bool true]) (by simp [results, go_sem]) rfl ⟨rfl, by go_grown⟩

set_option maxRecDepth 100000 in
set_option maxHeartbeats 1600000 in
theorem recordOf_other (k l : Int) (xs : List Int) (v : Value) (w : World) (hv : RInts w v xs) (hn : xs.length ≠ 2) :
    Calls Tryz.prog 96 #[.agg #[.int .i64 k, .int .i64 l, v]] w fun e w' => e = .returned (.tuple #[.agg #[.int .i64 0, .int .i64 0, .int .i64 0, .int .i64 0], .bool false]) ∧ Below w.heap.size w w' := by
  obtain ⟨a, c, rfl, -⟩ := hv
  generalize xs.length = n at *
  have h1 : ((n : Int) != 2) = true := by simp; omega
  go_enter Tryz.func96, Tryz.ntmps96
  go_wp2
  refine bodyPost_ret (v := .tuple #[.agg #[.int .i64 0, .int .i64 0, .int .i64 0, .int .i64 0], .bool false]) (by simp [results, go_sem]) rfl ⟨rfl, by go_grown⟩

set_option maxHeartbeats 1600000 in
theorem implOk_two (k l p q : Int) (v : Value) (w : World) (hv : RInts w v [p, q]) :
    Calls Tryz.prog 75 #[.agg #[.int .i64 k, .int .i64 l, v]] w fun e w' => e = .returned (.bool (okR k l p q)) ∧ Below w.heap.size w w' := by
  have HV := hide hv
  obtain ⟨g, off, c, rfl, -⟩ := RInts.two hv
  clear hv
  go_enter Tryz.func75, Tryz.ntmps75
  go_wp2_with fail
  refine (recordOf_two k l p q _ _ (HV.out.alloc _)).mono ?_
  rintro e w1 ⟨rfl, B1⟩
  have HB1 := hide B1
  clear B1
  go_wp2_with fail
  refine (right_anyI k l p q _).mono ?_
  rintro e w2 ⟨rfl, B2⟩
  have HB2 := hide B2
  clear B2
  go_wp2
  go_ret
  have h1 : Below w.heap.size w w1 := ((Below.refl _ w).alloc (Nat.le_refl _) _).trans (HB1.out.mono (by simp))
  exact ⟨rfl, (h1.alloc h1.size _).trans (HB2.out.mono (by have := h1.size; simp; omega))⟩

set_option maxHeartbeats 1600000 in
theorem implOk_other (k l : Int) (xs : List Int) (v : Value) (w : World) (hv : RInts w v xs) (hn : xs.length ≠ 2) :
    Calls Tryz.prog 75 #[.agg #[.int .i64 k, .int .i64 l, v]] w fun e w' => e = .returned (.bool false) ∧ Below w.heap.size w w' := by
  have HV := hide hv
  obtain ⟨a, c, rfl, -⟩ := hv
  go_enter Tryz.func75, Tryz.ntmps75
  go_wp2_with fail
  refine (recordOf_other k l xs _ _ (HV.out.alloc _) hn).mono ?_
  rintro e w1 ⟨rfl, B1⟩
  have HB1 := hide B1
  clear B1
  go_wp2
  go_ret
  have h1 : Below w.heap.size w w1 := ((Below.refl _ w).alloc (Nat.le_refl _) _).trans (HB1.out.mono (by simp))
  exact ⟨rfl, h1.alloc h1.size _⟩
end Go.Proofs.YtbebgnknjoclkaaGreat
/- spec.InodeText by its contract. -/
namespace Go.Proofs.YtbebgnknjoclkaaGreat
open Go.RowKit Kit
/-- Four bytes as a string. -/
def quadB (a b c d : Nat) : ByteArray := ⟨#[UInt8.ofNat a, UInt8.ofNat b, UInt8.ofNat c, UInt8.ofNat d]⟩
theorem quadB_size (a b c d : Nat) : (quadB a b c d).size = 4 := rfl
theorem Tryz.u9 : Tryz.prog.underlying 9 = some .string := by kernel_rfl
theorem Tryz.u5 : Tryz.prog.underlying 5 = some (.int .u8) := by kernel_rfl
theorem conv_quad (a b c d : Nat) (ha : a < 256) (hb : b < 256) (hc : c < 256) (hd : d < 256) (W : World) (B C : Nat)
    (h0 : W.cell? ⟨B, 0, none⟩ = some (.int .u8 a)) (h1 : W.cell? ⟨B, 1, none⟩ = some (.int .u8 b)) (h2 : W.cell? ⟨B, 2, none⟩ = some (.int .u8 c)) (h3 : W.cell? ⟨B, 3, none⟩ = some (.int .u8 d)) :
    (convert 117 9 (.slice (some ⟨B, 0, none⟩) 4 C)).run Tryz.prog W = .ok (.string (quadB a b c d)) W := by
  refine run_convert_bytes_back (P := Tryz.prog) W 117 9 5 ⟨B, 0, none⟩ C [UInt8.ofNat a, UInt8.ofNat b, UInt8.ofNat c, UInt8.ofNat d] Tryz.u117 Tryz.u5 Tryz.u9 ?_
  intro j hj
  simp at hj
  match j, hj with
  | 0, _ => simp [Addr.add, h0, UInt8.toNat_ofNat']; omega
  | 1, _ => simp [Addr.add, h1, UInt8.toNat_ofNat']; omega
  | 2, _ => simp [Addr.add, h2, UInt8.toNat_ofNat']; omega
  | 3, _ => simp [Addr.add, h3, UInt8.toNat_ofNat']; omega

end Go.Proofs.YtbebgnknjoclkaaGreat
/- impl.InodeText by its contract. -/
namespace Go.Proofs.YtbebgnknjoclkaaGreat
open Go.RowKit Kit

theorem conv_quad4 (a b c d : Nat) (ha : a < 256) (hb : b < 256) (hc : c < 256) (hd : d < 256) (W : World) (o1 o2 o3 : Obj) :
    (convert 117 9 (.slice (some ⟨W.heap.size, 0, none⟩) 4 4)).run Tryz.prog ((((W.alloc (.cells #[.int .u8 a, .int .u8 b, .int .u8 c, .int .u8 d] 5)).alloc o1).alloc o2).alloc o3) = .ok (.string (quadB a b c d)) ((((W.alloc (.cells #[.int .u8 a, .int .u8 b, .int .u8 c, .int .u8 d] 5)).alloc o1).alloc o2).alloc o3) := by
  have K : ((((W.alloc (.cells #[.int .u8 a, .int .u8 b, .int .u8 c, .int .u8 d] 5)).alloc o1).alloc o2).alloc o3).heap[W.heap.size]? = some (.cells #[.int .u8 a, .int .u8 b, .int .u8 c, .int .u8 d] 5 (0, 0)) :=
    (Below.heap_alloc _ _ _ (by simp; omega)).trans (heap_new3 W _ _ _)
  generalize ((((W.alloc (.cells #[.int .u8 a, .int .u8 b, .int .u8 c, .int .u8 d] 5)).alloc o1).alloc o2).alloc o3) = W' at *
  exact conv_quad a b c d ha hb hc hd W' _ _ (by simp [World.cell?, K]) (by simp [World.cell?, K]) (by simp [World.cell?, K]) (by simp [World.cell?, K])

end Go.Proofs.YtbebgnknjoclkaaGreat
/- An inode that came in: where it lies, and spec's and impl's InodeOk and InodeText at every list of pointers. -/
namespace Go.Proofs.YtbebgnknjoclkaaGreat.Kit
open Go.RowKit
/-- A variable of a type like an inode's lies in block b. -/
def AtT (T : TypeId) (w : World) (b : Nat) (k l : Int) (v : Value) : Prop := w.heap[b]? = some (.cells #[.int .i64 k, .int .i64 l, v] T (0, 0))
theorem AtT.lt {T : TypeId} {w : World} {b : Nat} {k l : Int} {v : Value} (h : AtT T w b k l v) : b < w.heap.size := (Array.getElem?_eq_some_iff.1 h).1
theorem AtT.new (T : TypeId) (w : World) (k l : Int) (v : Value) : AtT T (w.alloc (.cells #[.int .i64 k, .int .i64 l, v] T)) w.heap.size k l v := heap_new w _
theorem AtT.alloc {T : TypeId} {w : World} {b : Nat} {k l : Int} {v : Value} (h : AtT T w b k l v) (o : Obj) : AtT T (w.alloc o) b k l v := (Below.heap_alloc _ _ _ h.lt).trans h
theorem AtT.below {T : TypeId} {w w' : World} {b B : Nat} {k l : Int} {v : Value} (h : AtT T w b k l v) (hb : Below B w w') (hB : b < B) : AtT T w' b k l v := (hb.block b hB).trans h
theorem AtT.grown {T : TypeId} {w w' : World} {b : Nat} {k l : Int} {v : Value} {row : Option Nat} (h : AtT T w b k l v) (hg : w.grownBy w' row) (hr : row ≠ some b) : AtT T w' b k l v := (hg.block b h.lt (fun e => hr e.symm)).trans h
theorem AtT.cells {T : TypeId} {w : World} {b : Nat} {k l : Int} {v : Value} (h : AtT T w b k l v) :
    w.cell? ⟨b, 0, none⟩ = some (.int .i64 k) ∧ w.cell? ⟨b, 1, none⟩ = some (.int .i64 l) ∧ w.cell? ⟨b, 2, none⟩ = some v := by
  have h' : w.heap[b]? = some (.cells #[.int .i64 k, .int .i64 l, v] T (0, 0)) := h
  exact ⟨by simp [World.cell?, h'], by simp [World.cell?, h'], by simp [World.cell?, h']⟩
theorem RInts.drew {w : World} {v : Value} {xs : List Int} (h : RInts w v xs) : RInts w.drew v xs := h.below (Below.refl w.heap.size w).drew (Nat.le_refl _)
end Go.Proofs.YtbebgnknjoclkaaGreat.Kit
namespace Go.Proofs.YtbebgnknjoclkaaGreat
open Go.RowKit Kit
/-- An inode is right. -/
def okL (k l : Int) : List Int → Bool
  | [p, q] => okR k l p q
  | _ => false
theorem okL_other (k l : Int) (xs : List Int) (h : xs.length ≠ 2) : okL k l xs = false := by
  match xs, h with
  | [], _ => rfl
  | [_], _ => rfl
  | [_, _], h => exact absurd rfl h
  | _ :: _ :: _ :: _, _ => rfl
theorem two_or (xs : List Int) : (∃ p q, xs = [p, q]) ∨ xs.length ≠ 2 := by
  match xs with
  | [] => right; simp
  | [_] => right; simp
  | [p, q] => left; exact ⟨p, q, rfl⟩
  | _ :: _ :: _ :: _ => right; simp
theorem specOk_anyI (k l : Int) (xs : List Int) (v : Value) (w : World) (hv : RInts w v xs) :
    Calls Tryz.prog 69 #[.agg #[.int .i64 k, .int .i64 l, v]] w fun e w' => e = .returned (.bool (okL k l xs)) ∧ Below w.heap.size w w' := by
  rcases two_or xs with ⟨p, q, rfl⟩ | h
  · exact specOk_two k l p q v w hv
  · rw [okL_other k l xs h]; exact specOk_other k l xs v w hv h
theorem implOk_anyI (k l : Int) (xs : List Int) (v : Value) (w : World) (hv : RInts w v xs) :
    Calls Tryz.prog 75 #[.agg #[.int .i64 k, .int .i64 l, v]] w fun e w' => e = .returned (.bool (okL k l xs)) ∧ Below w.heap.size w w' := by
  rcases two_or xs with ⟨p, q, rfl⟩ | h
  · exact implOk_two k l p q v w hv
  · rw [okL_other k l xs h]; exact implOk_other k l xs v w hv h
/-- The bytes of an inode, nothing where it is not right. -/
def textL (k l : Int) (xs : List Int) : ByteArray := if okL k l xs then quadB k.toNat l.toNat (xs.getD 0 0).toNat (xs.getD 1 0).toNat else ⟨#[]⟩
theorem okR_bounds {k l p q : Int} (h : okR k l p q = true) : (0 ≤ k ∧ k ≤ 2) ∧ (0 ≤ l ∧ l ≤ 200) ∧ (0 ≤ p ∧ p ≤ 16) ∧ (0 ≤ q ∧ q ≤ 16) := by
  have h' := of_decide_eq_true h
  omega
end Go.Proofs.YtbebgnknjoclkaaGreat
/- spec.NameOk and impl.NameOk by their contracts, and the walk of laws.FnExactNameOk. -/
namespace Go.Proofs.YtbebgnknjoclkaaGreat.Kit
open Go.RowKit
/-- A byte of a name. -/
def chN (c : Nat) : Bool := decide ((97 ≤ c ∧ c ≤ 122) ∨ (48 ≤ c ∧ c ≤ 57))
/-- A name is right. -/
def nameOk (s : ByteArray) : Bool := decide ((1 ≤ s.size ∧ s.size ≤ 6) ∧ ∀ (j : Nat) (h : j < s.size), chN (s[j]).toNat = true)
theorem nameOk_len {s : ByteArray} (h : s.size < 1 ∨ 6 < s.size) : false = nameOk s := by
  unfold nameOk
  exact (decide_eq_false (by omega)).symm
theorem nameOk_bad {s : ByteArray} {j c : Nat} (h : j < s.size) (hc : (s[j]).toNat = c) (hb : ¬ ((97 ≤ c ∧ c ≤ 122) ∨ (48 ≤ c ∧ c ≤ 57))) : false = nameOk s := by
  unfold nameOk
  refine (decide_eq_false ?_).symm
  rintro ⟨_, h2⟩
  have := h2 j h
  rw [hc] at this
  exact hb (of_decide_eq_true this)
theorem nameOk_all {s : ByteArray} (h : 1 ≤ s.size ∧ s.size ≤ 6) (ha : ∀ (j : Nat) (h : j < s.size), chN (s[j]).toNat = true) : true = nameOk s := by
  unfold nameOk
  exact (decide_eq_true ⟨h, ha⟩).symm
theorem nameOk_size {s : ByteArray} (h : nameOk s = true) : 1 ≤ s.size ∧ s.size ≤ 6 := (of_decide_eq_true h).1
/-- The first j bytes are a name's. -/
def upTo (s : ByteArray) (j : Nat) : Prop := ∀ (i : Nat) (h : i < s.size), i < j → chN (s[i]).toNat = true
theorem upTo_zero (s : ByteArray) : upTo s 0 := fun _ _ h => absurd h (Nat.not_lt_zero _)
theorem upTo_next {s : ByteArray} {j c : Nat} (hu : upTo s j) (h : j < s.size) (hc : (s[j]).toNat = c) (hg : (97 ≤ c ∧ c ≤ 122) ∨ (48 ≤ c ∧ c ≤ 57)) : upTo s (j + 1) := fun i hi hlt => by
  by_cases he : i = j
  · subst he; rw [hc]; exact decide_eq_true hg
  · exact hu i hi (by omega)
theorem upTo_all {s : ByteArray} {j : Nat} (hu : upTo s j) (h : s.size ≤ j) : ∀ (j : Nat) (h : j < s.size), chN (s[j]).toNat = true := fun i hi => hu i hi (by omega)
theorem emp_true {s : ByteArray} (h : s.size = 0) : s.toList.isEmpty = true := by
  rw [List.isEmpty_iff, ByteArray.toList_eq, ← List.length_eq_zero_iff]
  exact h
theorem emp_false {s : ByteArray} (h : 0 < s.size) : s.toList.isEmpty = false := by
  rw [List.isEmpty_eq_false_iff, ByteArray.toList_eq]
  intro e
  have h2 : s.data.toList.length = s.size := rfl
  rw [e, List.length_nil] at h2
  omega
end Go.Proofs.YtbebgnknjoclkaaGreat.Kit
namespace Go.Proofs.YtbebgnknjoclkaaGreat
open Go.RowKit Kit
set_option maxRecDepth 100000 in
set_option maxHeartbeats 1600000 in
theorem specName_any (s : ByteArray) (w : World) (hs : s.size ≤ 1048576) :
    Calls Tryz.prog 94 #[.string s] w fun e w' => e = .returned (.bool (nameOk s)) ∧ Below w.heap.size w w' := by
  obtain ⟨r, hr⟩ : ∃ r, nameOk s = r := ⟨_, rfl⟩
  have HR := hide hr
  rw [hr]
  clear hr
  go_enter Tryz.func94, Tryz.ntmps94
  go_wp2
  go_loop [3] (fun i => ∃ j : Nat, j ≤ s.size ∧ i = .int .i64 j ∧ Hid (upTo s j)) (fun i => s.size - (intOf i).toNat)
  case atStart => exact ⟨0, Nat.zero_le _, rfl, upTo_zero s⟩
  case round =>
    obtain ⟨j, hj, rfl, HU⟩ := hrel
    by_cases hlt : j < s.size
    · obtain ⟨c, hc⟩ : ∃ c : Nat, (s[j]).toNat = c := ⟨_, rfl⟩
      have hc1 : c < 256 := by rw [← hc]; exact (s[j]).toNat_lt
      have HC := hide hc
      have j0 : (0 : Int) ≤ (j : Int) := by omega
      have j1 : (j : Int) < (s.size : Int) := by omega
      go_wp2
      all_goals first | (go_ret; refine ⟨ret_bool ?_, Below.refl _ _⟩; rw [← HR.out]; exact nameOk_bad hlt HC.out (by omega)) | skip
      all_goals go_round
      all_goals first | (simp [intOf]; omega) | exact ⟨j + 1, by omega, by go_num, upTo_next HU.out hlt HC.out (by omega)⟩
    · go_wp2_with (go_at_call 72; refine (l01In_any _ _ _ _).mono ?_; rintro e w1 ⟨rfl, rfl⟩)
      go_ret
      refine ⟨ret_bool ?_, Below.refl _ _⟩
      rw [← HR.out]
      by_cases h : 1 ≤ s.size ∧ s.size ≤ 6
      · rw [← nameOk_all h (upTo_all HU.out (by omega))]; simp [inB]; omega
      · rw [← nameOk_len (by omega)]; simp [inB]; omega

set_option maxRecDepth 100000 in
set_option maxHeartbeats 1600000 in
theorem implName_in (s : ByteArray) (w : World) (h0 : 1 ≤ s.size) (h6 : s.size ≤ 6) :
    Calls Tryz.prog 120 #[.string s] w fun e w' => e = .returned (.bool (nameOk s)) ∧ Below w.heap.size w w' := by
  obtain ⟨r, hr⟩ : ∃ r, nameOk s = r := ⟨_, rfl⟩
  have HR := hide hr
  rw [hr]
  clear hr
  have he := emp_false (s := s) (by omega)
  have h7 : decide (6 < (s.size : Int)) = false := by simp; omega
  have hbs := fun W => run_bytes_of_string (P := Tryz.prog) W 9 117 5 s Tryz.underlying9 Tryz.underlying117 Tryz.underlying5
  go_enter Tryz.func120, Tryz.ntmps120
  go_wp2
  go_loopw [4, 15] (fun _ i wr => ∃ j : Nat, j ≤ s.size ∧ i = .int .i64 j ∧ Hid (upTo s j) ∧ Below w.heap.size w wr ∧ Lies wr w.heap.size s) (fun _ i _ => s.size - (intOf i).toNat)
  case atStart => exact ⟨0, Nat.zero_le _, rfl, upTo_zero s, ((Below.refl _ w).alloc (Nat.le_refl _) _).drew, (lies_new w s _ _ _).of_heap rfl⟩
  case round =>
    obtain ⟨j, hj, rfl, HU, hb, hlies⟩ := hrel
    by_cases hlt : j < s.size
    · obtain ⟨c, hc⟩ : ∃ c : Nat, (s[j]).toNat = c := ⟨_, rfl⟩
      have hc1 : c < 256 := by rw [← hc]; exact (s[j]).toNat_lt
      have HC := hide hc
      have hcell := hlies.cell j hlt
      rw [hc] at hcell
      clear hc
      have HL := hide hlies
      have HB := hide hb
      clear hlies hb
      have j0 : (0 : Int) ≤ (j : Int) := by omega
      have j1 : (j : Int) < (s.size : Int) := by omega
      go_wp2
      all_goals first | (go_ret; refine ⟨ret_bool ?_, HB.out⟩; rw [← HR.out]; exact nameOk_bad hlt HC.out (by omega)) | skip
      all_goals go_roundw
      all_goals first | (simp [intOf]; omega) | exact ⟨j + 1, by omega, by go_num, upTo_next HU.out hlt HC.out (by omega), HB.out, HL.out⟩
    · have HB := hide hb
      clear hlies hb
      go_wp2
      go_ret
      refine ⟨ret_bool ?_, HB.out⟩
      rw [← HR.out]
      exact nameOk_all ⟨h0, h6⟩ (upTo_all HU.out (by omega))
theorem implName_out (s : ByteArray) (w : World) (h : s.size < 1 ∨ 6 < s.size) :
    Calls Tryz.prog 120 #[.string s] w fun e w' => e = .returned (.bool (nameOk s)) ∧ Below w.heap.size w w' := by
  rw [← nameOk_len h]
  by_cases h0 : s.size < 1
  · have he := emp_true (s := s) (by omega)
    go_enter Tryz.func120, Tryz.ntmps120
    go_wp2
    go_ret
    exact ⟨rfl, Below.refl _ _⟩
  · have he := emp_false (s := s) (by omega)
    have h6 : 6 < s.size := by omega
    go_enter Tryz.func120, Tryz.ntmps120
    go_wp2
    go_ret
    exact ⟨rfl, Below.refl _ _⟩
theorem implName_any (s : ByteArray) (w : World) :
    Calls Tryz.prog 120 #[.string s] w fun e w' => e = .returned (.bool (nameOk s)) ∧ Below w.heap.size w w' := by
  by_cases h : 1 ≤ s.size ∧ s.size ≤ 6
  · exact implName_in s w h.1 h.2
  · exact implName_out s w (by omega)
namespace fnExactNameOk
end fnExactNameOk
end Go.Proofs.YtbebgnknjoclkaaGreat
/- impl.placeOf, impl.SlotOf and spec.SlotOf by their contracts. -/
namespace Go.Proofs.YtbebgnknjoclkaaGreat.Kit
open Go.RowKit
/-- The place of a name, from k on. -/
def plF (name : ByteArray) : Nat → List Sl → Int
  | _, [] => -1
  | k, s :: r => if s.1 = name then (k : Int) else plF name (k + 1) r
/-- The place of a name. -/
def placeR (xs : List Sl) (name : ByteArray) : Int := if name.size = 0 then -1 else plF name 0 xs
theorem placeR_empty (xs : List Sl) {name : ByteArray} (h : name.size = 0) : placeR xs name = -1 := if_pos h
theorem placeR_start (xs : List Sl) {name : ByteArray} (h : name.size ≠ 0) : placeR xs name = plF name 0 (xs.drop 0) := if_neg h
theorem pl_hit {R : Int} {xs : List Sl} {name : ByteArray} {j : Nat} (h : j < xs.length) (hp : R = plF name j (xs.drop j)) (hq : xs[j].1 = name) : R = (j : Int) := by
  rw [hp, List.drop_eq_getElem_cons h, plF, if_pos hq]
theorem pl_next {R : Int} {xs : List Sl} {name : ByteArray} {j : Nat} (h : j < xs.length) (hp : R = plF name j (xs.drop j)) (hq : ¬ xs[j].1 = name) : R = plF name (j + 1) (xs.drop (j + 1)) := by
  rw [hp, List.drop_eq_getElem_cons h, plF, if_neg hq]
theorem pl_end {R : Int} {xs : List Sl} {name : ByteArray} {j : Nat} (h : xs.length ≤ j) (hp : R = plF name j (xs.drop j)) : R = -1 := by
  rw [hp, List.drop_of_length_le h, plF]
theorem beq_true {a b : ByteArray} (h : a = b) : (a.toList == b.toList) = true := by rw [h]; simp
theorem beq_false {a b : ByteArray} (h : ¬ a = b) : (a.toList == b.toList) = false := by
  rw [beq_eq_false_iff_ne, ByteArray.toList_eq, ByteArray.toList_eq]
  intro e
  exact h (ByteArray.ext (Array.toList_inj.1 e))
theorem ret_int {a b : Int} (h : a = b) : Ending.returned (.int .i64 a) = .returned (.int .i64 b) := by rw [h]
end Go.Proofs.YtbebgnknjoclkaaGreat.Kit
namespace Go.Proofs.YtbebgnknjoclkaaGreat
open Go.RowKit Kit
set_option maxRecDepth 100000 in
set_option maxHeartbeats 1600000 in
theorem placeOf_some (v : Value) (xs : List Sl) (name : ByteArray) (w : World) (hv : RSl w v xs) (hl : xs.length ≤ 1048576) (hn : name.size ≠ 0) :
    Calls Tryz.prog 115 #[v, .string name] w fun e w' => e = .returned (.int .i64 (placeR xs name)) ∧ Below w.heap.size w w' := by
  obtain ⟨a, c, rfl, -, hc⟩ := hv
  have HC := hide hc
  clear hc
  have HR := hide (placeR_start xs hn)
  obtain ⟨R, hR⟩ : ∃ R, placeR xs name = R := ⟨_, rfl⟩
  rw [hR] at HR ⊢
  clear hR
  have he := emp_false (s := name) (by omega)
  go_enter Tryz.func115, Tryz.ntmps115
  go_wp2
  go_loopw [5, 6, 11] (fun _ _ i wr => ∃ j : Nat, j ≤ xs.length ∧ i = .int .i64 j ∧ Hid (R = plF name j (xs.drop j)) ∧ Below w.heap.size w wr) (fun _ _ i _ => xs.length - (intOf i).toNat)
  case atStart => exact ⟨0, Nat.zero_le _, rfl, HR, Below.refl _ _⟩
  case round =>
    obtain ⟨j, hj, rfl, HP, hb⟩ := hrel
    by_cases hlt : j < xs.length
    · obtain ⟨g, off, rfl, hg, k1, k2⟩ := HC.out j hlt
      have q1 := (hb.cell (p := ⟨g, off + j * 2, none⟩) hg).trans k1
      have q2 := (hb.cell (p := ⟨g, off + j * 2 + 1, none⟩) hg).trans k2
      have hsz := hb.size
      have j0 : (0 : Int) ≤ (j : Int) := by omega
      have j1 : (j : Int) < (xs.length : Int) := by omega
      obtain ⟨t, ht⟩ : ∃ t, xs[j].1 = t := ⟨_, rfl⟩
      obtain ⟨z, hz⟩ : ∃ z, xs[j].2 = z := ⟨_, rfl⟩
      rw [ht] at q1
      rw [hz] at q2
      have HT := hide ht
      have HB := hide hb
      clear k1 k2 ht hz hb
      by_cases hq : t = name
      · have b1 := beq_true hq
        have HH := hide (pl_hit hlt HP.out (HT.out.trans hq))
        clear hq
        go_wp2
        go_ret
        exact ⟨ret_int HH.out.symm, HB.out.alloc hsz _⟩
      · have b1 := beq_false hq
        have HH := hide (pl_next hlt HP.out (by rw [HT.out]; exact hq))
        go_wp2
        go_roundw
        case rel => exact ⟨j + 1, by omega, by go_num, HH, HB.out.alloc hsz _⟩
        case measure => simp [intOf]; omega
    · have HH := hide (pl_end (by omega) HP.out)
      have HB := hide hb
      clear hb
      go_wp2
      go_ret
      exact ⟨ret_int HH.out.symm, HB.out⟩

theorem placeOf_none (v : Value) (xs : List Sl) (name : ByteArray) (w : World) (hv : RSl w v xs) (hn : name.size = 0) :
    Calls Tryz.prog 115 #[v, .string name] w fun e w' => e = .returned (.int .i64 (placeR xs name)) ∧ Below w.heap.size w w' := by
  obtain ⟨a, c, rfl, -⟩ := hv
  rw [placeR_empty xs hn]
  have he := emp_true (s := name) hn
  go_enter Tryz.func115, Tryz.ntmps115
  go_wp2
  go_ret
  exact ⟨rfl, Below.refl _ _⟩
theorem placeOf_any (v : Value) (xs : List Sl) (name : ByteArray) (w : World) (hv : RSl w v xs) (hl : xs.length ≤ 1048576) :
    Calls Tryz.prog 115 #[v, .string name] w fun e w' => e = .returned (.int .i64 (placeR xs name)) ∧ Below w.heap.size w w' := by
  by_cases hn : name.size = 0
  · exact placeOf_none v xs name w hv hn
  · exact placeOf_some v xs name w hv hl hn
end Go.Proofs.YtbebgnknjoclkaaGreat
/- (impl.Slot).right by its contract. -/
namespace Go.Proofs.YtbebgnknjoclkaaGreat.Kit
open Go.RowKit
/-- A slot is right by itself. -/
def slotOk (s : Sl) : Bool := decide ((s.1.size = 0 ∧ s.2 = 0) ∨ (nameOk s.1 = true ∧ 1 ≤ s.2 ∧ s.2 ≤ 8))
theorem slotOk_true {t : ByteArray} {z : Int} (h : (t.size = 0 ∧ z = 0) ∨ (nameOk t = true ∧ 1 ≤ z ∧ z ≤ 8)) : true = slotOk (t, z) := (decide_eq_true h).symm
theorem slotOk_false {t : ByteArray} {z : Int} (h : ¬ ((t.size = 0 ∧ z = 0) ∨ (nameOk t = true ∧ 1 ≤ z ∧ z ≤ 8))) : false = slotOk (t, z) := (decide_eq_false h).symm
theorem size_zero {t : ByteArray} (h : t.size = 0) : t = ⟨#[]⟩ := ByteArray.ext (Array.eq_empty_of_size_eq_zero h)
end Go.Proofs.YtbebgnknjoclkaaGreat.Kit
namespace Go.Proofs.YtbebgnknjoclkaaGreat
open Go.RowKit Kit
set_option maxHeartbeats 800000 in
theorem right_anyK (t : ByteArray) (z : Int) (w : World) :
    Calls Tryz.prog 114 #[.agg #[.string t, .int .i64 z]] w fun e w' => e = .returned (.bool (slotOk (t, z))) ∧ Below w.heap.size w w' := by
  obtain ⟨r, hr⟩ : ∃ r, slotOk (t, z) = r := ⟨_, rfl⟩
  have HR := hide hr
  rw [hr]
  clear hr
  by_cases h : t.size = 0 ∧ z = 0
  · obtain ⟨h0, rfl⟩ := h
    have := size_zero h0
    subst this
    have e1 : r = true := by rw [← HR.out]; rfl
    subst e1
    go_enter Tryz.func114, Tryz.ntmps114
    go_wp2
    go_ret
    exact ⟨rfl, by go_grown⟩
  · obtain ⟨n, hn⟩ : ∃ n, nameOk t = n := ⟨_, rfl⟩
    have C := hide (fun W => implName_any t W)
    rw [hn] at C
    have HN := hide hn
    have HH := hide h
    have he : ¬ (t.toList = [] ∧ z = 0) := fun e => h ⟨by have h2 : t.data.toList.length = t.size := rfl; rw [← h2, ← ByteArray.toList_eq, e.1]; rfl, e.2⟩
    have fin : ∀ b : Bool, (b = true ↔ (n = true ∧ 1 ≤ z ∧ z ≤ 8)) → b = r := by
      intro b hb
      rw [← HR.out]
      cases b with
      | true => exact slotOk_true (.inr ⟨by rw [HN.out]; exact (hb.1 rfl).1, (hb.1 rfl).2⟩)
      | false => exact slotOk_false (by rintro (h1 | h1); exact HH.out h1; rw [HN.out] at h1; have := hb.2 h1; cases this)
    have HF := hide fin
    have HE := hide he
    clear hn h fin he
    cases n with
    | true =>
      go_enter Tryz.func114, Tryz.ntmps114
      go_wp2_with (go_at_call 120; refine (C.out _).mono ?_; rintro e w1 ⟨rfl, hb1⟩; obtain ⟨q0, q1, q2⟩ := AtC.two ((AtC.new w 74 #[.string t, .int .i64 z]).over hb1))
      all_goals first | exact absurd ⟨‹t.toList = []›, ‹z = 0›⟩ HE.out | (go_ret; refine ⟨ret_bool (HF.out _ ?_), ((Below.refl _ w).alloc (Nat.le_refl _) _).trans (hb1.mono (by simp))⟩; simp; try omega)
    | false =>
      go_enter Tryz.func114, Tryz.ntmps114
      go_wp2_with (go_at_call 120; refine (C.out _).mono ?_; rintro e w1 ⟨rfl, hb1⟩)
      all_goals first | exact absurd ⟨‹t.toList = []›, ‹z = 0›⟩ HE.out | (go_ret; refine ⟨ret_bool (HF.out _ ?_), ((Below.refl _ w).alloc (Nat.le_refl _) _).trans (hb1.mono (by simp))⟩; simp; try omega)
end Go.Proofs.YtbebgnknjoclkaaGreat
/- impl.slotsRight and impl.BlockOk by their contracts. -/
namespace Go.Proofs.YtbebgnknjoclkaaGreat.Kit
open Go.RowKit
/-- What is asked of slots, one behind the other. -/
def okF : List Sl → List Sl → Bool
  | _, [] => true
  | ahead, s :: r => slotOk s && decide (placeR ahead s.1 < 0) && okF (ahead ++ [s]) r
/-- The slots of a directory are right. -/
def slotsOk (xs : List Sl) : Bool := decide (xs.length = 4) && okF [] xs
/-- A block is right. -/
def blockOk (d : Bool) (xs : List Sl) (t : ByteArray) : Bool := if d then decide (t.size = 0) && slotsOk xs else decide (xs.length = 0 ∧ t.size ≤ 16)
theorem ok_start {xs : List Sl} (h : xs.length = 4) : slotsOk xs = okF (xs.take 0) (xs.drop 0) := by simp [slotsOk, h]
theorem ok_other {xs : List Sl} (h : xs.length ≠ 4) : slotsOk xs = false := by simp [slotsOk, h]
theorem ok_next {R : Bool} {xs : List Sl} {j : Nat} (h : j < xs.length) (hp : R = okF (xs.take j) (xs.drop j)) (h1 : slotOk xs[j] = true) (h2 : placeR (xs.take j) xs[j].1 < 0) : R = okF (xs.take (j + 1)) (xs.drop (j + 1)) := by
  rw [hp, List.drop_eq_getElem_cons h, okF, h1, decide_eq_true h2, List.take_succ_eq_append_getElem h]
  rfl
theorem ok_bad {R : Bool} {xs : List Sl} {j : Nat} (h : j < xs.length) (hp : R = okF (xs.take j) (xs.drop j)) (h1 : slotOk xs[j] = false) : R = false := by
  rw [hp, List.drop_eq_getElem_cons h, okF, h1]
  rfl
theorem ok_twice {R : Bool} {xs : List Sl} {j : Nat} (h : j < xs.length) (hp : R = okF (xs.take j) (xs.drop j)) (h2 : ¬ placeR (xs.take j) xs[j].1 < 0) : R = false := by
  rw [hp, List.drop_eq_getElem_cons h, okF, decide_eq_false h2]
  simp
theorem ok_end {R : Bool} {xs : List Sl} {j : Nat} (h : xs.length ≤ j) (hp : R = okF (xs.take j) (xs.drop j)) : R = true := by
  rw [hp, List.drop_of_length_le h, okF]
theorem RSl.take {w : World} {a : Option Addr} {c : Nat} {xs : List Sl} (h : RSl w (.slice a xs.length c) xs) (j : Nat) (hj : j ≤ xs.length) : RSl w (.slice a j c) (xs.take j) := by
  obtain ⟨a', c', e, hcap, h⟩ := h
  simp only [Value.slice.injEq] at e
  obtain ⟨rfl, -, rfl⟩ := e
  have hl : (xs.take j).length = j := by simp; omega
  refine ⟨a, c, by rw [hl], by omega, fun i hi => ?_⟩
  rw [hl] at hi
  obtain ⟨g, off, e, hg, k1, k2⟩ := h i (by omega)
  exact ⟨g, off, e, hg, by simpa using k1, by simpa using k2⟩
end Go.Proofs.YtbebgnknjoclkaaGreat.Kit
namespace Go.Proofs.YtbebgnknjoclkaaGreat
open Go.RowKit Kit
set_option maxRecDepth 100000 in
set_option maxHeartbeats 1600000 in
theorem slotsRight_four (v : Value) (xs : List Sl) (w : World) (hv : RSl w v xs) (hl : xs.length = 4) :
    Calls Tryz.prog 98 #[v] w fun e w' => e = .returned (.bool (slotsOk xs)) ∧ Below w.heap.size w w' := by
  have HV := hide hv
  obtain ⟨a, c, rfl, hcap, hc⟩ := hv
  have HC := hide hc
  have HL := hide hl
  clear hc
  have HR := hide (ok_start hl)
  obtain ⟨R, hR⟩ : ∃ R, slotsOk xs = R := ⟨_, rfl⟩
  rw [hR] at HR ⊢
  rw [hl] at HV hcap ⊢
  clear hR hl
  go_enter Tryz.func98, Tryz.ntmps98
  go_wp2
  go_loopw [3, 4, 10] (fun _ _ i wr => ∃ j : Nat, j ≤ 4 ∧ i = .int .i64 j ∧ Hid (R = okF (xs.take j) (xs.drop j)) ∧ Below w.heap.size w wr) (fun _ _ i _ => 4 - (intOf i).toNat)
  case atStart => exact ⟨0, Nat.zero_le _, rfl, HR, Below.refl _ _⟩
  case round =>
    obtain ⟨j, hj, rfl, HP, hb⟩ := hrel
    by_cases hlt : j < 4
    · have hlx : j < xs.length := by rw [HL.out]; exact hlt
      obtain ⟨g, off, rfl, hg, k1, k2⟩ := HC.out j hlx
      have q1 := (hb.cell (p := ⟨g, off + j * 2, none⟩) hg).trans k1
      have q2 := (hb.cell (p := ⟨g, off + j * 2 + 1, none⟩) hg).trans k2
      have hsz := hb.size
      have j0 : (0 : Int) ≤ (j : Int) := by omega
      have j1 : (j : Int) < 4 := by omega
      have jc : (j : Int) ≤ (c : Int) := by omega
      have HTK := hide ((show RSl w (.slice (some ⟨g, off, none⟩) xs.length c) xs by rw [HL.out]; exact HV.out).take j (by omega))
      have C1 := hide (fun W => right_anyK xs[j].1 xs[j].2 W)
      have C2 := hide (fun W h => placeOf_any (.slice (some ⟨g, off, none⟩) j c) (xs.take j) xs[j].1 W h (by simp; have := HL.out; omega))
      have HBAD := hide (ok_bad hlx HP.out)
      have HTW := hide (ok_twice hlx HP.out)
      have HNX := hide (ok_next hlx HP.out)
      obtain ⟨t, ht⟩ : ∃ t, xs[j].1 = t := ⟨_, rfl⟩
      obtain ⟨z, hz⟩ : ∃ z, xs[j].2 = z := ⟨_, rfl⟩
      obtain ⟨r1, hr1⟩ : ∃ r, slotOk xs[j] = r := ⟨_, rfl⟩
      obtain ⟨r2, hr2⟩ : ∃ r, placeR (xs.take j) xs[j].1 = r := ⟨_, rfl⟩
      have e1 : (xs[j].1, xs[j].2) = xs[j] := rfl
      rw [e1, hr1] at C1
      rw [hr2] at C2 HTW HNX
      rw [hr1] at HBAD HNX
      rw [ht] at q1 C1 C2
      rw [hz] at q2 C1
      have HB := hide hb
      clear k1 k2 ht hz hr1 hr2 e1 hb HP hlx
      have HS : Hid (∀ w', Below (wr.heap.size + 1) (wr.alloc (.cells #[.string t, .int .i64 z] 74)) w' → w'.cell? ⟨wr.heap.size, 0, none⟩ = some (.string t) ∧ w'.cell? ⟨wr.heap.size, 1, none⟩ = some (.int .i64 z)) := fun w' hb => by
        obtain ⟨e0, e1, _⟩ := ((AtC.new wr 74 #[.string t, .int .i64 z]).below hb (by simp)).two
        exact ⟨e0, e1⟩
      have HBW := hide (HB.out.alloc hsz (.cells #[.string t, .int .i64 z] 74))
      cases r1 with
      | false =>
        go_wp2_with fail
        first | (go_region_with (go_at_call 114; refine (C1.out _).mono ?_; rintro e w6 ⟨rfl, B6⟩)) | fail
        all_goals have HBB := hide (HBW.out.trans ((of_drew B6).mono (by simp; omega)))
        all_goals have HQ := hide (HBAD.out trivial)
        all_goals clear B6
        all_goals go_wp2
        all_goals go_ret
        all_goals exact ⟨ret_bool HQ.out.symm, HBB.out⟩
      | true =>
        go_wp2_with fail
        go_region_held3 (fun w' => w'.cell? ⟨wr.heap.size, 0, none⟩ = some (.string t) ∧ w'.cell? ⟨wr.heap.size, 1, none⟩ = some (.int .i64 z)) (first | exact HS.out _ (Below.refl _ _).drew | exact HS.out _ (by simpa using of_drew B6) | exact HS.out _ (by simpa using ((of_drew B6).trans (B7.mono (of_drew B6).size)))) (first | (go_at_call 114; refine (C1.out _).mono ?_; rintro e w6 ⟨rfl, B6⟩) | (go_at_call 115; refine (C2.out _ (HTK.out.below (HBW.out.trans ((of_drew B6).mono (by simp; omega))) (Nat.le_refl _))).mono ?_; rintro e w7 ⟨rfl, B7⟩))
        have HBB := hide (HBW.out.trans (((of_drew B6).trans (B7.mono (of_drew B6).size)).mono (by simp; omega)))
        clear B6 B7
        by_cases hr : 0 ≤ r2
        · have HQ := hide (HTW.out hr)
          go_wp2
          go_ret
          exact ⟨ret_bool HQ.out.symm, HBB.out⟩
        · have HQ := hide (HNX.out trivial (by omega))
          go_wp2
          go_roundw
          case rel => exact ⟨j + 1, by omega, by go_num, HQ, HBB.out⟩
          case measure => simp [intOf]; omega
    · have HH := hide (ok_end (by rw [HL.out]; omega) HP.out)
      have HB := hide hb
      clear hb
      go_wp2
      go_ret
      exact ⟨ret_bool HH.out.symm, HB.out⟩
end Go.Proofs.YtbebgnknjoclkaaGreat
/- impl.BlockOk and spec.BlockOk by their contracts. -/
namespace Go.Proofs.YtbebgnknjoclkaaGreat.Kit
open Go.RowKit
theorem blockOk_dir (xs : List Sl) (t : ByteArray) (h : t.size = 0) : blockOk true xs t = slotsOk xs := by simp [blockOk, h]
theorem blockOk_dirt (xs : List Sl) (t : ByteArray) (h : t.size ≠ 0) : blockOk true xs t = false := by simp [blockOk, h]
theorem blockOk_text (xs : List Sl) (t : ByteArray) : blockOk false xs t = decide (xs.length = 0 ∧ t.size ≤ 16) := by simp [blockOk]
theorem take_at {xs : List Sl} {i j : Nat} (h : i < (xs.take j).length) : (xs.take j)[i] = xs[i]'(by simp at h; omega) := by simp
theorem pl_hit' {R : Int} {xs : List Sl} {name : ByteArray} {j k : Nat} (h : k < j) (hx : j < xs.length) (hp : R = plF name k ((xs.take j).drop k)) (hq : (xs[k]'(by omega)).1 = name) : R = (k : Int) :=
  pl_hit (by simp; omega) hp (by rw [take_at]; exact hq)
theorem pl_next' {R : Int} {xs : List Sl} {name : ByteArray} {j k : Nat} (h : k < j) (hx : j < xs.length) (hp : R = plF name k ((xs.take j).drop k)) (hq : ¬ (xs[k]'(by omega)).1 = name) : R = plF name (k + 1) ((xs.take j).drop (k + 1)) :=
  pl_next (by simp; omega) hp (by rw [take_at]; exact hq)
theorem pl_end' {R : Int} {xs : List Sl} {name : ByteArray} {j k : Nat} (h : j ≤ k) (hp : R = plF name k ((xs.take j).drop k)) : R = -1 :=
  pl_end (by simp; omega) hp
end Go.Proofs.YtbebgnknjoclkaaGreat.Kit
namespace Go.Proofs.YtbebgnknjoclkaaGreat
open Go.RowKit Kit
theorem slotsRight_any (v : Value) (xs : List Sl) (w : World) (hv : RSl w v xs) :
    Calls Tryz.prog 98 #[v] w fun e w' => e = .returned (.bool (slotsOk xs)) ∧ Below w.heap.size w w' := by
  by_cases hl : xs.length = 4
  · exact slotsRight_four v xs w hv hl
  · rw [ok_other hl]
    obtain ⟨a, c, rfl, -⟩ := hv
    generalize xs.length = n at *
    have h1 : ((n : Int) != 4) = true := by simp; omega
    go_enter Tryz.func98, Tryz.ntmps98
    go_wp2
    go_ret
    exact ⟨rfl, Below.refl _ _⟩
theorem implOk_anyK (d : Bool) (v : Value) (t : ByteArray) (xs : List Sl) (w : World) (hv : RSl w v xs) :
    Calls Tryz.prog 76 #[.agg #[.bool d, v, .string t]] w fun e w' => e = .returned (.bool (blockOk d xs t)) ∧ Below w.heap.size w w' := by
  cases d with
  | true =>
    by_cases h : t.size = 0
    · rw [blockOk_dir xs t h]
      have he := emp_true h
      have HV := hide hv
      have C := hide (fun W h => slotsRight_any v xs W h)
      obtain ⟨a, c, rfl, -⟩ := hv
      obtain ⟨R, hR⟩ : ∃ R, slotsOk xs = R := ⟨_, rfl⟩
      rw [hR] at C ⊢
      clear hR h
      go_enter Tryz.func76, Tryz.ntmps76
      go_wp2_with (go_at_call 98; refine (C.out _ (HV.out.alloc _)).mono ?_; rintro e w1 ⟨rfl, hb1⟩)
      go_ret
      exact ⟨rfl, ((Below.refl _ w).alloc (Nat.le_refl _) _).trans (hb1.mono (by simp))⟩
    · rw [blockOk_dirt xs t h]
      have he := emp_false (s := t) (by omega)
      obtain ⟨a, c, rfl, -⟩ := hv
      go_enter Tryz.func76, Tryz.ntmps76
      go_wp2
      go_ret
      exact ⟨rfl, by go_grown⟩
  | false =>
    rw [blockOk_text]
    obtain ⟨a, c, rfl, -⟩ := hv
    generalize xs.length = n at *
    by_cases h : n = 0
    · subst h
      go_enter Tryz.func76, Tryz.ntmps76
      go_wp2
      go_ret
      exact ⟨ret_bool (by simp; omega), by go_grown⟩
    · have h1 : ((n : Int) == 0) = false := by simp; omega
      go_enter Tryz.func76, Tryz.ntmps76
      go_wp2
      go_ret
      exact ⟨ret_bool (by simp [h]), by go_grown⟩
theorem specOk_plain (d : Bool) (v : Value) (t : ByteArray) (xs : List Sl) (w : World) (hv : RSl w v xs) (h : d = false ∨ xs.length ≠ 4 ∨ t.size ≠ 0) :
    Calls Tryz.prog 70 #[.agg #[.bool d, v, .string t]] w fun e w' => e = .returned (.bool (blockOk d xs t)) ∧ Below w.heap.size w w' := by
  cases d with
  | false =>
    rw [blockOk_text]
    obtain ⟨a, c, rfl, -⟩ := hv
    generalize xs.length = n at *
    by_cases h : n = 0
    · subst h
      go_enter Tryz.func70, Tryz.ntmps70
      go_wp2
      go_ret
      exact ⟨ret_bool (by simp; omega), by go_grown⟩
    · have h1 : ((n : Int) == 0) = false := by simp; omega
      go_enter Tryz.func70, Tryz.ntmps70
      go_wp2
      go_ret
      exact ⟨ret_bool (by simp), by go_grown⟩
  | true =>
    have e1 : blockOk true xs t = false := by
      by_cases h2 : t.size = 0
      · rw [blockOk_dir xs t h2]; exact ok_other (by simpa [h2] using h)
      · exact blockOk_dirt xs t h2
    rw [e1]
    obtain ⟨a, c, rfl, -⟩ := hv
    generalize xs.length = n at *
    by_cases h4 : n = 4
    · subst h4
      have he := emp_false (s := t) (by rcases h with h | h | h; cases h; exact absurd rfl h; omega)
      go_enter Tryz.func70, Tryz.ntmps70
      go_wp2
      go_ret
      exact ⟨rfl, by go_grown⟩
    · have h1 : ((n : Int) != 4) = true := by simp; omega
      go_enter Tryz.func70, Tryz.ntmps70
      go_wp2
      go_ret
      exact ⟨rfl, by go_grown⟩
end Go.Proofs.YtbebgnknjoclkaaGreat
/- spec.BlockOk at four slots by its contract. -/
namespace Go.Proofs.YtbebgnknjoclkaaGreat
open Go.RowKit Kit
set_option maxRecDepth 100000 in
set_option maxHeartbeats 3200000 in
theorem specOk_four (v : Value) (t0 : ByteArray) (xs : List Sl) (w : World) (hv : RSl w v xs) (hl : xs.length = 4) (ht0 : t0.size = 0) (hbig : ∀ (j : Nat) (h : j < xs.length), xs[j].1.size ≤ 1048576) :
    Calls Tryz.prog 70 #[.agg #[.bool true, v, .string t0]] w fun e w' => e = .returned (.bool (slotsOk xs)) ∧ Below w.heap.size w w' := by
  have HV := hide hv
  have HG := hide hbig
  obtain ⟨a, c, rfl, hcap, hc⟩ := hv
  have HC := hide hc
  have HL := hide hl
  clear hc hbig
  have HR := hide (ok_start hl)
  obtain ⟨R, hR⟩ : ∃ R, slotsOk xs = R := ⟨_, rfl⟩
  rw [hR] at HR ⊢
  rw [hl] at HV hcap ⊢
  have he0 := emp_true ht0
  clear hR hl ht0
  go_enter Tryz.func70, Tryz.ntmps70
  go_wp2
  go_loopw [3, 4, 5] (fun i _ _ wr => ∃ j : Nat, j ≤ 4 ∧ i = .int .i64 j ∧ Hid (R = okF (xs.take j) (xs.drop j)) ∧ Below w.heap.size w wr ∧ AtC wr w.heap.size 70 #[.bool true, .slice a 4 c, .string t0]) (fun i _ _ _ => 4 - (intOf i).toNat)
  case atStart => exact ⟨0, Nat.zero_le _, rfl, HR, (Below.refl _ w).alloc (Nat.le_refl _) _, AtC.new w 70 _⟩
  case round =>
    obtain ⟨j, hj, rfl, HP, hb, hat⟩ := hrel
    obtain ⟨b0, b1, b2, hbl⟩ := hat.three
    by_cases hlt : j < 4
    · have hlx : j < xs.length := by rw [HL.out]; exact hlt
      obtain ⟨g, off, rfl, hg, k1, k2⟩ := HC.out j hlx
      have q1 := (hb.cell (p := ⟨g, off + j * 2, none⟩) hg).trans k1
      have q2 := (hb.cell (p := ⟨g, off + j * 2 + 1, none⟩) hg).trans k2
      have hsz := hb.size
      have j0 : (0 : Int) ≤ (j : Int) := by omega
      have j1 : (j : Int) < 4 := by omega
      have C1 := hide (fun W => specName_any xs[j].1 W (HG.out j hlx))
      have HBAD := hide (ok_bad hlx HP.out)
      have HTW := hide (ok_twice hlx HP.out)
      have HNX := hide (ok_next hlx HP.out)
      obtain ⟨t, ht⟩ : ∃ t, xs[j].1 = t := ⟨_, rfl⟩
      obtain ⟨z, hz⟩ : ∃ z, xs[j].2 = z := ⟨_, rfl⟩
      have e1 : xs[j] = (t, z) := by rw [← ht, ← hz]
      rw [e1] at HBAD HNX HTW
      rw [ht] at q1 C1
      rw [hz] at q2
      have HAT := hide hat
      have HB := hide hb
      clear k1 k2 ht hz e1 hb HP hlx hat
      by_cases hA : t.size = 0 ∧ z = 0
      · obtain ⟨hA, rfl⟩ := hA
        have he := emp_true hA
        have HQ := hide (HNX.out (slotOk_true (.inl ⟨hA, rfl⟩)).symm (by rw [placeR_empty _ hA]; decide))
        clear hA
        go_wp2
        go_roundw
        case rel => exact ⟨j + 1, by omega, by go_num, HQ, HB.out.alloc hsz _, HAT.out.alloc _⟩
        case measure => simp [intOf]; omega
      · have HA := hide hA
        obtain ⟨n, hn⟩ : ∃ n, nameOk t = n := ⟨_, rfl⟩
        rw [hn] at C1
        have HN := hide hn
        have HE : Hid (∀ (P : Prop) [Decidable P], True) := fun _ => trivial
        have hAN := HAT.out.alloc (.cells #[.string t, .int .i64 z] 74)
        have hBW := HB.out.alloc hsz (.cells #[.string t, .int .i64 z] 74)
        have hSW := AtC.new wr 74 #[.string t, .int .i64 z]
        have HAN := hide hAN
        have HBW := hide hBW
        have HSW := hide hSW
        clear hn hAN hBW hSW HE
        by_cases hG : n = true ∧ 1 ≤ z ∧ z ≤ 8
        · obtain ⟨rfl, z1, z8⟩ := hG
          have hs1 : 1 ≤ t.size := (nameOk_size HN.out).1
          have he := emp_false (s := t) (by omega)
          have zz : (z == 0) = false := by simp; omega
          have hin : inB z 1 8 = true := by simp [inB, z1, z8]
          have HSO := hide (slotOk_true (t := t) (z := z) (.inr ⟨HN.out, z1, z8⟩)).symm
          have HNX2 := hide (HNX.out HSO.out)
          have HPS := hide (placeR_start (xs.take j) (name := t) (by omega))
          obtain ⟨r2, hr2⟩ : ∃ r, placeR (xs.take j) t = r := ⟨_, rfl⟩
          simp only [hr2] at HNX2 HTW HPS
          clear hr2 hA HNX HBAD
          go_wp2_with (first | (go_at_call 94; refine (C1.out _).mono ?_; rintro e w1 ⟨rfl, B1⟩; obtain ⟨s0, s1, sl⟩ := (HSW.out.over B1).two; obtain ⟨d0, d1, d2, dl⟩ := (HAN.out.over B1).three) | (go_at_call 72; refine (l01In_any _ _ _ _).mono ?_; rintro e w1 ⟨rfl, rfl⟩))
          have hB1 : Below w.heap.size w w1 := HBW.out.trans (B1.mono (by simp; omega))
          have HB1 := hide hB1
          have hA1 := HAN.out.over B1
          have HA1 := hide hA1
          clear hB1 hA1 B1 b0 b1 b2
          go_loopw [5] (fun i wz => ∃ k : Nat, k ≤ j ∧ i = .int .i64 k ∧ Hid (r2 = plF t k ((xs.take j).drop k)) ∧ ∃ q, wz = w1.drewN q) (fun i _ => j - (intOf i).toNat)
          case atStart => exact ⟨0, Nat.zero_le _, rfl, HPS, 0, rfl⟩
          case round =>
            obtain ⟨k, hk, rfl, HK, q, rfl⟩ := hrel
            by_cases hkj : k < j
            · have hkx : k < xs.length := by rw [HL.out]; omega
              obtain ⟨g', off', e', hg', m1, m2⟩ := HC.out k hkx
              simp only [Option.some.injEq, Addr.mk.injEq] at e'
              obtain ⟨rfl, rfl, -⟩ := e'
              have n1 := (HB1.out.cell (p := ⟨g, off + k * 2, none⟩) hg).trans m1
              have hjx : j < xs.length := by rw [HL.out]; exact hlt
              have HIT := hide (pl_hit' hkj hjx HK.out)
              have NXT := hide (pl_next' hkj hjx HK.out)
              obtain ⟨t2, ht2⟩ : ∃ t, xs[k].1 = t := ⟨_, rfl⟩
              rw [ht2] at n1 HIT NXT
              clear m1 m2 ht2 hjx hkx q1 q2
              have k0 : (0 : Int) ≤ (k : Int) := by omega
              have k1 : (k : Int) < 4 := by omega
              by_cases hq : t2 = t
              · have c1 := beq_true hq
                have HQ := hide (HTW.out (by have := HIT.out hq; omega))
                clear hq
                go_wp2
                go_quiet (fail)
                go_wp2
                go_ret
                exact ⟨ret_bool HQ.out.symm, below_drewN (below_drewN HB1.out _) _⟩
              · have c1 := beq_false hq
                have HQ := hide (NXT.out hq)
                clear hq
                go_wp2
                go_quiet (fail)
                go_wp2
                go_roundw
                case rel => exact ⟨k + 1, by omega, by go_num, HQ, _, rfl⟩
                case measure => simp [intOf]; omega
            · have HQ := hide (HNX2.out (by have := pl_end' (by omega) HK.out; omega))
              clear q1 q2
              go_wp2
              go_roundw
              case rel => exact ⟨j + 1, by omega, by go_num, HQ, below_drewN HB1.out _, HA1.out⟩
              case measure => simp [intOf]; omega
        · have HQ := hide (HBAD.out (slotOk_false (t := t) (z := z) (by rintro (h | h); exact HA.out h; exact hG ⟨by rw [← HN.out]; exact h.1, h.2⟩)).symm)
          have hE : (t.size = 0 ∧ (z == 0) = false) ∨ 0 < t.size := by
            by_cases h : t.size = 0
            · left; exact ⟨h, by simp; intro hz; exact HA.out ⟨h, hz⟩⟩
            · right; omega
          have hin : n = true → inB z 1 8 = false := fun h => by simp [inB]; intro h1; have := hG; simp [h] at this; omega
          have HI := hide hin
          have HEE := hide hE
          clear hin hE hA hG HBAD HNX HTW
          cases n with
          | false =>
            rcases HEE.out with ⟨h0, hz⟩ | h0
            · have he := emp_true h0
              clear h0
              go_wp2_with (first | (go_at_call 94; refine (C1.out _).mono ?_; rintro e w1 ⟨rfl, B1⟩))
              go_ret
              exact ⟨ret_bool HQ.out.symm, HBW.out.trans (B1.mono (by simp; omega))⟩
            · have he := emp_false h0
              clear h0
              go_wp2_with (first | (go_at_call 94; refine (C1.out _).mono ?_; rintro e w1 ⟨rfl, B1⟩))
              go_ret
              exact ⟨ret_bool HQ.out.symm, HBW.out.trans (B1.mono (by simp; omega))⟩
          | true =>
            have hin := HI.out rfl
            have hs1 : 1 ≤ t.size := (nameOk_size HN.out).1
            have he := emp_false (s := t) (by omega)
            go_wp2_with (first | (go_at_call 94; refine (C1.out _).mono ?_; rintro e w1 ⟨rfl, B1⟩; obtain ⟨s0, s1, sl⟩ := (HSW.out.over B1).two) | (go_at_call 72; refine (l01In_any _ _ _ _).mono ?_; rintro e w1 ⟨rfl, rfl⟩))
            go_ret
            exact ⟨ret_bool HQ.out.symm, HBW.out.trans (B1.mono (by simp; omega))⟩
    · have HH := hide (ok_end (by rw [HL.out]; omega) HP.out)
      have HB := hide hb
      clear hb hat
      go_wp2
      go_ret
      exact ⟨ret_bool HH.out.symm, HB.out⟩
theorem specOk_anyK (d : Bool) (v : Value) (t : ByteArray) (xs : List Sl) (w : World) (hv : RSl w v xs) (hbig : ∀ (j : Nat) (h : j < xs.length), xs[j].1.size ≤ 1048576) :
    Calls Tryz.prog 70 #[.agg #[.bool d, v, .string t]] w fun e w' => e = .returned (.bool (blockOk d xs t)) ∧ Below w.heap.size w w' := by
  by_cases h : d = false ∨ xs.length ≠ 4 ∨ t.size ≠ 0
  · exact specOk_plain d v t xs w hv h
  · simp only [not_or, Bool.not_eq_false, Decidable.not_not, ne_eq] at h
    obtain ⟨rfl, h4, h0⟩ := h
    rw [blockOk_dir xs t h0]
    exact specOk_four v t xs w hv h4 h0 hbig
end Go.Proofs.YtbebgnknjoclkaaGreat
/- impl.inodesRight, impl.blocksRight, impl.DiskOk and spec.DiskOk by their contracts. -/
namespace Go.Proofs.YtbebgnknjoclkaaGreat.Kit
open Go.RowKit
theorem all_no {α : Type} {f : α → Bool} {l : List α} {j : Nat} (h : j < l.length) (hf : f l[j] = false) : l.all f = false := by
  rw [List.all_eq_false]
  exact ⟨l[j], List.getElem_mem h, by simp [hf]⟩
theorem all_yes {α : Type} {f : α → Bool} {l : List α} (h : ∀ (j : Nat) (h : j < l.length), f l[j] = true) : l.all f = true := by
  rw [List.all_eq_true]
  intro x hx
  obtain ⟨j, hj, rfl⟩ := List.getElem_of_mem hx
  exact h j hj
end Go.Proofs.YtbebgnknjoclkaaGreat.Kit
namespace Go.Proofs.YtbebgnknjoclkaaGreat
open Go.RowKit Kit
/-- Whether an inode is right; whether all are. -/
def inoOk (x : Ino) : Bool := okL x.1 x.2.1 x.2.2
def inosOk (l : List Ino) : Bool := l.all inoOk
/-- Whether a block is right; whether all are. -/
def blkOk (b : Blk) : Bool := blockOk b.1 b.2.1 b.2.2
def blksOk (l : List Blk) : Bool := l.all blkOk
/-- Whether a disk is right. -/
def diskOk (xs ys : List Bool) (is : List Ino) (bs : List Blk) : Bool := okB xs.length ys.length && (inosOk is && decide (is.length = 8)) && (blksOk bs && decide (bs.length = 16))
set_option maxRecDepth 100000 in
set_option maxHeartbeats 1600000 in
theorem inosRight_any (v : Value) (l : List Ino) (w : World) (hv : R3 KI w v l) (hl : l.length ≤ 1048576) :
    Calls Tryz.prog 47 #[v] w fun e w' => e = .returned (.bool (inosOk l && decide (l.length = 8))) ∧ Below w.heap.size w w' := by
  obtain ⟨a1, c1, rfl, -, hv'⟩ := hv.ino
  have HA := hide hv'
  clear hv hv'
  go_enter Tryz.func47, Tryz.ntmps47
  go_wp2
  go_loopw [7] (fun i wr => ∃ j : Nat, j ≤ l.length ∧ i = .int .i64 j ∧ Hid (∀ (k : Nat) (h : k < l.length), k < j → inoOk l[k] = true) ∧ Below w.heap.size w wr) (fun i _ => l.length - (intOf i).toNat)
  case atStart => exact ⟨0, Nat.zero_le _, rfl, fun _ _ h => absurd h (Nat.not_lt_zero _), Below.refl _ _⟩
  case round =>
    obtain ⟨j, hj, rfl, HS, hb⟩ := hrel
    by_cases hlt : j < l.length
    · obtain ⟨g1, o1, p1, rfl, hg1, m1, m2, m3, hr1⟩ := HA.out j hlt
      have q1 := (hb.cell (p := ⟨g1, o1 + j * 3, none⟩) hg1).trans m1
      have q2 := (hb.cell (p := ⟨g1, o1 + j * 3 + 1, none⟩) hg1).trans m2
      have q3 := (hb.cell (p := ⟨g1, o1 + j * 3 + 2, none⟩) hg1).trans m3
      obtain ⟨x, hx⟩ : ∃ x, l[j] = x := ⟨_, rfl⟩
      obtain ⟨y, s, z⟩ := x
      rw [hx] at q1 q2 hr1
      obtain ⟨pa, pc, rfl⟩ := hr1.form
      simp only at q1 q2 q3 hr1
      have HR : Hid (∀ w', Below w.heap.size w w' → RInts w' (.slice pa z.length pc) z) := fun w' hb => hr1.below hb (Nat.le_refl _)
      have j0 : (0 : Int) ≤ (j : Int) := by omega
      have j1 : (j : Int) < (l.length : Int) := by omega
      have hsz := hb.size
      have HBB := hide hb
      have HX := hide hx
      clear hb m1 m2 m3 hr1 hx
      cases hq : inoOk (y, s, z) with
      | true =>
        have HQ := hide hq
        have hq2 : okL y s z = true := hq
        have HQ2 := hide hq2
        clear hq hq2
        go_wp2_with (go_at_call 75; refine (implOk_anyI _ _ z _ _ (HR.out _ (HBB.out.alloc hsz _))).mono ?_; rw [HQ2.out]; rintro e w1 ⟨rfl, B1⟩; have HB1 := hide ((HBB.out.alloc hsz _).trans (B1.mono (by simp; omega))); clear B1)
        go_roundw
        case rel =>
          refine ⟨j + 1, by omega, by go_num, fun k hk hkj => ?_, HB1.out⟩
          by_cases hkk : k = j
          · subst hkk; rw [HX.out]; exact HQ.out
          · exact HS.out k hk (by omega)
        case measure => simp [intOf]; omega
      | false =>
        have hno : inosOk l = false := all_no hlt (by rw [HX.out]; exact hq)
        have HNO := hide hno
        have hq2 : okL y s z = false := hq
        have HQ2 := hide hq2
        clear hq hq2 hno
        go_wp2_with (go_at_call 75; refine (implOk_anyI _ _ z _ _ (HR.out _ (HBB.out.alloc hsz _))).mono ?_; rw [HQ2.out]; rintro e w1 ⟨rfl, B1⟩; have HB1 := hide ((HBB.out.alloc hsz _).trans (B1.mono (by simp; omega))); clear B1)
        go_ret
        exact ⟨ret_bool (by rw [HNO.out]; rfl), HB1.out⟩
    · have hyes : inosOk l = true := all_yes fun k hk => HS.out k hk (by omega)
      have HY := hide hyes
      have HBB := hide hb
      clear hb hyes
      go_wp2
      go_ret
      exact ⟨ret_bool (by rw [HY.out, Bool.true_and, Bool.eq_iff_iff]; simp; omega), HBB.out⟩
set_option maxRecDepth 100000 in
set_option maxHeartbeats 1600000 in
theorem blksRight_any (v : Value) (l : List Blk) (w : World) (hv : R3 KB w v l) (hl : l.length ≤ 1048576) :
    Calls Tryz.prog 48 #[v] w fun e w' => e = .returned (.bool (blksOk l && decide (l.length = 16))) ∧ Below w.heap.size w w' := by
  obtain ⟨a1, c1, rfl, -, hv'⟩ := hv.blk
  have HA := hide hv'
  clear hv hv'
  go_enter Tryz.func48, Tryz.ntmps48
  go_wp2
  go_loopw [7] (fun i wr => ∃ j : Nat, j ≤ l.length ∧ i = .int .i64 j ∧ Hid (∀ (k : Nat) (h : k < l.length), k < j → blkOk l[k] = true) ∧ Below w.heap.size w wr) (fun i _ => l.length - (intOf i).toNat)
  case atStart => exact ⟨0, Nat.zero_le _, rfl, fun _ _ h => absurd h (Nat.not_lt_zero _), Below.refl _ _⟩
  case round =>
    obtain ⟨j, hj, rfl, HS, hb⟩ := hrel
    by_cases hlt : j < l.length
    · obtain ⟨g1, o1, p1, rfl, hg1, m1, m2, m3, hr1⟩ := HA.out j hlt
      have q1 := (hb.cell (p := ⟨g1, o1 + j * 3, none⟩) hg1).trans m1
      have q2 := (hb.cell (p := ⟨g1, o1 + j * 3 + 1, none⟩) hg1).trans m2
      have q3 := (hb.cell (p := ⟨g1, o1 + j * 3 + 2, none⟩) hg1).trans m3
      obtain ⟨x, hx⟩ : ∃ x, l[j] = x := ⟨_, rfl⟩
      obtain ⟨y, s, z⟩ := x
      rw [hx] at q1 q3 hr1
      obtain ⟨pa, pc, rfl⟩ := hr1.form
      simp only at q1 q2 q3 hr1
      have HR : Hid (∀ w', Below w.heap.size w w' → RSl w' (.slice pa s.length pc) s) := fun w' hb => hr1.below hb (Nat.le_refl _)
      have j0 : (0 : Int) ≤ (j : Int) := by omega
      have j1 : (j : Int) < (l.length : Int) := by omega
      have hsz := hb.size
      have HBB := hide hb
      have HX := hide hx
      clear hb m1 m2 m3 hr1 hx
      cases hq : blkOk (y, s, z) with
      | true =>
        have HQ := hide hq
        have hq2 : blockOk y s z = true := hq
        have HQ2 := hide hq2
        clear hq hq2
        go_wp2_with (go_at_call 76; refine (implOk_anyK _ _ _ s _ (HR.out _ (HBB.out.alloc hsz _))).mono ?_; rw [HQ2.out]; rintro e w1 ⟨rfl, B1⟩; have HB1 := hide ((HBB.out.alloc hsz _).trans (B1.mono (by simp; omega))); clear B1)
        go_roundw
        case rel =>
          refine ⟨j + 1, by omega, by go_num, fun k hk hkj => ?_, HB1.out⟩
          by_cases hkk : k = j
          · subst hkk; rw [HX.out]; exact HQ.out
          · exact HS.out k hk (by omega)
        case measure => simp [intOf]; omega
      | false =>
        have hno : blksOk l = false := all_no hlt (by rw [HX.out]; exact hq)
        have HNO := hide hno
        have hq2 : blockOk y s z = false := hq
        have HQ2 := hide hq2
        clear hq hq2 hno
        go_wp2_with (go_at_call 76; refine (implOk_anyK _ _ _ s _ (HR.out _ (HBB.out.alloc hsz _))).mono ?_; rw [HQ2.out]; rintro e w1 ⟨rfl, B1⟩; have HB1 := hide ((HBB.out.alloc hsz _).trans (B1.mono (by simp; omega))); clear B1)
        go_ret
        exact ⟨ret_bool (by rw [HNO.out]; rfl), HB1.out⟩
    · have hyes : blksOk l = true := all_yes fun k hk => HS.out k hk (by omega)
      have HY := hide hyes
      have HBB := hide hb
      clear hb hyes
      go_wp2
      go_ret
      exact ⟨ret_bool (by rw [HY.out, Bool.true_and, Bool.eq_iff_iff]; simp; omega), HBB.out⟩
end Go.Proofs.YtbebgnknjoclkaaGreat
/- What a disk tells, as plain functions: kinds, pointers, named slots, where a name leads. No Go function is spoken of. -/
namespace Go.Proofs.YtbebgnknjoclkaaGreat
open Go.RowKit Kit
def kindAt (is : List Ino) (i : Int) : Int := if inB i 1 is.length = true then (is.getD (i - 1).toNat (0, 0, [])).1 else 0
def ptrsAt (is : List Ino) (i : Int) : List Int := if inB i 1 is.length = true then (is.getD (i - 1).toNat (0, 0, [])).2.2 else []
/-- The slots that have a name. -/
def nmdS (ss : List Sl) : List Sl := ss.filter fun s => decide (¬ s.1 = ⟨#[]⟩)
def nmd (b : Blk) : List Sl := if b.1 = true then nmdS b.2.1 else []
/-- The named slots of blocks, in order. -/
def nmdP (bs : List Blk) (ps : List Int) : List Sl := ps.flatMap fun p => nmd (blkAt bs p)
/-- The named slots of a directory. -/
def named (is : List Ino) (bs : List Blk) (i : Int) : List Sl := if kindAt is i = 2 then nmdP bs (ptrsAt is i) else []
/-- Where the first slot with a name leads. -/
def findI : List Sl → ByteArray → Int
  | [], _ => 0
  | s :: r, nm => if s.1 = nm then s.2 else findI r nm
theorem findI_append {a b : List Sl} {nm : ByteArray} (h : ∀ s ∈ a, ¬ s.1 = nm) : findI (a ++ b) nm = findI b nm := by
  induction a with
  | nil => rfl
  | cons s r ih =>
    rw [List.cons_append, findI, if_neg (h s (by simp))]
    exact ih fun x hx => h x (by simp [hx])
theorem findI_none {a : List Sl} {nm : ByteArray} (h : ∀ s ∈ a, ¬ s.1 = nm) : findI a nm = 0 := by
  have := findI_append (b := []) h
  rw [List.append_nil] at this
  rw [this]; rfl
theorem size_ne {nm : ByteArray} (h : nm.size ≠ 0) : ¬ nm = ⟨#[]⟩ := fun e => h (by rw [e]; rfl)
theorem ne_size {nm : ByteArray} (h : ¬ nm = ⟨#[]⟩) : nm.size ≠ 0 := fun e => h (by
  obtain ⟨⟨l⟩⟩ := nm
  have : l = [] := List.length_eq_zero_iff.1 e
  subst this
  rfl)
theorem findI_first {ss c : List Sl} {nm : ByteArray} {j : Nat} (hj : j < ss.length) (h : ss[j].1 = nm) (hn : nm.size ≠ 0) (hf : ∀ (i : Nat) (hi : i < j), ¬ (ss[i]'(Nat.lt_trans hi hj)).1 = nm) : findI (nmdS ss ++ c) nm = ss[j].2 := by
  induction ss generalizing j with
  | nil => simp at hj
  | cons s r ih =>
    cases j with
    | zero =>
      have h' : s.1 = nm := h
      have : nmdS (s :: r) = s :: nmdS r := by simp [nmdS, h', size_ne hn]
      rw [this, List.cons_append, findI, if_pos h']
      rfl
    | succ j =>
      have h0 : ¬ s.1 = nm := hf 0 (Nat.succ_pos _)
      have hi := ih (j := j) (by simpa using hj) h (fun i hi => hf (i + 1) (Nat.succ_lt_succ hi))
      by_cases e : s.1 = ⟨#[]⟩
      · have : nmdS (s :: r) = nmdS r := by simp [nmdS, e]
        rw [this]; exact hi
      · have : nmdS (s :: r) = s :: nmdS r := by simp [nmdS, e]
        rw [this, List.cons_append, findI, if_neg h0]; exact hi
theorem mem_nmdS {ss : List Sl} {s : Sl} (h : s ∈ nmdS ss) : s ∈ ss ∧ ¬ s.1 = ⟨#[]⟩ := by
  have := List.mem_filter.1 h
  exact ⟨this.1, by simpa using this.2⟩
theorem nmdS_none {ss : List Sl} {nm : ByteArray} (h : ∀ (i : Nat) (hi : i < ss.length), ¬ ss[i].1 = nm) : ∀ s ∈ nmdS ss, ¬ s.1 = nm := fun s hs => by
  obtain ⟨i, hi, rfl⟩ := List.getElem_of_mem (mem_nmdS hs).1
  exact h i hi
theorem nmdP_take {bs : List Blk} {ps : List Int} {q : Nat} (h : q < ps.length) : nmdP bs (ps.take (q + 1)) = nmdP bs (ps.take q) ++ nmd (blkAt bs ps[q]) := by
  rw [List.take_succ_eq_append_getElem h]
  unfold nmdP
  rw [List.flatMap_append, List.flatMap_cons, List.flatMap_nil, List.append_nil]
theorem nmdP_split {bs : List Blk} {ps : List Int} {q : Nat} (h : q < ps.length) : nmdP bs ps = nmdP bs (ps.take q) ++ (nmd (blkAt bs ps[q]) ++ nmdP bs (ps.drop (q + 1))) := by
  have e : ps = ps.take q ++ ps[q] :: ps.drop (q + 1) := by
    rw [← List.drop_eq_getElem_cons h, List.take_append_drop]
  have : nmdP bs (ps.take q ++ ps[q] :: ps.drop (q + 1)) = nmdP bs (ps.take q) ++ (nmd (blkAt bs ps[q]) ++ nmdP bs (ps.drop (q + 1))) := by
    unfold nmdP
    rw [List.flatMap_append, List.flatMap_cons]
  rw [← e] at this
  exact this
theorem nmdS_take {ss : List Sl} {t : Nat} (h : t < ss.length) : nmdS (ss.take (t + 1)) = nmdS (ss.take t) ++ (if ss[t].1 = ⟨#[]⟩ then [] else [ss[t]]) := by
  rw [List.take_succ_eq_append_getElem h]
  unfold nmdS
  rw [List.filter_append]
  by_cases e : ss[t].1 = ⟨#[]⟩
  · rw [if_pos e, List.filter_cons_of_neg (by simp [e]), List.filter_nil]
  · rw [if_neg e, List.filter_cons_of_pos (by simp [e]), List.filter_nil]
theorem kindAt_in {is : List Ino} {j : Nat} (h : j < is.length) : kindAt is ((j : Int) + 1) = is[j].1 ∧ ptrsAt is ((j : Int) + 1) = is[j].2.2 := by
  have hb : inB ((j : Int) + 1) 1 is.length = true := by simp [inB]; omega
  unfold kindAt ptrsAt
  rw [if_pos hb, if_pos hb, show ((j : Int) + 1 - 1).toNat = j by omega]
  simp [h]
theorem kindAt_out {is : List Ino} {i : Int} (h : inB i 1 is.length = false) : kindAt is i = 0 := by unfold kindAt; rw [h]; rfl
theorem blkAt_no {bs : List Blk} {x : Int} (h : inB x 1 bs.length = false) : blkAt bs x = (false, [], ⟨#[]⟩) := by unfold blkAt; rw [h]; rfl
end Go.Proofs.YtbebgnknjoclkaaGreat
/- A region whose order is drawn, in which several operations make memory, each by itself, and the rest goes in one order: one obligation for each maker, one for the rest, whatever the order. No Go function is spoken of. -/
namespace Go.Proofs.YtbebgnknjoclkaaGreat.Kit
open Go.RowKit
/-- All lists that a list comes to when some are left out. -/
def subs : List Nat → List (List Nat)
  | [] => [[]]
  | x :: r => subs r ++ (subs r).map fun t => x :: t
theorem filter_subs (p : Nat → Bool) (js : List Nat) : js.filter p ∈ subs js := by
  induction js with
  | nil => simp [subs]
  | cons x r ih =>
    rw [subs, List.mem_append]
    by_cases h : p x = true
    · rw [List.filter_cons_of_pos h]
      exact .inr (List.mem_map.2 ⟨_, ih, rfl⟩)
    · rw [List.filter_cons_of_neg h]
      exact .inl ih
/-- Which of n operations are done. -/
def mask (n : Nat) (s : List Nat) : Array Bool := ((List.range n).map fun i => s.contains i).toArray
theorem mask_set (n : Nat) (s : List Nat) (j : Nat) : (mask n s).setIfInBounds j true = mask n (j :: s) := by
  apply Array.ext
  · simp [mask]
  · intro i h1 h2
    simp only [mask, Array.size_setIfInBounds, List.size_toArray, List.length_map, List.length_range] at h1
    rw [Array.getElem_setIfInBounds (by simpa [mask] using h1)]
    simp only [mask, List.getElem_toArray, List.getElem_map, List.getElem_range, List.contains_cons]
    by_cases e : j = i
    · simp [e]
    · have e' : (i == j) = false := by simp; omega
      simp [e, e']
theorem mask_congr (n : Nat) (s s' : List Nat) (h : ∀ i, i ∈ s ↔ i ∈ s') : mask n s = mask n s' := by
  have e : (fun i => s.contains i) = fun i => s'.contains i := by
    funext i
    have := h i
    by_cases hi : i ∈ s
    · simp [hi, this.1 hi]
    · have : ¬ i ∈ s' := fun q => hi (this.2 q)
      simp [hi, this]
  rw [mask, mask, e]
theorem mask_nil (n : Nat) : mask n [] = Array.replicate n false := by
  apply Array.ext
  · simp [mask]
  · intro i h1 h2
    simp [mask]
def upd {α : Type} (x : Nat → α) (j : Nat) (v : α) : Nat → α := fun i => if i = j then v else x i
theorem upd_self {α : Type} (x : Nat → α) (j : Nat) (v : α) : upd x j v j = v := if_pos rfl
theorem upd_ne {α : Type} (x : Nat → α) (j i : Nat) (v : α) (h : i ≠ j) : upd x j v i = x i := if_neg h
/-- Of the makers s that are done: what each made, in blocks of its own from .1 up to .2. -/
structure PI (W0 : World) (s : List Nat) (Post : Nat → Nat → Nat → World → Value → Prop) (x : Nat → Value) (iv : Nat → Nat × Nat) (w : World) : Prop where
  bel : Below W0.heap.size W0 w
  post : ∀ i ∈ s, Post i (iv i).1 (iv i).2 w (x i)
  lo : ∀ i ∈ s, W0.heap.size ≤ (iv i).1 ∧ (iv i).1 ≤ (iv i).2 ∧ (iv i).2 ≤ w.heap.size
  apart : ∀ i ∈ s, ∀ j ∈ s, i ≠ j → (iv i).2 ≤ (iv j).1 ∨ (iv j).2 ≤ (iv i).1
theorem PI.add {W0 : World} {s : List Nat} {Post : Nat → Nat → Nat → World → Value → Prop} {x : Nat → Value} {iv : Nat → Nat × Nat} {w w' : World} {j : Nat} {v : Value} (h : PI W0 s Post x iv w)
    (stable : ∀ i lo hi w w' v, Post i lo hi w v → Below w.heap.size w w' → Post i lo hi w' v) (hj : ¬ j ∈ s) (hb : Below w.heap.size w w') (hp : Post j w.heap.size w'.heap.size w' v) :
    PI W0 (j :: s) Post (upd x j v) (upd iv j (w.heap.size, w'.heap.size)) w' := by
  have hs := h.bel.size
  have hs2 := hb.size
  have ne : ∀ i ∈ s, i ≠ j := fun i hi e => hj (e ▸ hi)
  refine ⟨h.bel.trans (hb.mono hs), fun i hi => ?_, fun i hi => ?_, fun i hi k hk hne => ?_⟩
  · rcases List.mem_cons.1 hi with rfl | hi
    · rw [upd_self, upd_self]; exact hp
    · rw [upd_ne _ _ _ _ (ne i hi), upd_ne _ _ _ _ (ne i hi)]; exact stable _ _ _ _ _ _ (h.post i hi) hb
  · rcases List.mem_cons.1 hi with rfl | hi
    · rw [upd_self]; exact ⟨hs, hs2, Nat.le_refl _⟩
    · rw [upd_ne _ _ _ _ (ne i hi)]; have := h.lo i hi; omega
  · rcases List.mem_cons.1 hi with ei | hi2
    · rcases List.mem_cons.1 hk with ek | hk2
      · exact absurd (ei.trans ek.symm) hne
      · rw [ei, upd_self, upd_ne _ _ _ _ (ne k hk2)]; exact .inr (h.lo k hk2).2.2
    · rcases List.mem_cons.1 hk with ek | hk2
      · rw [ek, upd_self, upd_ne _ _ _ _ (ne i hi2)]; exact .inl (h.lo i hi2).2.2
      · replace hi := hi2
        replace hk := hk2
        rw [upd_ne _ _ _ _ (ne i hi), upd_ne _ _ _ _ (ne k hk)]; exact h.apart i hi k hk hne
theorem PI.of_mem {W0 : World} {s s' : List Nat} {Post : Nat → Nat → Nat → World → Value → Prop} {x : Nat → Value} {iv : Nat → Nat × Nat} {w : World} (h : PI W0 s Post x iv w) (hs : ∀ i ∈ s', i ∈ s) : PI W0 s' Post x iv w :=
  ⟨h.bel, fun i hi => h.post i (hs i hi), fun i hi => h.lo i (hs i hi), fun i hi j hj => h.apart i (hs i hi) j (hs j hj)⟩
/-- What each of t waits for is in t. -/
def closedB (md : Region.Mode) (ops : Array Oper) (t : List Nat) : Bool := t.all fun i => match ops[i]? with | some o => o.after.all fun e => !Region.binds md e || t.contains e.on | none => true
/-- At each state of the makers some are ready, and no other operation is. -/
def makersOk (md : Region.Mode) (ops : Array Oper) (js : List Nat) : Bool :=
  (subs js).all fun t => t == js || !closedB md ops t || (!(Region.ready md ops (mask ops.size t)).isEmpty && (Region.ready md ops (mask ops.size t)).all fun i => js.contains i && !t.contains i)
/-- Behind them the others come in this order. -/
def lineOk (md : Region.Mode) (ops : Array Oper) : List Nat → List Nat → Bool
  | s, [] => (Region.ready md ops (mask ops.size s)).isEmpty
  | s, i :: r => (Region.ready md ops (mask ops.size s) == [i]) && (ops[i]?).isSome && lineOk md ops (i :: s) r
section
variable {P : Program} {ops : Array Oper} {Q : Exit → Act → World → Prop} {md : Region.Mode}
theorem wpAny_line : ∀ (line s : List Nat) (fuel : Nat) (a : Act) (w : World), lineOk md ops s line = true → line.length ≤ fuel → wpList P ops Q (line.filterMap fun i => ops[i]?) a w → wpAny P md ops Q fuel (mask ops.size s) a w
  | [], s, fuel, a, w, h, _, hw => wpAny_done (by simpa [lineOk] using h) (by simpa [wpList] using hw) fuel
  | i :: r, s, 0, a, w, _, hl, _ => by simp at hl
  | i :: r, s, fuel + 1, a, w, h, hl, hw => by
    simp only [lineOk, Bool.and_eq_true, beq_iff_eq] at h
    obtain ⟨⟨h1, h2⟩, h3⟩ := h
    obtain ⟨o, ho⟩ := Option.isSome_iff_exists.1 h2
    have ih := fun a w hw => wpAny_line r (i :: s) fuel a w h3 (by simpa using hl) hw
    refine wpAny_all h1 (by simp) fun j hj => ?_
    obtain rfl : j = i := by simpa using hj
    rw [mask_set]
    have hw' : wpList P ops Q (o :: r.filterMap fun i => ops[i]?) a w := by simpa [ho] using hw
    refine wpOp_mono (fun a w => ih a w) ?_
    unfold wpOp
    rw [ho]
    exact hw'
/-- What an operation that is ready waits for is done. -/
theorem ready_dep {n : Nat} {s : List Nat} {j : Nat} (h : j ∈ Region.ready md ops (mask n s)) {o : Oper} (ho : ops[j]? = some o) {k : Nat} (he : ∃ e ∈ o.after, e.on = k ∧ Region.binds md e = true) : k ∈ s := by
  obtain ⟨-, o', ho', hall⟩ := mem_ready.1 h
  rw [ho] at ho'
  cases ho'
  obtain ⟨e, he1, rfl, he2⟩ := he
  have := hall e he1 he2
  rw [mask] at this
  by_cases hn : e.on < n
  · simpa [Array.getD, hn] using this
  · simp [Array.getD, hn] at this
theorem wpAny_makers (js : List Nat) (fuel : Nat) (act : (Nat → Value) → Act) (W0 : World) (Post : Nat → Nat → Nat → World → Value → Prop) (Inv : List Nat → (Nat → Value) → World → Prop)
    (stable : ∀ i lo hi w w' v, Post i lo hi w v → Below w.heap.size w w' → Post i lo hi w' v) (ok : makersOk md ops js = true)
    (prod : ∀ j ∈ js, ∀ s x iv W, j ∈ Region.ready md ops (mask ops.size s) → ¬ j ∈ s → PI W0 s Post x iv W → Inv s x W → ∀ K : Act → World → Prop, (∀ v W', Below W.heap.size W W' → Post j W.heap.size W'.heap.size W' v → Inv (j :: s) (upd x j v) W' → K (act (upd x j v)) W') → wpOp P ops Q j K (act x) W)
    (rest : ∀ s x iv W f, fuel ≤ f → (∀ i ∈ js, i ∈ s) → PI W0 js Post x iv W → Inv s x W → wpAny P md ops Q f (mask ops.size js) (act x) W) :
    ∀ (m f : Nat) (s : List Nat) (x : Nat → Value) (iv : Nat → Nat × Nat) (W : World), (js.filter fun i => !s.contains i).length ≤ m → fuel ≤ f → (∀ i ∈ s, i ∈ js) → (∀ i ∈ s, ∀ o, ops[i]? = some o → ∀ e ∈ o.after, Region.binds md e = true → e.on ∈ s) → PI W0 s Post x iv W → Inv s x W → wpAny P md ops Q (f + m) (mask ops.size s) (act x) W := by
  intro m
  induction m with
  | zero =>
    intro f s x iv W hc hf hs hcl hp hv
    have hall : ∀ i ∈ js, i ∈ s := fun i hi => by
      by_cases h : i ∈ s
      · exact h
      · have : i ∈ js.filter fun i => !s.contains i := List.mem_filter.2 ⟨hi, by simpa using h⟩
        rw [List.eq_nil_of_length_eq_zero (Nat.le_zero.1 hc)] at this
        cases this
    rw [mask_congr ops.size s js fun i => ⟨hs i, hall i⟩]
    exact rest s x iv W (f + 0) (by omega) hall (hp.of_mem hall) hv
  | succ m ih =>
    intro f s x iv W hc hf hs hcl hp hv
    by_cases hall : ∀ i ∈ js, i ∈ s
    · rw [mask_congr ops.size s js fun i => ⟨hs i, hall i⟩]
      exact rest s x iv W _ (by omega) hall (hp.of_mem hall) hv
    · have hmask : mask ops.size s = mask ops.size (js.filter fun i => s.contains i) := mask_congr _ _ _ fun i => ⟨fun h => List.mem_filter.2 ⟨hs i h, by simpa using h⟩, fun h => by simpa using (List.mem_filter.1 h).2⟩
      have hk := List.all_eq_true.1 ok _ (filter_subs (fun i => s.contains i) js)
      have hne : ((js.filter fun i => s.contains i) == js) = false := by
        apply Bool.eq_false_iff.2
        intro e
        rw [beq_iff_eq] at e
        exact hall fun i hi => by
          rw [← e] at hi
          simpa using (List.mem_filter.1 hi).2
      have hclo : closedB md ops (js.filter fun i => s.contains i) = true := by
        refine List.all_eq_true.2 fun i hi => ?_
        have his : i ∈ s := by simpa using (List.mem_filter.1 hi).2
        cases ho : ops[i]? with
        | none => rfl
        | some o =>
          simp only
          refine Array.all_eq_true_iff_forall_mem.2 fun e he => ?_
          cases hbi : Region.binds md e with
          | false => rfl
          | true =>
            have := hcl i his o ho e he hbi
            simp [this, hs _ this]
      rw [hne, hclo, Bool.false_or, Bool.not_true, Bool.false_or, Bool.and_eq_true] at hk
      obtain ⟨h1, h2⟩ := hk
      rw [← hmask] at h1 h2
      refine wpAny_all rfl (by intro e; rw [e] at h1; simp at h1) fun j hj => ?_
      have hj2 := List.all_eq_true.1 h2 j hj
      simp only [Bool.and_eq_true, List.contains_iff_mem, Bool.not_eq_true'] at hj2
      have hjs : j ∈ js := by simpa using hj2.1
      have hjn : ¬ j ∈ s := fun h => by
        have : j ∈ js.filter fun i => s.contains i := List.mem_filter.2 ⟨hjs, by simpa using h⟩
        have h3 := hj2.2
        simp [hjs, h] at h3
      rw [mask_set]
      refine prod j hjs s x iv W hj hjn hp hv _ fun v W' hb hpo hv' => ih f (j :: s) _ _ W' ?_ hf (fun i hi => (List.mem_cons.1 hi).elim (fun e => e ▸ hjs) (hs i)) (fun i hi o ho e he hbi => List.mem_cons_of_mem _ ((List.mem_cons.1 hi).elim (fun q => by subst q; exact ready_dep hj ho ⟨e, he, rfl, hbi⟩) (fun q => hcl i q o ho e he hbi))) (hp.add stable hjn hb hpo) hv'
      have hlt : (js.filter fun i => !(j :: s).contains i).length < (js.filter fun i => !s.contains i).length := by
        have e : (js.filter fun i => !(j :: s).contains i) = (js.filter fun i => !s.contains i).filter fun i => !(i == j) := by
          rw [List.filter_filter]
          apply List.filter_congr
          intro i _
          by_cases e1 : i = j <;> by_cases e2 : i ∈ s <;> simp [e1, e2]
        rw [e, List.length_filter_lt_length_iff_exists]
        exact ⟨j, List.mem_filter.2 ⟨hjs, by simpa using hjn⟩, by simp⟩
      omega
/-- The region, whatever order is drawn. -/
theorem wp_region_makers {id : Nat} {w : World} {a0 : Act} (hm : P.follows .mixedOrders = true) (js line : List Nat) (act : (Nat → Value) → Act) (x0 : Nat → Value) (ha : a0 = act x0) (Post : Nat → Nat → Nat → World → Value → Prop) (Inv : List Nat → (Nat → Value) → World → Prop)
    (stable : ∀ i lo hi w w' v, Post i lo hi w v → Below w.heap.size w w' → Post i lo hi w' v) (ok : makersOk .any ops js = true) (okl : lineOk .any ops js line = true) (hsz : line.length + js.length = ops.size) (hv : Inv [] x0 w.drew)
    (prod : ∀ j ∈ js, ∀ s x iv W, j ∈ Region.ready .any ops (mask ops.size s) → ¬ j ∈ s → PI w.drew s Post x iv W → Inv s x W → ∀ K : Act → World → Prop, (∀ v W', Below W.heap.size W W' → Post j W.heap.size W'.heap.size W' v → Inv (j :: s) (upd x j v) W' → K (act (upd x j v)) W') → wpOp P ops Q j K (act x) W)
    (rest : ∀ s x iv W, (∀ i ∈ js, i ∈ s) → PI w.drew js Post x iv W → Inv s x W → wpList P ops Q (line.filterMap fun i => ops[i]?) (act x) W) : (Code.region id ops true).wp P Q a0 w := by
  subst ha
  refine wp_region_any hm ?_
  have h := wpAny_makers (P := P) (Q := Q) (md := .any) js line.length act w.drew Post Inv stable ok prod (fun s x iv W f hf hs hp hi => wpAny_line line js f (act x) W okl hf (rest s x iv W hs hp hi)) js.length line.length [] x0 (fun _ => (0, 0)) w.drew (List.length_filter_le _ _) (Nat.le_refl _) (fun i hi => by cases hi) (fun i hi => by cases hi) ⟨Below.refl _ _, (fun i hi => by cases hi), (fun i hi => by cases hi), (fun i hi => by cases hi)⟩ hv
  rw [hsz, mask_nil] at h
  exact h
end
end Go.Proofs.YtbebgnknjoclkaaGreat.Kit
/- A drawn region whose operations only read and make memory, ahead of a line of others: each is told once, by what it yields out of what it waits for. No Go function is spoken of. -/
namespace Go.Proofs.YtbebgnknjoclkaaGreat.Kit
open Go.RowKit
/-- What is done so far: each yielded what is told of it, in an interval of new blocks of its own. -/
structure PX (W0 : World) (s : List Nat) (Po : Nat → Nat → Nat → World → (Nat → Value) → Prop) (x : Nat → Value) (iv : Nat → Nat × Nat) (w : World) : Prop where
  bel : Below W0.heap.size W0 w
  post : ∀ i ∈ s, Po i (iv i).1 (iv i).2 w x
  lo : ∀ i ∈ s, W0.heap.size ≤ (iv i).1 ∧ (iv i).1 ≤ (iv i).2 ∧ (iv i).2 ≤ w.heap.size
  apart : ∀ i ∈ s, ∀ j ∈ s, i ≠ j → (iv i).2 ≤ (iv j).1 ∨ (iv j).2 ≤ (iv i).1
theorem PX.add {W0 : World} {s : List Nat} {Po : Nat → Nat → Nat → World → (Nat → Value) → Prop} {x : Nat → Value} {iv : Nat → Nat × Nat} {w w' : World} {j : Nat} {v : Value} (deps : Nat → List Nat) (h : PX W0 s Po x iv w)
    (stable : ∀ i lo hi w w' x, Po i lo hi w x → Below w.heap.size w w' → Po i lo hi w' x) (cong : ∀ i lo hi w x x', x i = x' i → (∀ k ∈ deps i, x k = x' k) → Po i lo hi w x → Po i lo hi w x')
    (hcl : ∀ i ∈ s, ∀ k ∈ deps i, k ∈ s) (hj : ¬ j ∈ s) (hb : Below w.heap.size w w') (hp : Po j w.heap.size w'.heap.size w' (upd x j v)) :
    PX W0 (j :: s) Po (upd x j v) (upd iv j (w.heap.size, w'.heap.size)) w' := by
  have hs := h.bel.size
  have hs2 := hb.size
  have ne : ∀ i ∈ s, i ≠ j := fun i hi e => hj (e ▸ hi)
  refine ⟨h.bel.trans (hb.mono hs), fun i hi => ?_, fun i hi => ?_, fun i hi k hk hne => ?_⟩
  · rcases List.mem_cons.1 hi with rfl | hi
    · rw [upd_self]; exact hp
    · rw [upd_ne _ _ _ _ (ne i hi)]
      exact cong _ _ _ _ _ _ (upd_ne _ _ _ _ (ne i hi)).symm (fun k hk => (upd_ne _ _ _ _ (ne k (hcl i hi k hk))).symm) (stable _ _ _ _ _ _ (h.post i hi) hb)
  · rcases List.mem_cons.1 hi with rfl | hi
    · rw [upd_self]; exact ⟨hs, hs2, Nat.le_refl _⟩
    · rw [upd_ne _ _ _ _ (ne i hi)]; have := h.lo i hi; omega
  · rcases List.mem_cons.1 hi with ei | hi2
    · rcases List.mem_cons.1 hk with ek | hk2
      · exact absurd (ei.trans ek.symm) hne
      · rw [ei, upd_self, upd_ne _ _ _ _ (ne k hk2)]; exact .inr (h.lo k hk2).2.2
    · rcases List.mem_cons.1 hk with ek | hk2
      · rw [ek, upd_self, upd_ne _ _ _ _ (ne i hi2)]; exact .inl (h.lo i hi2).2.2
      · rw [upd_ne _ _ _ _ (ne i hi2), upd_ne _ _ _ _ (ne k hk2)]; exact h.apart i hi2 k hk2 hne
theorem PX.of_mem {W0 : World} {s s' : List Nat} {Po : Nat → Nat → Nat → World → (Nat → Value) → Prop} {x : Nat → Value} {iv : Nat → Nat × Nat} {w : World} (h : PX W0 s Po x iv w) (hs : ∀ i ∈ s', i ∈ s) : PX W0 s' Po x iv w :=
  ⟨h.bel, fun i hi => h.post i (hs i hi), fun i hi => h.lo i (hs i hi), fun i hi j hj => h.apart i (hs i hi) j (hs j hj)⟩
/-- What each waits for is among its edges. -/
def depsOk (ops : Array Oper) (js : List Nat) (deps : Nat → List Nat) : Bool := js.all fun j => match ops[j]? with | some o => (deps j).all fun k => o.after.any fun e => e.on == k && Region.binds .any e | none => false
section
variable {P : Program} {ops : Array Oper} {Q : Exit → Act → World → Prop}
/-- The region, whatever order is drawn. -/
theorem wp_region_gen {id : Nat} {w : World} {a0 : Act} (hm : P.follows .mixedOrders = true) (js line : List Nat) (deps : Nat → List Nat) (act : (Nat → Value) → Act) (x0 : Nat → Value) (ha : a0 = act x0) (Po : Nat → Nat → Nat → World → (Nat → Value) → Prop)
    (stable : ∀ i lo hi w w' x, Po i lo hi w x → Below w.heap.size w w' → Po i lo hi w' x) (cong : ∀ i lo hi w x x', x i = x' i → (∀ k ∈ deps i, x k = x' k) → Po i lo hi w x → Po i lo hi w x')
    (ok : makersOk .any ops js = true) (okl : lineOk .any ops js line = true) (okd : depsOk ops js deps = true) (hsz : line.length + js.length = ops.size)
    (prod : ∀ j ∈ js, ∀ s x iv W, (∀ k ∈ deps j, k ∈ s) → PX w.drew s Po x iv W → ∀ K : Act → World → Prop, (∀ v W', Below W.heap.size W W' → Po j W.heap.size W'.heap.size W' (upd x j v) → K (act (upd x j v)) W') → wpOp P ops Q j K (act x) W)
    (rest : ∀ x iv W, PX w.drew js Po x iv W → wpList P ops Q (line.filterMap fun i => ops[i]?) (act x) W) : (Code.region id ops true).wp P Q a0 w := by
  have dep : ∀ j ∈ js, ∀ s, j ∈ Region.ready .any ops (mask ops.size s) → ∀ k ∈ deps j, k ∈ s := by
    intro j hj s hr k hk
    have h := List.all_eq_true.1 okd j hj
    cases ho : ops[j]? with
    | none => rw [ho] at h; cases h
    | some o =>
      rw [ho] at h
      simp only [List.all_eq_true, Array.any_eq_true] at h
      obtain ⟨i, hi, h2⟩ := h k hk
      simp only [Bool.and_eq_true, beq_iff_eq] at h2
      exact ready_dep hr ho ⟨o.after[i], Array.getElem_mem hi, h2.1, h2.2⟩
  refine wp_region_makers hm js line act x0 ha (fun _ _ _ _ _ => True) (fun s x W => (∀ i ∈ s, ∀ k ∈ deps i, k ∈ s) ∧ ∃ iv, PX w.drew s Po x iv W) (fun _ _ _ _ _ _ _ _ => trivial) ok okl hsz ⟨(fun i hi => by cases hi), fun _ => (0, 0), ⟨Below.refl _ _, (fun i hi => by cases hi), (fun i hi => by cases hi), (fun i hi => by cases hi)⟩⟩ ?_ ?_
  · intro j hj s x iv W hr hns _ hI K hK
    obtain ⟨hcl, iv2, hp⟩ := hI
    have hd := dep j hj s hr
    refine prod j hj s x iv2 W hd hp K fun v W' hb hpo => hK v W' hb trivial ⟨fun i hi k hk => ?_, _, hp.add deps stable cong hcl hns hb hpo⟩
    rcases List.mem_cons.1 hi with rfl | hi
    · exact List.mem_cons_of_mem _ (hd k hk)
    · exact List.mem_cons_of_mem _ (hcl i hi k hk)
  · intro s x iv W hs _ hI
    obtain ⟨-, iv2, hp⟩ := hI
    exact rest x iv2 W (hp.of_mem hs)
end
end Go.Proofs.YtbebgnknjoclkaaGreat.Kit
namespace Go.Proofs.YtbebgnknjoclkaaGreat.Kit
open Go.RowKit
/-- What is told of one operation's value: out of the interval of its blocks, the world, the value, and the values that it waited for. -/
structure Mk where
  deps : List Nat
  P : Nat → Nat → World → Value → (Nat → Value) → Prop
  st : ∀ lo hi w w' v x, P lo hi w v x → Below w.heap.size w w' → P lo hi w' v x
  cg : ∀ lo hi w v x x', (∀ k ∈ deps, x k = x' k) → P lo hi w v x → P lo hi w v x'
/-- Nothing is told. -/
def Mk.triv : Mk := ⟨[], fun _ _ _ _ _ => True, fun _ _ _ _ _ _ _ _ => trivial, fun _ _ _ _ _ _ _ _ => trivial⟩
/-- The value is known. -/
def Mk.const (deps : List Nat) (C : Value) : Mk := ⟨deps, fun _ _ _ v _ => v = C, fun _ _ _ _ _ _ h _ => h, fun _ _ _ _ _ _ _ h => h⟩
/-- Something is told of the value alone. -/
def Mk.val (deps : List Nat) (R : Nat → Nat → World → Value → Prop) (st : ∀ lo hi w w' v, R lo hi w v → Below w.heap.size w w' → R lo hi w' v) : Mk :=
  ⟨deps, fun lo hi w v _ => R lo hi w v, fun lo hi w w' v _ h hb => st lo hi w w' v h hb, fun _ _ _ _ _ _ _ h => h⟩
/-- Something is told of the value, beside one that it waited for. -/
def Mk.val1 (deps : List Nat) (k : Nat) (hk : k ∈ deps) (R : Nat → Nat → World → Value → Value → Prop) (st : ∀ lo hi w w' u v, R lo hi w u v → Below w.heap.size w w' → R lo hi w' u v) : Mk :=
  ⟨deps, fun lo hi w v x => R lo hi w (x k) v, fun lo hi w w' v x h hb => st lo hi w w' (x k) v h hb, fun lo hi w v x x' e h => by rw [← e k hk]; exact h⟩
/-- The frame with the values of the first operations in their slots. -/
def actOf (a : Act) : List Nat → Nat → (Nat → Value) → Act
  | [], _, _ => a
  | s :: r, i, x => actOf (a.put (some s) (x i)) r (i + 1) x
section
variable {P : Program} {ops : Array Oper} {Q : Exit → Act → World → Prop}
theorem wp_region_mk {id : Nat} {w : World} {a0 : Act} (hm : P.follows .mixedOrders = true) (js line sl : List Nat) (L : Nat → Mk) (x0 : Nat → Value) (ha : a0 = actOf a0 sl 0 x0)
    (ok : makersOk .any ops js = true) (okl : lineOk .any ops js line = true) (okd : depsOk ops js (fun i => (L i).deps) = true) (hsz : line.length + js.length = ops.size)
    (prod : ∀ j ∈ js, ∀ s x iv W, (∀ k ∈ (L j).deps, k ∈ s) → PX w.drew s (fun i lo hi w x => (L i).P lo hi w (x i) x) x iv W → ∀ K : Act → World → Prop, (∀ v W', Below W.heap.size W W' → (L j).P W.heap.size W'.heap.size W' v (upd x j v) → K (actOf a0 sl 0 (upd x j v)) W') → wpOp P ops Q j K (actOf a0 sl 0 x) W)
    (rest : ∀ x iv W, PX w.drew js (fun i lo hi w x => (L i).P lo hi w (x i) x) x iv W → wpList P ops Q (line.filterMap fun i => ops[i]?) (actOf a0 sl 0 x) W) : (Code.region id ops true).wp P Q a0 w :=
  wp_region_gen hm js line (fun i => (L i).deps) (actOf a0 sl 0) x0 ha (fun i lo hi w x => (L i).P lo hi w (x i) x) (fun i lo hi w w' x h hb => (L i).st lo hi w w' (x i) x h hb)
    (fun i lo hi w x x' e1 e2 h => by rw [← e1]; exact (L i).cg lo hi w (x i) x x' e2 h) ok okl okd hsz (fun j hj s x iv W hd hp K hK => prod j hj s x iv W hd hp K fun v W' hb h => hK v W' hb (by rw [upd_self]; exact h)) rest
/-- The same, from the values that lie in the slots. -/
theorem wp_region_mks {id : Nat} {w : World} {a0 : Act} (hm : P.follows .mixedOrders = true) (js line sl : List Nat) (L : Nat → Mk) (ha : a0 = actOf a0 sl 0 (fun i => a0.tmps.getD (sl.getD i 0) undef))
    (ok : makersOk .any ops js = true) (okl : lineOk .any ops js line = true) (okd : depsOk ops js (fun i => (L i).deps) = true) (hsz : line.length + js.length = ops.size)
    (prod : ∀ j ∈ js, ∀ s x iv W, (∀ k ∈ (L j).deps, k ∈ s) → PX w.drew s (fun i lo hi w x => (L i).P lo hi w (x i) x) x iv W → ∀ K : Act → World → Prop, (∀ v W', Below W.heap.size W W' → (L j).P W.heap.size W'.heap.size W' v (upd x j v) → K (actOf a0 sl 0 (upd x j v)) W') → wpOp P ops Q j K (actOf a0 sl 0 x) W)
    (rest : ∀ x iv W, PX w.drew js (fun i lo hi w x => (L i).P lo hi w (x i) x) x iv W → wpList P ops Q (line.filterMap fun i => ops[i]?) (actOf a0 sl 0 x) W) : (Code.region id ops true).wp P Q a0 w :=
  wp_region_mk hm js line sl L _ ha ok okl okd hsz prod rest
/-- The same, with the frame written out. -/
theorem wp_region_frm {id : Nat} {w : World} {a0 : Act} (hm : P.follows .mixedOrders = true) (js line : List Nat) (L : Nat → Mk) (act : (Nat → Value) → Act) (x0 : Nat → Value) (ha : a0 = act x0)
    (ok : makersOk .any ops js = true) (okl : lineOk .any ops js line = true) (okd : depsOk ops js (fun i => (L i).deps) = true) (hsz : line.length + js.length = ops.size)
    (prod : ∀ j ∈ js, ∀ s x iv W, (∀ k ∈ (L j).deps, k ∈ s) → PX w.drew s (fun i lo hi w x => (L i).P lo hi w (x i) x) x iv W → ∀ K : Act → World → Prop, (∀ v W', Below W.heap.size W W' → (L j).P W.heap.size W'.heap.size W' v (upd x j v) → K (act (upd x j v)) W') → wpOp P ops Q j K (act x) W)
    (rest : ∀ x iv W, PX w.drew js (fun i lo hi w x => (L i).P lo hi w (x i) x) x iv W → wpList P ops Q (line.filterMap fun i => ops[i]?) (act x) W) : (Code.region id ops true).wp P Q a0 w :=
  wp_region_gen hm js line (fun i => (L i).deps) act x0 ha (fun i lo hi w x => (L i).P lo hi w (x i) x) (fun i lo hi w w' x h hb => (L i).st lo hi w w' (x i) x h hb)
    (fun i lo hi w x x' e1 e2 h => by rw [← e1]; exact (L i).cg lo hi w (x i) x x' e2 h) ok okl okd hsz (fun j hj s x iv W hd hp K hK => prod j hj s x iv W hd hp K fun v W' hb h => hK v W' hb (by rw [upd_self]; exact h)) rest
end
end Go.Proofs.YtbebgnknjoclkaaGreat.Kit
/- A drawn region whose operations only read and make memory, ahead of others that may come in several orders: each way out is told by its lines. No Go function is spoken of. -/
namespace Go.Proofs.YtbebgnknjoclkaaGreat.Kit
open Go.RowKit
/-- At each state of the makers some are ready, and no other operation is, but at the states that are listed. -/
def makersOk2 (md : Region.Mode) (ops : Array Oper) (js : List Nat) (exits : List (List Nat)) : Bool :=
  (subs js).all fun t => t == js || exits.contains t || !closedB md ops t || (!(Region.ready md ops (mask ops.size t)).isEmpty && (Region.ready md ops (mask ops.size t)).all fun i => js.contains i && !t.contains i)
/-- At a state each that is ready opens one of the lines. -/
def altOk (md : Region.Mode) (ops : Array Oper) (t : List Nat) (lines : List (List Nat)) : Bool :=
  (Region.ready md ops (mask ops.size t)).all (fun j => lines.any fun l => match l with | i :: r => i == j && (ops[i]?).isSome && lineOk md ops (i :: t) r | [] => false) && !(Region.ready md ops (mask ops.size t)).isEmpty
section
variable {P : Program} {ops : Array Oper} {Q : Exit → Act → World → Prop} {md : Region.Mode}
theorem wpAny_alts (t : List Nat) (lines : List (List Nat)) (fuel : Nat) (a : Act) (w : World) (h : altOk md ops t lines = true) (hl : ∀ l ∈ lines, l.length ≤ fuel) (hw : ∀ l ∈ lines, wpList P ops Q (l.filterMap fun i => ops[i]?) a w) : wpAny P md ops Q fuel (mask ops.size t) a w := by
  simp only [altOk, Bool.and_eq_true, List.all_eq_true, List.any_eq_true] at h
  obtain ⟨h1, h2⟩ := h
  cases fuel with
  | zero =>
    exfalso
    cases hr : Region.ready md ops (mask ops.size t) with
    | nil => rw [hr] at h2; simp at h2
    | cons j r =>
      obtain ⟨l, hl1, hl2⟩ := h1 j (by rw [hr]; simp)
      cases l with
      | nil => simp at hl2
      | cons i r => have := hl _ hl1; simp at this
  | succ fuel =>
    refine wpAny_all rfl (by intro e; rw [e] at h2; simp at h2) fun j hj => ?_
    obtain ⟨l, hl1, hl2⟩ := h1 j hj
    cases l with
    | nil => simp at hl2
    | cons i r =>
      simp only [Bool.and_eq_true, beq_iff_eq] at hl2
      obtain ⟨⟨rfl, h3⟩, h4⟩ := hl2
      obtain ⟨o, ho⟩ := Option.isSome_iff_exists.1 h3
      rw [mask_set]
      have hw' : wpList P ops Q (o :: r.filterMap fun i => ops[i]?) a w := by simpa [ho] using hw _ hl1
      refine wpOp_mono (fun a w hq => wpAny_line r (i :: t) fuel a w h4 (by have := hl _ hl1; simpa using this) hq) ?_
      unfold wpOp
      rw [ho]
      exact hw'
theorem wpAny_makers2 (js : List Nat) (exits : List (List Nat)) (fuel : Nat) (act : (Nat → Value) → Act) (Inv : List Nat → (Nat → Value) → World → Prop) (ok : makersOk2 md ops js exits = true)
    (prod : ∀ j ∈ js, ∀ s x W, j ∈ Region.ready md ops (mask ops.size s) → ¬ j ∈ s → Inv s x W → ∀ K : Act → World → Prop, (∀ v W', Inv (j :: s) (upd x j v) W' → K (act (upd x j v)) W') → wpOp P ops Q j K (act x) W)
    (rest : ∀ s x W f, fuel ≤ f → (∀ i ∈ js, i ∈ s) → Inv s x W → wpAny P md ops Q f (mask ops.size js) (act x) W)
    (out : ∀ t ∈ exits, ∀ s x W f, fuel + (js.filter fun i => !t.contains i).length ≤ f → (∀ i, i ∈ s ↔ i ∈ t) → Inv s x W → wpAny P md ops Q f (mask ops.size t) (act x) W) :
    ∀ (m f : Nat) (s : List Nat) (x : Nat → Value) (W : World), (js.filter fun i => !s.contains i).length ≤ m → fuel ≤ f → (∀ i ∈ s, i ∈ js) → (∀ i ∈ s, ∀ o, ops[i]? = some o → ∀ e ∈ o.after, Region.binds md e = true → e.on ∈ s) → Inv s x W → wpAny P md ops Q (f + m) (mask ops.size s) (act x) W := by
  intro m
  induction m with
  | zero =>
    intro f s x W hc hf hs hcl hv
    have hall : ∀ i ∈ js, i ∈ s := fun i hi => by
      by_cases h : i ∈ s
      · exact h
      · have : i ∈ js.filter fun i => !s.contains i := List.mem_filter.2 ⟨hi, by simpa using h⟩
        rw [List.eq_nil_of_length_eq_zero (Nat.le_zero.1 hc)] at this
        cases this
    rw [mask_congr ops.size s js fun i => ⟨hs i, hall i⟩]
    exact rest s x W (f + 0) (by omega) hall hv
  | succ m ih =>
    intro f s x W hc hf hs hcl hv
    by_cases hall : ∀ i ∈ js, i ∈ s
    · rw [mask_congr ops.size s js fun i => ⟨hs i, hall i⟩]
      exact rest s x W _ (by omega) hall hv
    · have hst : ∀ i, i ∈ s ↔ i ∈ js.filter fun i => s.contains i := fun i => ⟨fun h => List.mem_filter.2 ⟨hs i h, by simpa using h⟩, fun h => by simpa using (List.mem_filter.1 h).2⟩
      have hmask : mask ops.size s = mask ops.size (js.filter fun i => s.contains i) := mask_congr _ _ _ hst
      by_cases hex : (js.filter fun i => s.contains i) ∈ exits
      · rw [hmask]
        refine out _ hex s x W _ ?_ hst hv
        have e : (js.filter fun i => !(js.filter fun i => s.contains i).contains i) = js.filter fun i => !s.contains i := by
          apply List.filter_congr
          intro i hi
          by_cases e2 : i ∈ s <;> simp [hi, e2]
        rw [e]
        omega
      have hk := List.all_eq_true.1 ok _ (filter_subs (fun i => s.contains i) js)
      have hne : ((js.filter fun i => s.contains i) == js) = false := by
        apply Bool.eq_false_iff.2
        intro e
        rw [beq_iff_eq] at e
        exact hall fun i hi => by
          rw [← e] at hi
          simpa using (List.mem_filter.1 hi).2
      have hexf : exits.contains (js.filter fun i => s.contains i) = false := by
        apply Bool.eq_false_iff.2
        intro e
        exact hex (by simpa using e)
      have hclo : closedB md ops (js.filter fun i => s.contains i) = true := by
        refine List.all_eq_true.2 fun i hi => ?_
        have his : i ∈ s := by simpa using (List.mem_filter.1 hi).2
        cases ho : ops[i]? with
        | none => rfl
        | some o =>
          simp only
          refine Array.all_eq_true_iff_forall_mem.2 fun e he => ?_
          cases hbi : Region.binds md e with
          | false => rfl
          | true =>
            have := hcl i his o ho e he hbi
            simp [this, hs _ this]
      rw [hne, hexf, hclo, Bool.false_or, Bool.false_or, Bool.not_true, Bool.false_or, Bool.and_eq_true] at hk
      obtain ⟨h1, h2⟩ := hk
      rw [← hmask] at h1 h2
      refine wpAny_all rfl (by intro e; rw [e] at h1; simp at h1) fun j hj => ?_
      have hj2 := List.all_eq_true.1 h2 j hj
      simp only [Bool.and_eq_true, List.contains_iff_mem, Bool.not_eq_true'] at hj2
      have hjs : j ∈ js := by simpa using hj2.1
      have hjn : ¬ j ∈ s := fun h => by
        have : j ∈ js.filter fun i => s.contains i := List.mem_filter.2 ⟨hjs, by simpa using h⟩
        have h3 := hj2.2
        simp [hjs, h] at h3
      rw [mask_set]
      refine prod j hjs s x W hj hjn hv _ fun v W' hv' => ih f (j :: s) _ W' ?_ hf (fun i hi => (List.mem_cons.1 hi).elim (fun e => e ▸ hjs) (hs i)) (fun i hi o ho e he hbi => List.mem_cons_of_mem _ ((List.mem_cons.1 hi).elim (fun q => by subst q; exact ready_dep hj ho ⟨e, he, rfl, hbi⟩) (fun q => hcl i q o ho e he hbi))) hv'
      have hlt : (js.filter fun i => !(j :: s).contains i).length < (js.filter fun i => !s.contains i).length := by
        have e : (js.filter fun i => !(j :: s).contains i) = (js.filter fun i => !s.contains i).filter fun i => !(i == j) := by
          rw [List.filter_filter]
          apply List.filter_congr
          intro i _
          by_cases e1 : i = j <;> by_cases e2 : i ∈ s <;> simp [e1, e2]
        rw [e, List.length_filter_lt_length_iff_exists]
        exact ⟨j, List.mem_filter.2 ⟨hjs, by simpa using hjn⟩, by simp⟩
      omega
/-- The lines of each way out fit in what is left. -/
def altsOk (md : Region.Mode) (ops : Array Oper) (js line : List Nat) (alts : List (List Nat × List (List Nat))) : Bool :=
  alts.all fun q => altOk md ops q.1 q.2 && q.2.all fun l => decide (l.length ≤ line.length + (js.filter fun i => !q.1.contains i).length)
/-- The region, whatever order is drawn, with the frame written out, and ways out ahead of the end. -/
theorem wp_region_alt {id : Nat} {w : World} {a0 : Act} (hm : P.follows .mixedOrders = true) (js line : List Nat) (alts : List (List Nat × List (List Nat))) (L : Nat → Mk) (act : (Nat → Value) → Act) (x0 : Nat → Value) (ha : a0 = act x0)
    (ok : makersOk2 .any ops js (alts.map (·.1)) = true) (okl : lineOk .any ops js line = true) (oka : altsOk .any ops js line alts = true) (okd : depsOk ops js (fun i => (L i).deps) = true) (hsz : line.length + js.length = ops.size)
    (prod : ∀ j ∈ js, ∀ s x iv W, (∀ k ∈ (L j).deps, k ∈ s) → PX w.drew s (fun i lo hi w x => (L i).P lo hi w (x i) x) x iv W → ∀ K : Act → World → Prop, (∀ v W', Below W.heap.size W W' → (L j).P W.heap.size W'.heap.size W' v (upd x j v) → K (act (upd x j v)) W') → wpOp P ops Q j K (act x) W)
    (rest : ∀ x iv W, PX w.drew js (fun i lo hi w x => (L i).P lo hi w (x i) x) x iv W → wpList P ops Q (line.filterMap fun i => ops[i]?) (act x) W)
    (out : ∀ q ∈ alts, ∀ l ∈ q.2, ∀ x iv W, PX w.drew q.1 (fun i lo hi w x => (L i).P lo hi w (x i) x) x iv W → wpList P ops Q (l.filterMap fun i => ops[i]?) (act x) W) : (Code.region id ops true).wp P Q a0 w := by
  have dep : ∀ j ∈ js, ∀ s, j ∈ Region.ready .any ops (mask ops.size s) → ∀ k ∈ (L j).deps, k ∈ s := by
    intro j hj s hr k hk
    have h := List.all_eq_true.1 okd j hj
    cases ho : ops[j]? with
    | none => rw [ho] at h; cases h
    | some o =>
      rw [ho] at h
      simp only [List.all_eq_true, Array.any_eq_true] at h
      obtain ⟨i, hi, h2⟩ := h k hk
      simp only [Bool.and_eq_true, beq_iff_eq] at h2
      exact ready_dep hr ho ⟨o.after[i], Array.getElem_mem hi, h2.1, h2.2⟩
  subst ha
  refine wp_region_any hm ?_
  have h := wpAny_makers2 (P := P) (Q := Q) (md := .any) js (alts.map (·.1)) line.length act (fun s x W => (∀ i ∈ s, ∀ k ∈ (L i).deps, k ∈ s) ∧ ∃ iv, PX w.drew s (fun i lo hi w x => (L i).P lo hi w (x i) x) x iv W) ok ?_ ?_ ?_ js.length line.length [] x0 w.drew (List.length_filter_le _ _) (Nat.le_refl _) (fun i hi => by cases hi) (fun i hi => by cases hi) ⟨(fun i hi => by cases hi), fun _ => (0, 0), ⟨Below.refl _ _, (fun i hi => by cases hi), (fun i hi => by cases hi), (fun i hi => by cases hi)⟩⟩
  · rw [hsz, mask_nil] at h
    exact h
  · intro j hj s x W hr hns hI K hK
    obtain ⟨hcl, iv2, hp⟩ := hI
    have hd := dep j hj s hr
    refine prod j hj s x iv2 W hd hp K fun v W' hb hpo => hK v W' ⟨fun i hi k hk => ?_, _, hp.add (fun i => (L i).deps) (fun i lo hi w w' x h hb => (L i).st lo hi w w' (x i) x h hb) (fun i lo hi w x x' e1 e2 h => by rw [← e1]; exact (L i).cg lo hi w (x i) x x' e2 h) hcl hns hb (by rw [upd_self]; exact hpo)⟩
    rcases List.mem_cons.1 hi with rfl | hi
    · exact List.mem_cons_of_mem _ (hd k hk)
    · exact List.mem_cons_of_mem _ (hcl i hi k hk)
  · intro s x W f hf hs hI
    obtain ⟨-, iv2, hp⟩ := hI
    exact wpAny_line line js f (act x) W okl hf (rest x iv2 W (hp.of_mem hs))
  · intro t ht s x W f hf hst hI
    obtain ⟨-, iv2, hp⟩ := hI
    obtain ⟨q, hq, rfl⟩ := List.mem_map.1 ht
    have h1 := List.all_eq_true.1 oka q hq
    simp only [Bool.and_eq_true, List.all_eq_true, decide_eq_true_eq] at h1
    exact wpAny_alts q.1 q.2 f (act x) W h1.1 (fun l hl => Nat.le_trans (h1.2 l hl) hf) fun l hl => out q hq l hl x iv2 W (hp.of_mem fun i hi => (hst i).2 hi)
end
end Go.Proofs.YtbebgnknjoclkaaGreat.Kit
/- Of the specification: l11Find by its contract. -/
namespace Go.Proofs.YtbebgnknjoclkaaGreat.Kit
open Go.RowKit
section
variable {P : Program} {ops : Array Oper} {Q : Exit → Act → World → Prop} {a : Act} {w : World}
theorem line2 {i j : Nat} {o1 o2 : Oper} (h1 : ops[i]? = some o1) (h2 : ops[j]? = some o2) (h : wpList P ops Q [o1, o2] a w) : wpList P ops Q ([i, j].filterMap fun k => ops[k]?) a w := by
  simpa [h1, h2] using h
theorem line3 {i j k : Nat} {o1 o2 o3 : Oper} (h1 : ops[i]? = some o1) (h2 : ops[j]? = some o2) (h3 : ops[k]? = some o3) (h : wpList P ops Q [o1, o2, o3] a w) : wpList P ops Q ([i, j, k].filterMap fun k => ops[k]?) a w := by
  simpa [h1, h2, h3] using h
end
def MkW (T : TypeId) (Z : Array Value) : Mk := .val [] (fun lo hi w v => v = .pointer (some ⟨lo, 0, none⟩) ∧ hi = lo + 1 ∧ AtC w lo T Z) (fun _ _ _ _ _ h hb => ⟨h.1, h.2.1, h.2.2.over hb⟩)
/-- The first of two. -/
def fstOf : Value → Value
  | .tuple xs => xs.getD 0 undef
  | u => u
/-- A block and a flag. -/
def MkBf (k l : Nat) (w0 : World) (d : Bool) (t : ByteArray) (ss : List Sl) (f : Bool) : Mk := .val [k, l] (fun _ _ _ v => ∃ a c, v = .tuple #[.agg #[.bool d, .slice a ss.length c, .string t], .bool f] ∧ RSl w0 (.slice a ss.length c) ss)
  (fun _ _ _ _ _ h _ => h)
def MkBv (k : Nat) (d : Bool) (t : ByteArray) (n : Nat) (f : Bool) : Mk := .val1 [k] k (by simp) (fun _ _ _ u v => u = v ∧ ∃ a c, v = .tuple #[.agg #[.bool d, .slice a n c, .string t], .bool f]) (fun _ _ _ _ _ _ h _ => h)
def MkBx (k : Nat) : Mk := .val1 [k] k (by simp) (fun _ _ _ u v => v = fstOf u) (fun _ _ _ _ _ _ h _ => h)


end Go.Proofs.YtbebgnknjoclkaaGreat.Kit
namespace Go.Proofs.YtbebgnknjoclkaaGreat
open Go.RowKit Kit
theorem blkAt_len {xs ys : List Bool} {is : List Ino} {bs : List Blk} (hB : Big 1048576 xs ys is bs) (x : Int) : (blkAt bs x).2.1.length ≤ 1048576 := by
  unfold blkAt
  split
  · by_cases h : (x - 1).toNat < bs.length
    · rw [List.getD_eq_getElem?_getD, List.getElem?_eq_getElem h]
      exact (hB.s _ h).1
    · rw [List.getD_eq_getElem?_getD, List.getElem?_eq_none (by omega)]
      exact Nat.zero_le _
  · exact Nat.zero_le _
end Go.Proofs.YtbebgnknjoclkaaGreat
/- What is told of the operations of a region that takes the results of a call apart, one of them into a new variable. No Go function is spoken of. -/
namespace Go.Proofs.YtbebgnknjoclkaaGreat.Kit
open Go.RowKit
/-- The second of several. -/
def sndOf : Value → Value
  | .tuple xs => xs.getD 1 undef
  | u => u
/-- The third of several. -/
def thdOf : Value → Value
  | .tuple xs => xs.getD 2 undef
  | u => u
/-- Two results, of which something is told. -/
def MkT2 (ds : List Nat) (R : Nat → Nat → World → Value → Value → Prop) (hst : ∀ lo hi w w' a r, R lo hi w a r → Below w.heap.size w w' → R lo hi w' a r) : Mk := .val ds (fun lo hi w v => ∃ a r, v = .tuple #[a, r] ∧ R lo hi w a r)
  (fun lo hi w w' _ h hb => by obtain ⟨a, r, h1, h2⟩ := h; exact ⟨a, r, h1, hst lo hi w w' a r h2 hb⟩)
/-- Three results. -/
def MkT3 (ds : List Nat) (R : Nat → World → Value → Value → Value → Prop) (hst : ∀ lo w w' a r q, R lo w a r q → Below w.heap.size w w' → R lo w' a r q) : Mk := .val ds (fun lo _ w v => ∃ a r q, v = .tuple #[a, r, q] ∧ R lo w a r q)
  (fun lo _ w w' _ h hb => by obtain ⟨a, r, q, h1, h2⟩ := h; exact ⟨a, r, q, h1, hst lo w w' a r q h2 hb⟩)
/-- The same, in another place. -/
def MkMv (k : Nat) : Mk := .val1 [k] k (by simp) (fun _ _ _ u v => u = v ∧ ∃ a r, v = .tuple #[a, r]) (fun _ _ _ _ _ _ h _ => h)
def MkMv3 (k : Nat) : Mk := .val1 [k] k (by simp) (fun _ _ _ u v => u = v ∧ ∃ a r q, v = .tuple #[a, r, q]) (fun _ _ _ _ _ _ h _ => h)
def MkFs (k : Nat) : Mk := .val1 [k] k (by simp) (fun _ _ _ u v => v = fstOf u) (fun _ _ _ _ _ _ h _ => h)
def MkSd (k : Nat) : Mk := .val1 [k] k (by simp) (fun _ _ _ u v => v = sndOf u) (fun _ _ _ _ _ _ h _ => h)
def MkTd (k : Nat) : Mk := .val1 [k] k (by simp) (fun _ _ _ u v => v = thdOf u) (fun _ _ _ _ _ _ h _ => h)
end Go.Proofs.YtbebgnknjoclkaaGreat.Kit
/- The states of a region's operations that are closed under what they wait for, counted without the others. No Go function is spoken of. -/
namespace Go.Proofs.YtbebgnknjoclkaaGreat.Kit
open Go.RowKit
/-- One of t waits for x. -/
def needs (md : Region.Mode) (ops : Array Oper) (t : List Nat) (x : Nat) : Bool := t.any fun i => match ops[i]? with | some o => o.after.any fun e => Region.binds md e && e.on == x | none => false
def ideals (md : Region.Mode) (ops : Array Oper) : List Nat → List (List Nat)
  | [] => [[]]
  | x :: r => (ideals md ops r).filter (fun t => !needs md ops t x) ++ (ideals md ops r).map fun t => x :: t
theorem subs_sub : ∀ (js t : List Nat), t ∈ subs js → ∀ i ∈ t, i ∈ js
  | [], t, h, i, hi => by simp [subs] at h; subst h; simp at hi
  | x :: r, t, h, i, hi => by
    rw [subs, List.mem_append] at h
    rcases h with h | h
    · exact List.mem_cons_of_mem _ (subs_sub r t h i hi)
    · obtain ⟨t', h', rfl⟩ := List.mem_map.mp h
      rcases List.mem_cons.mp hi with rfl | hi
      · exact List.mem_cons_self
      · exact List.mem_cons_of_mem _ (subs_sub r t' h' i hi)
theorem mem_ideals (md : Region.Mode) (ops : Array Oper) : ∀ (js : List Nat), js.Nodup → ∀ t ∈ subs js, (∀ i ∈ t, ∀ o, ops[i]? = some o → ∀ e ∈ o.after, Region.binds md e = true → e.on ∈ js → e.on ∈ t) → t ∈ ideals md ops js
  | [], _, t, ht, _ => by simpa [subs, ideals] using ht
  | x :: r, hn, t, ht, hc => by
    obtain ⟨hx, hr⟩ := List.nodup_cons.mp hn
    rw [subs, List.mem_append] at ht
    rw [ideals, List.mem_append]
    rcases ht with ht | ht
    · left
      refine List.mem_filter.mpr ⟨mem_ideals md ops r hr t ht fun i hi o ho e he hb hj => hc i hi o ho e he hb (List.mem_cons_of_mem _ hj), ?_⟩
      have hxt : x ∉ t := fun e => hx (subs_sub r t ht x e)
      simp only [Bool.not_eq_true', needs, List.any_eq_false]
      intro i hi
      cases ho : ops[i]? with
      | none => simp
      | some o =>
        intro hh
        obtain ⟨k, hk, hh⟩ := Array.any_eq_true.mp hh
        simp only [Bool.and_eq_true, beq_iff_eq] at hh
        obtain ⟨hb, he⟩ := hh
        exact hxt (he ▸ hc i hi o ho o.after[k] (Array.getElem_mem hk) hb (by rw [he]; exact List.mem_cons_self))
    · right
      obtain ⟨t', h', rfl⟩ := List.mem_map.mp ht
      refine List.mem_map.mpr ⟨t', mem_ideals md ops r hr t' h' fun i hi o ho e he hb hj => ?_, rfl⟩
      rcases List.mem_cons.mp (hc i (List.mem_cons_of_mem _ hi) o ho e he hb (List.mem_cons_of_mem _ hj)) with q | q
      · exact absurd (q ▸ hj) hx
      · exact q
def makersOkI (md : Region.Mode) (ops : Array Oper) (js : List Nat) (exits : List (List Nat)) : Bool :=
  (ideals md ops js).all fun t => t == js || exits.contains t || !closedB md ops t || (!(Region.ready md ops (mask ops.size t)).isEmpty && (Region.ready md ops (mask ops.size t)).all fun i => js.contains i && !t.contains i)
theorem makersOk2_of {md : Region.Mode} {ops : Array Oper} {js : List Nat} {exits : List (List Nat)} (hn : decide js.Nodup = true) (h : makersOkI md ops js exits = true) : makersOk2 md ops js exits = true := by
  unfold makersOk2
  refine List.all_eq_true.mpr fun t ht => ?_
  by_cases hc : closedB md ops t = true
  · refine List.all_eq_true.mp h t (mem_ideals md ops js (of_decide_eq_true hn) t ht fun i hi o ho e he hb _ => ?_)
    have := List.all_eq_true.mp hc i hi
    rw [ho] at this
    obtain ⟨k, hk, rfl⟩ := Array.mem_iff_getElem.mp he
    have := Array.all_eq_true.mp this k hk
    rw [hb] at this
    simpa using this
  · simp [hc]
theorem makersOk_of {md : Region.Mode} {ops : Array Oper} {js : List Nat} (hn : decide js.Nodup = true) (h : makersOkI md ops js [] = true) : makersOk md ops js = true := by
  have := makersOk2_of hn h
  unfold makersOk2 at this
  unfold makersOk
  simpa using this
end Go.Proofs.YtbebgnknjoclkaaGreat.Kit
/- Small facts of texts and appends. No Go function is spoken of. -/
namespace Go.Proofs.YtbebgnknjoclkaaGreat.Kit
open Go.RowKit
/-- Texts as cells. -/
def stc (l : List ByteArray) : List Value := l.map fun z => Value.string z
theorem stc_length (l : List ByteArray) : (stc l).length = l.length := by simp [stc]
theorem stc_append (a b : List ByteArray) : stc (a ++ b) = stc a ++ stc b := by simp [stc]
theorem step_append_one {P : Program} (W : World) {ops : Array Oper} {o : Oper} {a : Act} {K : Act → World → Prop} {Q : Exit → Act → World → Prop} {E : Prop} (hgd : o.guard = none) (s x : Operand) (t : TypeId)
    (ho : o.op = .call { callee := .builtin .append, args := #[s, x], argTypes := #[t, t] }) (base : Nat) (e : TypeId) (ht : P.underlying t = some (.slice e)) (z : Value) (bytes : Nat)
    (hi : (P.info? e).map (fun i => (i.zero, i.size, i.bytes)) = some (some z, 1, bytes)) (hzc : z.cells.size = 1) (hby : bytes ≤ 640) (v : Value) (l : List Value) (hs : a.eval s = v) (hown : ROwns W base e v l) (hbase : base ≤ W.heap.size)
    (g : Nat) (y : Value) (hx : a.eval x = .slice (some ⟨g, 0, none⟩) 1 1) (hc : W.cell? ⟨g, 0, none⟩ = some y) (h1 : y.oneCell' = true) (hl : l.length ≤ 100000000000)
    (h : ∀ v' w', ROwns w' base e v' (l ++ [y]) → W.grownBy w' v.ownBlock → (∀ k, v'.ownBlock = some k → v.ownBlock = some k ∨ W.heap.size ≤ k) → K (a.put o.dst v') w') :
    if Region.wanted o (yielded ops a.tmps) = true then Oper.wp P o a W K Q else E := by
  obtain ⟨i0, hi, hz0, hz1, hz2⟩ := info_parts hi
  refine step_append_lies _ hgd s x t ho base e i0 z 1 bytes ht hi hz0 hz1 hz2 hzc (by decide) v l.length l hs hown ⟨g, 0, none⟩ 1 1 [y] hx rfl ?_ (by simpa using h1) (by decide) ?_ ?_ hbase W.heap.size rfl ?_
  · intro j u hj
    cases j with
    | zero => simp only [List.getElem?_cons_zero, Option.some.injEq] at hj; subst hj; simpa [Addr.add] using hc
    | succ j => simp at hj
  · unfold maxLen; omega
  · have : (l.length + 1) * bytes ≤ 100000000001 * 640 := Nat.mul_le_mul (by omega) hby
    omega
  · intro g' cap w' hown' hgrow hat _
    refine h _ w' ?_ hgrow fun k hk => ?_
    · unfold ROwns
      rw [List.length_append]
      exact hown'
    · simp only [Value.ownBlock, Option.some.injEq] at hk
      subst hk
      rcases hat with hat | hat
      · exact .inl hat
      · exact .inr (by omega)
/-- What l11Block answers: a block that is there, or none. -/
def BlkR (w0 : World) (bd : Bool) (btx : ByteArray) (bss : List Sl) (F : Bool) (_ _ : Nat) (_ : World) (a r : Value) : Prop := ∃ (sa : Option Addr) (sc : Nat), a = .agg #[.bool bd, .slice sa bss.length sc, .string btx] ∧ r = .bool F ∧ RSl w0 (.slice sa bss.length sc) bss
theorem BlkR.below {w0 : World} {bd : Bool} {btx : ByteArray} {bss : List Sl} {F : Bool} (lo hi : Nat) (w w' : World) (a r : Value) (h : BlkR w0 bd btx bss F lo hi w a r) (_ : Below w.heap.size w w') : BlkR w0 bd btx bss F lo hi w' a r := h
theorem beq_empty {a : ByteArray} (h : ¬ a = ⟨#[]⟩) : (a.toList == ([] : List UInt8)) = false := by
  have := beq_false (b := ⟨#[]⟩) h
  rwa [show (⟨#[]⟩ : ByteArray).toList = [] from by rw [ByteArray.toList_eq]] at this
theorem blkAt_in {bs : List Blk} {x : Int} (h : inB x 1 bs.length = true) : ∃ (jb : Nat) (hb : jb < bs.length), x = (jb : Int) + 1 ∧ blkAt bs x = bs[jb] := by
  obtain ⟨h1, h2⟩ := inB_true h
  refine ⟨(x - 1).toNat, by omega, by omega, ?_⟩
  unfold blkAt
  rw [h, if_pos rfl]
  rw [List.getD_eq_getElem?_getD, List.getElem?_eq_getElem (show (x - 1).toNat < bs.length by omega)]
  rfl
end Go.Proofs.YtbebgnknjoclkaaGreat.Kit
/- What the specification's walk tells, as a plain function. No Go function is spoken of. -/
namespace Go.Proofs.YtbebgnknjoclkaaGreat
open Go.RowKit Kit
theorem flatMap_len {α β : Type} {f : α → List β} {m : Nat} : ∀ (l : List α), (∀ x ∈ l, (f x).length ≤ m) → (l.flatMap f).length ≤ l.length * m
  | [], _ => by simp
  | x :: r, h => by
    have h1 := h x (by simp)
    have h2 := flatMap_len r (fun y hy => h y (by simp [hy]))
    rw [List.flatMap_cons, List.length_append, List.length_cons, Nat.add_mul]
    omega
/-- A disk that is right, as far as trees go. -/
structure RD (is : List Ino) (bs : List Blk) : Prop where
  hi : is.length = 8
  hb : bs.length = 16
  kd : ∀ q ∈ is, q.1 = 0 ∨ q.1 = 1 ∨ q.1 = 2
  two : ∀ q ∈ is, q.2.2.length = 2
  four : ∀ q ∈ bs, q.2.1.length ≤ 4
  text : ∀ q ∈ bs, q.1 = false → q.2.1 = []
  nm : ∀ q ∈ bs, ∀ s ∈ q.2.1, s.1 = ⟨#[]⟩ ∨ nameOk s.1 = true
  tx : ∀ q ∈ bs, q.2.2.size ≤ 16
theorem blkAt_cases (bs : List Blk) (x : Int) : blkAt bs x = (false, [], ⟨#[]⟩) ∨ blkAt bs x ∈ bs := by
  cases h : inB x 1 bs.length with
  | false => exact .inl (blkAt_no h)
  | true =>
    obtain ⟨jb, hb, -, e⟩ := blkAt_in h
    exact .inr (by rw [e]; exact List.getElem_mem hb)
theorem kindAt_cases {is : List Ino} (i : Int) : (kindAt is i = 0 ∧ ptrsAt is i = []) ∨ ∃ q ∈ is, kindAt is i = q.1 ∧ ptrsAt is i = q.2.2 := by
  cases h : inB i 1 is.length with
  | false => exact .inl ⟨kindAt_out h, by unfold ptrsAt; rw [h]; rfl⟩
  | true =>
    obtain ⟨h1, h2⟩ := inB_true h
    obtain ⟨j, rfl⟩ : ∃ j : Nat, i = (j : Int) + 1 := ⟨(i - 1).toNat, by omega⟩
    have hj : j < is.length := by omega
    exact .inr ⟨is[j], List.getElem_mem hj, (kindAt_in hj).1, (kindAt_in hj).2⟩
theorem RD.kind {is : List Ino} {bs : List Blk} (h : RD is bs) (i : Int) : kindAt is i = 0 ∨ kindAt is i = 1 ∨ kindAt is i = 2 := by
  rcases kindAt_cases (is := is) i with ⟨e, -⟩ | ⟨q, hq, e, -⟩
  · exact .inl e
  · rw [e]; exact h.kd q hq
theorem RD.blk4 {is : List Ino} {bs : List Blk} (h : RD is bs) (x : Int) : (blkAt bs x).2.1.length ≤ 4 := by
  rcases blkAt_cases bs x with e | e
  · rw [e]; simp
  · exact h.four _ e
theorem nmd_len {is : List Ino} {bs : List Blk} (h : RD is bs) (x : Int) : (nmd (blkAt bs x)).length ≤ 4 := by
  unfold nmd
  split
  · exact Nat.le_trans (List.length_filter_le _ _) (h.blk4 x)
  · simp
theorem RD.named8 {is : List Ino} {bs : List Blk} (h : RD is bs) (i : Int) : (named is bs i).length ≤ 8 := by
  unfold named
  split
  · have h1 := flatMap_len (m := 4) (f := fun p => nmd (blkAt bs p)) (ptrsAt is i) (fun p _ => nmd_len h p)
    have h2 : (ptrsAt is i).length ≤ 2 := by
      rcases kindAt_cases (is := is) i with ⟨-, e⟩ | ⟨q, hq, -, e⟩
      · rw [e]; simp
      · rw [e, h.two q hq]; exact Nat.le_refl _
    have : nmdP bs (ptrsAt is i) = (ptrsAt is i).flatMap (fun p => nmd (blkAt bs p)) := rfl
    rw [this]
    have : (ptrsAt is i).length * 4 ≤ 2 * 4 := Nat.mul_le_mul_right _ h2
    omega
  · simp
theorem RD.name {is : List Ino} {bs : List Blk} (h : RD is bs) {i : Int} {s : Sl} (hs : s ∈ named is bs i) : nameOk s.1 = true := by
  unfold named at hs
  split at hs
  · obtain ⟨p, -, hp⟩ := List.mem_flatMap.1 hs
    unfold nmd at hp
    split at hp
    · obtain ⟨h1, h2⟩ := mem_nmdS hp
      rcases blkAt_cases bs p with e | e
      · rw [e] at h1; simp at h1
      · exact (h.nm _ e s h1).resolve_left h2
    · simp at hp
  · simp at hs
theorem nameOk_size {s : ByteArray} (h : nameOk s = true) : 1 ≤ s.size ∧ s.size ≤ 6 := (of_decide_eq_true h).1
end Go.Proofs.YtbebgnknjoclkaaGreat
/- impl.DiskOk and spec.DiskOk by their contracts. -/
namespace Go.Proofs.YtbebgnknjoclkaaGreat
open Go.RowKit Kit
set_option maxRecDepth 100000 in
set_option maxHeartbeats 1600000 in
theorem implOk_disk (u v iv bv : Value) (xs ys : List Bool) (is : List Ino) (bs : List Blk) (w : World) (h : DR w u v iv bv xs ys is bs) (hi : is.length ≤ 1048576) (hk : bs.length ≤ 1048576) :
    Calls Tryz.prog 20 #[.agg #[u, v, iv, bv]] w fun e w' => e = .returned (.bool (diskOk xs ys is bs)) ∧ Below w.heap.size w w' := by
  have H := hide h
  obtain ⟨a1, c1, a2, c2, a3, c3, a4, c4, rfl, rfl, rfl, rfl⟩ := h.form
  obtain ⟨x, hx⟩ : ∃ x, okB xs.length ys.length = x := ⟨_, rfl⟩
  obtain ⟨y, hy⟩ : ∃ y, (inosOk is && decide (is.length = 8)) = y := ⟨_, rfl⟩
  obtain ⟨z, hz⟩ : ∃ z, (blksOk bs && decide (bs.length = 16)) = z := ⟨_, rfl⟩
  have hD : diskOk xs ys is bs = (x && y && z) := by unfold diskOk; rw [hx, hy, hz]
  rw [hD]
  have HX := hide hx
  have HY := hide hy
  have HZ := hide hz
  clear h hx hy hz hD
  go_enter Tryz.func20, Tryz.ntmps20
  go_wp2_with fail
  refine (implOk_anyB _ _ _ _ _ _ _).mono ?_
  rw [HX.out]
  rintro e w1 ⟨rfl, B1⟩
  have BW : Below w.heap.size w w1 := ((Below.refl _ w).alloc (Nat.le_refl _) _).trans (B1.mono (by simp))
  have K0 : AtC w1 w.heap.size 34 #[.slice a1 xs.length c1, .slice a2 ys.length c2, .slice a3 is.length c3, .slice a4 bs.length c4] := (AtC.new w 34 _).over B1
  have p2 : w1.cell? ⟨w.heap.size, 2, none⟩ = some (.slice a3 is.length c3) := K0.cell 2
  have HBW := hide BW
  have HK0 := hide K0
  clear B1 BW K0
  cases x with
  | false =>
    go_wp2
    go_ret
    exact ⟨rfl, HBW.out⟩
  | true =>
    go_wp2_with fail
    refine (inosRight_any _ is _ (H.out.i.below HBW.out (Nat.le_refl _)) hi).mono ?_
    rw [HY.out]
    rintro e w2 ⟨rfl, B2⟩
    have BW2 := HBW.out.trans (B2.mono HBW.out.size)
    have K0 := HK0.out.over B2
    have p3 : w2.cell? ⟨w.heap.size, 3, none⟩ = some (.slice a4 bs.length c4) := K0.cell 3
    have HBW2 := hide BW2
    clear B2 BW2 K0 HBW
    cases y with
    | false =>
      go_wp2
      go_ret
      exact ⟨rfl, HBW2.out⟩
    | true =>
      go_wp2_with fail
      refine (blksRight_any _ bs _ (H.out.k.below HBW2.out (Nat.le_refl _)) hk).mono ?_
      rw [HZ.out]
      rintro e w3 ⟨rfl, B3⟩
      have HBW3 := hide (HBW2.out.trans (B3.mono HBW2.out.size))
      clear B3
      go_wp2
      go_ret
      exact ⟨rfl, HBW3.out⟩
theorem diskOk_bits {xs ys : List Bool} {is : List Ino} {bs : List Blk} (h : okB xs.length ys.length = false) : false = diskOk xs ys is bs := by unfold diskOk; rw [h]; rfl
theorem diskOk_i {xs ys : List Bool} {is : List Ino} {bs : List Blk} (h : is.length ≠ 8) : false = diskOk xs ys is bs := by unfold diskOk; simp [h]
theorem diskOk_b {xs ys : List Bool} {is : List Ino} {bs : List Blk} (h : bs.length ≠ 16) : false = diskOk xs ys is bs := by unfold diskOk; simp [h]
theorem diskOk_in {xs ys : List Bool} {is : List Ino} {bs : List Blk} (h : inosOk is = false) : false = diskOk xs ys is bs := by unfold diskOk; simp [h]
theorem diskOk_bn {xs ys : List Bool} {is : List Ino} {bs : List Blk} (h : blksOk bs = false) : false = diskOk xs ys is bs := by unfold diskOk; simp [h]
theorem diskOk_yes {xs ys : List Bool} {is : List Ino} {bs : List Blk} (h : okB xs.length ys.length = true) (h1 : is.length = 8) (h2 : bs.length = 16) (h3 : inosOk is = true) (h4 : blksOk bs = true) : true = diskOk xs ys is bs := by unfold diskOk; simp [h, h1, h2, h3, h4]
set_option maxRecDepth 100000 in
set_option maxHeartbeats 3200000 in
theorem specOk_disk (u v iv bv : Value) (xs ys : List Bool) (is : List Ino) (bs : List Blk) (w : World) (h : DR w u v iv bv xs ys is bs) (hB : ∀ (j : Nat) (h : j < bs.length) (k : Nat) (h' : k < bs[j].2.1.length), bs[j].2.1[k].1.size ≤ 1048576) :
    Calls Tryz.prog 35 #[.agg #[u, v, iv, bv]] w fun e w' => e = .returned (.bool (diskOk xs ys is bs)) ∧ Below w.heap.size w w' := by
  have H := hide h
  have HG := hide hB
  obtain ⟨a3, c3, ri, -, hii⟩ := h.i.ino
  obtain ⟨a4, c4, rb, -, hkk⟩ := h.k.blk
  have HI := hide hii
  have HK := hide hkk
  obtain ⟨a1, c1, a2, c2, -, -, -, -, rfl, rfl, -, -⟩ := h.form
  subst ri rb
  obtain ⟨x, hx⟩ : ∃ x, okB xs.length ys.length = x := ⟨_, rfl⟩
  have HX := hide hx
  obtain ⟨n, hn⟩ : ∃ n, xs.length = n := ⟨_, rfl⟩
  obtain ⟨m, hm⟩ : ∃ m, ys.length = m := ⟨_, rfl⟩
  obtain ⟨ni, hni⟩ : ∃ ni, is.length = ni := ⟨_, rfl⟩
  obtain ⟨nb, hnb⟩ : ∃ nb, bs.length = nb := ⟨_, rfl⟩
  have HN := hide (And.intro hni hnb)
  rw [hn, hm] at hx
  rw [hn, hm, hni, hnb]
  have C := hide (specOk_anyB a1 a2 n m c1 c2)
  rw [hx] at C
  clear h hB hii hkk hx hn hm hni hnb
  go_enter Tryz.func35, Tryz.ntmps35
  go_wp2_with fail
  refine (C.out _).mono ?_
  rintro e w1 ⟨rfl, B1⟩
  have BW : Below w.heap.size w w1 := ((Below.refl _ w).alloc (Nat.le_refl _) _).trans (B1.mono (by simp))
  have K0 : AtC w1 w.heap.size 34 #[.slice a1 n c1, .slice a2 m c2, .slice a3 ni c3, .slice a4 nb c4] := (AtC.new w 34 _).over B1
  have p2 : w1.cell? ⟨w.heap.size, 2, none⟩ = some (.slice a3 ni c3) := K0.cell 2
  have p3 : w1.cell? ⟨w.heap.size, 3, none⟩ = some (.slice a4 nb c4) := K0.cell 3
  have HBW := hide BW
  have HK0 := hide K0
  clear B1 BW K0 C
  cases x with
  | false =>
    go_wp2
    go_ret
    exact ⟨ret_bool (diskOk_bits HX.out), HBW.out⟩
  | true =>
    by_cases h8 : ni = 8
    · by_cases h16 : nb = 16
      · subst h8 h16
        go_wp2
        go_loopw [3] (fun i wr => ∃ j : Nat, j ≤ 8 ∧ i = .int .i64 j ∧ Hid (∀ (k : Nat) (h : k < is.length), k < j → inoOk is[k] = true) ∧ Hid (Below w1.heap.size w1 wr)) (fun i _ => 8 - (intOf i).toNat)
        case atStart => exact ⟨0, Nat.zero_le _, rfl, fun _ _ h => absurd h (Nat.not_lt_zero _), Below.refl _ _⟩
        case round =>
          obtain ⟨j, hj, rfl, HS, HBR⟩ := hrel
          have K0 := HK0.out.over HBR.out
          have p4 : wr.cell? ⟨w.heap.size, 2, none⟩ = some (.slice a3 8 c3) := K0.cell 2
          have p5 : wr.cell? ⟨w.heap.size, 3, none⟩ = some (.slice a4 16 c4) := K0.cell 3
          have HB0 := hide (HBW.out.trans (HBR.out.mono HBW.out.size))
          clear K0
          by_cases hlt : j < 8
          · obtain ⟨g1, o1, pp, rfl, hg1, m1, m2, m3, hr1⟩ := HI.out j (by rw [HN.out.1]; exact hlt)
            have q1 := (HB0.out.cell (p := ⟨g1, o1 + j * 3, none⟩) hg1).trans m1
            have q2 := (HB0.out.cell (p := ⟨g1, o1 + j * 3 + 1, none⟩) hg1).trans m2
            have q3 := (HB0.out.cell (p := ⟨g1, o1 + j * 3 + 2, none⟩) hg1).trans m3
            obtain ⟨y, hy⟩ : ∃ x, is[j]'(by rw [HN.out.1]; exact hlt) = x := ⟨_, rfl⟩
            obtain ⟨y, s, z⟩ := y
            rw [hy] at q1 q2 hr1
            obtain ⟨pa, pc, rfl⟩ := hr1.form
            simp only at q1 q2 q3 hr1
            have HR := hide (hr1.below HB0.out (Nat.le_refl _))
            have j0 : (0 : Int) ≤ (j : Int) := by omega
            have j1 : (j : Int) < 8 := by omega
            have HY := hide hy
            clear m1 m2 m3 hr1 hy
            cases hq : okL y s z with
            | true =>
              have HQ := hide hq
              clear hq
              go_wp2_with (go_at_call 69; refine (specOk_anyI _ _ z _ _ HR.out).mono ?_; rw [HQ.out]; rintro e w2 ⟨rfl, B2⟩; have HB2 := hide (HBR.out.trans (B2.mono HBR.out.size)); clear B2)
              go_roundw
              case rel =>
                refine ⟨j + 1, by omega, by go_num, fun k hk hkj => ?_, HB2.out⟩
                by_cases hkk : k = j
                · subst hkk; rw [HY.out]; exact HQ.out
                · exact HS.out k hk (by omega)
              case measure => simp [intOf]; omega
            | false =>
              have hno : inosOk is = false := all_no (by rw [HN.out.1]; exact hlt) (by rw [HY.out]; exact hq)
              have HNO := hide hno
              have HQ := hide hq
              clear hq hno
              go_wp2_with (go_at_call 69; refine (specOk_anyI _ _ z _ _ HR.out).mono ?_; rw [HQ.out]; rintro e w2 ⟨rfl, B2⟩; have HB2 := hide (HB0.out.trans (B2.mono HB0.out.size)); clear B2)
              go_ret
              exact ⟨ret_bool (diskOk_in HNO.out), HB2.out⟩
          · have hyes : inosOk is = true := all_yes fun k hk => HS.out k hk (by rw [HN.out.1] at hk; omega)
            have HYS := hide hyes
            clear hyes
            go_wp2
            go_loopw [4] (fun i wq => ∃ j : Nat, j ≤ 16 ∧ i = .int .i64 j ∧ Hid (∀ (k : Nat) (h : k < bs.length), k < j → blkOk bs[k] = true) ∧ Hid (Below wr.heap.size wr wq)) (fun i _ => 16 - (intOf i).toNat)
            case atStart => exact ⟨0, Nat.zero_le _, rfl, fun _ _ h => absurd h (Nat.not_lt_zero _), Below.refl _ _⟩
            case round =>
              obtain ⟨j, hj, rfl, HS2, HBQ⟩ := hrel
              have HB1 := hide (HB0.out.trans (HBQ.out.mono HB0.out.size))
              have K1 := HK0.out.over (HBR.out.trans (HBQ.out.mono HBR.out.size))
              have p6 : wr.cell? ⟨w.heap.size, 3, none⟩ = some (.slice a4 16 c4) := K1.cell 3
              clear K1
              by_cases hlt2 : j < 16
              · obtain ⟨g1, o1, pp, rfl, hg1, m1, m2, m3, hr1⟩ := HK.out j (by rw [HN.out.2]; exact hlt2)
                have q1 := (HB1.out.cell (p := ⟨g1, o1 + j * 3, none⟩) hg1).trans m1
                have q2 := (HB1.out.cell (p := ⟨g1, o1 + j * 3 + 1, none⟩) hg1).trans m2
                have q3 := (HB1.out.cell (p := ⟨g1, o1 + j * 3 + 2, none⟩) hg1).trans m3
                have key : ∀ b : Blk, bs[j]'(by rw [HN.out.2]; exact hlt2) = b → ∀ (k : Nat) (h' : k < b.2.1.length), b.2.1[k].1.size ≤ 1048576 := by
                  rintro b rfl
                  exact HG.out j _
                obtain ⟨y, hy⟩ : ∃ x, bs[j]'(by rw [HN.out.2]; exact hlt2) = x := ⟨_, rfl⟩
                obtain ⟨y, s, z⟩ := y
                rw [hy] at q1 q3 hr1
                have hbg : ∀ (k : Nat) (h' : k < s.length), s[k].1.size ≤ 1048576 := key _ hy
                obtain ⟨pa, pc, rfl⟩ := hr1.form
                simp only at q1 q2 q3 hr1
                have HR := hide (hr1.below HB1.out (Nat.le_refl _))
                have HBG := hide hbg
                have j0 : (0 : Int) ≤ (j : Int) := by omega
                have j1 : (j : Int) < 16 := by omega
                have HY := hide hy
                clear m1 m2 m3 hr1 hy hbg key
                cases hq : blockOk y s z with
                | true =>
                  have HQ := hide hq
                  clear hq
                  go_wp2_with (go_at_call 70; refine (specOk_anyK _ _ _ s _ HR.out HBG.out).mono ?_; rw [HQ.out]; rintro e w2 ⟨rfl, B2⟩; have HB2 := hide (HBQ.out.trans (B2.mono HBQ.out.size)); clear B2)
                  go_roundw
                  case rel =>
                    refine ⟨j + 1, by omega, by go_num, fun k hk hkj => ?_, HB2.out⟩
                    by_cases hkk : k = j
                    · subst hkk; rw [HY.out]; exact HQ.out
                    · exact HS2.out k hk (by omega)
                  case measure => simp [intOf]; omega
                | false =>
                  have hno : blksOk bs = false := all_no (by rw [HN.out.2]; exact hlt2) (by rw [HY.out]; exact hq)
                  have HNO := hide hno
                  have HQ := hide hq
                  clear hq hno
                  go_wp2_with (go_at_call 70; refine (specOk_anyK _ _ _ s _ HR.out HBG.out).mono ?_; rw [HQ.out]; rintro e w2 ⟨rfl, B2⟩; have HB2 := hide (HB1.out.trans (B2.mono HB1.out.size)); clear B2)
                  go_ret
                  exact ⟨ret_bool (diskOk_bn HNO.out), HB2.out⟩
              · have hyes : blksOk bs = true := all_yes fun k hk => HS2.out k hk (by rw [HN.out.2] at hk; omega)
                have HYS2 := hide hyes
                clear hyes
                go_wp2
                go_ret
                exact ⟨ret_bool (diskOk_yes HX.out HN.out.1 HN.out.2 HYS.out HYS2.out), HB1.out⟩
      · have hne : bs.length ≠ 16 := by rw [HN.out.2]; exact h16
        have HNE := hide hne
        have hb16 : ((nb : Int) != 16) = true := by simp; omega
        clear hne
        subst h8
        go_wp2
        go_ret
        exact ⟨ret_bool (diskOk_b HNE.out), HBW.out⟩
    · have hne : is.length ≠ 8 := by rw [HN.out.1]; exact h8
      have HNE := hide hne
      have hb8 : ((ni : Int) != 8) = true := by simp; omega
      clear hne
      go_wp2
      go_ret
      exact ⟨ret_bool (diskOk_i HNE.out), HBW.out⟩
end Go.Proofs.YtbebgnknjoclkaaGreat
/- A right disk is one as trees want it. No Go function is spoken of. -/
namespace Go.Proofs.YtbebgnknjoclkaaGreat
open Go.RowKit Kit
theorem okF_all : ∀ (l p : List Sl), okF p l = true → ∀ s ∈ l, slotOk s = true
  | [], _, _, _, h => by cases h
  | x :: r, p, h, s, hs => by
    rw [okF, Bool.and_eq_true, Bool.and_eq_true] at h
    rcases List.mem_cons.1 hs with rfl | hs
    · exact h.1.1
    · exact okF_all r _ h.2 s hs
theorem RD.of_ok {xs ys : List Bool} {is : List Ino} {bs : List Blk} (h : diskOk xs ys is bs = true) : RD is bs := by
  unfold diskOk at h
  simp only [Bool.and_eq_true, decide_eq_true_eq] at h
  obtain ⟨⟨-, h1, h2⟩, h3, h4⟩ := h
  have hi : ∀ q ∈ is, inoOk q = true := List.all_eq_true.1 h1
  have hb : ∀ q ∈ bs, blkOk q = true := List.all_eq_true.1 h3
  have hi2 : ∀ q ∈ is, ∃ a b, q.2.2 = [a, b] ∧ okR q.1 q.2.1 a b = true := fun q hq => by
    have := hi q hq
    unfold inoOk at this
    obtain ⟨k, l, ps⟩ := q
    match ps, this with
    | [a, b], h => exact ⟨a, b, rfl, h⟩
    | [], h => cases h
    | [_], h => cases h
    | _ :: _ :: _ :: _, h => cases h
  have hb2 : ∀ q ∈ bs, (q.1 = true → q.2.2.size = 0 ∧ slotsOk q.2.1 = true) ∧ (q.1 = false → q.2.1.length = 0 ∧ q.2.2.size ≤ 16) := fun q hq => by
    have := hb q hq
    unfold blkOk blockOk at this
    constructor
    · intro e; rw [e] at this; simpa using this
    · intro e; rw [e] at this; simpa using this
  refine ⟨h2, h4, fun q hq => ?_, fun q hq => ?_, fun q hq => ?_, fun q hq e => ?_, fun q hq s hs => ?_, fun q hq => ?_⟩
  · obtain ⟨a, b, -, h⟩ := hi2 q hq
    have := of_decide_eq_true h
    omega
  · obtain ⟨a, b, e, -⟩ := hi2 q hq
    rw [e]; rfl
  · cases e : q.1 with
    | true =>
      have := (hb2 q hq).1 e
      unfold slotsOk at this
      simp only [Bool.and_eq_true, decide_eq_true_eq] at this
      omega
    | false => have := (hb2 q hq).2 e; omega
  · exact List.length_eq_zero_iff.1 ((hb2 q hq).2 e).1
  · cases e : q.1 with
    | true =>
      have := ((hb2 q hq).1 e).2
      unfold slotsOk at this
      rw [Bool.and_eq_true] at this
      have := okF_all _ _ this.2 s hs
      rcases of_decide_eq_true this with h | h
      · exact .inl (size_zero h.1)
      · exact .inr h.1
    | false =>
      have := List.length_eq_zero_iff.1 ((hb2 q hq).2 e).1
      rw [this] at hs; cases hs
  · cases e : q.1 with
    | true => have := (hb2 q hq).1 e; omega
    | false => exact ((hb2 q hq).2 e).2
end Go.Proofs.YtbebgnknjoclkaaGreat
/- impl.UnitOfIno, UnitOfBlock, hasIno, hasBlock, isNode by their contracts, at right disks. -/
namespace Go.Proofs.YtbebgnknjoclkaaGreat
open Go.RowKit Kit
set_option maxHeartbeats 800000 in
theorem unitI_any (i : Int) (w : World) :
    Calls Tryz.prog 99 #[.int .i64 i] w fun e w' => ∃ r : Int, e = .returned (.int .i64 r) ∧ decide (0 ≤ r) = inB i 1 8 ∧ w' = w := by
  cases hb : inB i 1 8 with
  | false =>
    rcases inB_false hb with h | h
    · have h2 : decide (i < 1) = true := by simp; omega
      go_enter Tryz.func99, Tryz.ntmps99
      go_wp2
      go_ret
      exact ⟨-1, rfl, by decide, rfl⟩
    · have h1 : decide (i < 1) = false := by simp; omega
      have h2 : decide (8 < i) = true := by simp; omega
      go_enter Tryz.func99, Tryz.ntmps99
      go_wp2
      go_ret
      exact ⟨-1, rfl, by decide, rfl⟩
  | true =>
    obtain ⟨h0, h1⟩ := inB_true hb
    have h2 : decide (i < 1) = false := by simp; omega
    have h3 : decide (8 < i) = false := by simp; omega
    go_enter Tryz.func99, Tryz.ntmps99
    go_wp2
    go_ret
    refine ⟨_, rfl, ?_, rfl⟩
    simp
    omega
set_option maxHeartbeats 800000 in
theorem unitB_any (i : Int) (w : World) :
    Calls Tryz.prog 101 #[.int .i64 i] w fun e w' => ∃ r : Int, e = .returned (.int .i64 r) ∧ decide (0 ≤ r) = inB i 1 16 ∧ w' = w := by
  cases hb : inB i 1 16 with
  | false =>
    rcases inB_false hb with h | h
    · have h2 : decide (i < 1) = true := by simp; omega
      go_enter Tryz.func101, Tryz.ntmps101
      go_wp2
      go_ret
      exact ⟨-1, rfl, by decide, rfl⟩
    · have h1 : decide (i < 1) = false := by simp; omega
      have h2 : decide (16 < i) = true := by simp; omega
      go_enter Tryz.func101, Tryz.ntmps101
      go_wp2
      go_ret
      exact ⟨-1, rfl, by decide, rfl⟩
  | true =>
    obtain ⟨h0, h1⟩ := inB_true hb
    have h2 : decide (i < 1) = false := by simp; omega
    have h3 : decide (16 < i) = false := by simp; omega
    go_enter Tryz.func101, Tryz.ntmps101
    go_wp2
    go_ret
    refine ⟨_, rfl, ?_, rfl⟩
    simp
    omega
set_option maxHeartbeats 800000 in
theorem hasI_any (i : Int) (dx dy bv : Value) (a3 : Option Addr) (c3 : Nat) (w : World) :
    Calls Tryz.prog 77 #[.agg #[dx, dy, .slice a3 8 c3, bv], .int .i64 i] w fun e w' => e = .returned (.bool (inB i 1 8)) ∧ w' = w.alloc (.cells #[dx, dy, .slice a3 8 c3, bv] 34) := by
  have CU := hide (fun W => unitI_any i W)
  cases hb : inB i 1 8 with
  | false =>
    rw [hb] at CU
    go_enter Tryz.func77, Tryz.ntmps77
    go_wp2_with fail
    refine (CU.out _).mono ?_
    rintro e w1 ⟨r, rfl, hr, rfl⟩
    go_wp2
    go_ret
    exact ⟨rfl, rfl⟩
  | true =>
    rw [hb] at CU
    obtain ⟨h0, h1⟩ := inB_true hb
    have h2 : decide (i ≤ 8) = true := by simp; omega
    go_enter Tryz.func77, Tryz.ntmps77
    go_wp2_with fail
    refine (CU.out _).mono ?_
    rintro e w1 ⟨r, rfl, hr, rfl⟩
    go_wp2
    go_ret
    exact ⟨rfl, rfl⟩
set_option maxHeartbeats 800000 in
theorem hasB_any (i : Int) (dx dy iv : Value) (a3 : Option Addr) (c3 : Nat) (w : World) :
    Calls Tryz.prog 81 #[.agg #[dx, dy, iv, .slice a3 16 c3], .int .i64 i] w fun e w' => e = .returned (.bool (inB i 1 16)) ∧ w' = w.alloc (.cells #[dx, dy, iv, .slice a3 16 c3] 34) := by
  have CU := hide (fun W => unitB_any i W)
  cases hb : inB i 1 16 with
  | false =>
    rw [hb] at CU
    go_enter Tryz.func81, Tryz.ntmps81
    go_wp2_with fail
    refine (CU.out _).mono ?_
    rintro e w1 ⟨r, rfl, hr, rfl⟩
    go_wp2
    go_ret
    exact ⟨rfl, rfl⟩
  | true =>
    rw [hb] at CU
    obtain ⟨h0, h1⟩ := inB_true hb
    have h2 : decide (i ≤ 16) = true := by simp; omega
    go_enter Tryz.func81, Tryz.ntmps81
    go_wp2_with fail
    refine (CU.out _).mono ?_
    rintro e w1 ⟨r, rfl, hr, rfl⟩
    go_wp2
    go_ret
    exact ⟨rfl, rfl⟩
set_option maxRecDepth 100000 in
set_option maxHeartbeats 1600000 in
theorem kindI_any (i : Int) (dx dy iv bv : Value) (xs ys : List Bool) (is : List Ino) (bs : List Blk) (w : World) (h : DR w dx dy iv bv xs ys is bs) (hR : RD is bs) :
    Calls Tryz.prog 78 #[.agg #[dx, dy, iv, bv], .int .i64 i] w fun e w' => e = .returned (.int .i64 (kindAt is i)) ∧ Below w.heap.size w w' := by
  obtain ⟨a3, c3, rfl, -, hc⟩ := h.i
  have h8 := hR.hi
  have HB0 : Hid (∀ A B, Below w.heap.size w ((w.alloc (.cells A 34)).alloc (.cells B 34))) := fun A B => ((Below.refl _ w).alloc (Nat.le_refl _) _).alloc (by simp) _
  have CH := hide (fun W => hasI_any i dx dy bv a3 c3 W)
  cases hb : inB i 1 8 with
  | false =>
    rw [hb] at CH
    have e0 : kindAt is i = 0 := kindAt_out (by rw [h8]; exact hb)
    rw [e0, h8]
    clear hc h hR hb
    go_enter Tryz.func78, Tryz.ntmps78
    go_wp2_with fail
    refine (CH.out _).mono ?_
    rintro e w1 ⟨rfl, rfl⟩
    go_wp2
    go_ret
    exact ⟨rfl, HB0.out _ _⟩
  | true =>
    rw [hb] at CH
    obtain ⟨h1, h2⟩ := inB_true hb
    obtain ⟨j, rfl⟩ : ∃ j : Nat, i = (j : Int) + 1 := ⟨(i - 1).toNat, by omega⟩
    have hj : j < is.length := by omega
    obtain ⟨g2, o2, ⟨t0, t1, t2⟩, rfl, hg2, r0, r1, r2, e0, e1, rr⟩ := hc j hj
    rw [(kindAt_in hj).1]
    obtain ⟨⟨kd, ln, ps⟩, hX⟩ : ∃ X, is[j] = X := ⟨_, rfl⟩
    rw [hX] at e0 e1 rr ⊢
    simp only at e0 e1 rr r0 r1 r2 ⊢
    subst e0 e1
    have hwj : IntKind.i64.wrap (j : Int) = (j : Int) := wrap_small _ (by omega) (by omega)
    have j0 : (0 : Int) ≤ (j : Int) := by omega
    have j1 : (j : Int) < 8 := by omega
    have y0 : ((w.alloc (.cells #[dx, dy, .slice (some ⟨g2, o2, none⟩) 8 c3, bv] 34)).alloc (.cells #[dx, dy, .slice (some ⟨g2, o2, none⟩) 8 c3, bv] 34)).cell? ⟨g2, o2 + j * 3, none⟩ = some (.int .i64 kd) := ((HB0.out _ _).cell (p := ⟨g2, o2 + j * 3, none⟩) hg2).trans r0
    rw [h8]
    clear hc h hR hb h1 h2 hX rr r0 r1 r2 h8
    go_enter Tryz.func78, Tryz.ntmps78
    go_wp2_with fail
    refine (CH.out _).mono ?_
    rintro e w1 ⟨rfl, rfl⟩
    go_wp2
    go_ret
    exact ⟨rfl, HB0.out _ _⟩
set_option maxHeartbeats 1600000 in
theorem isNode_any (i : Int) (dx dy iv bv : Value) (xs ys : List Bool) (is : List Ino) (bs : List Blk) (w : World) (h : DR w dx dy iv bv xs ys is bs) (hR : RD is bs) :
    Calls Tryz.prog 105 #[.agg #[dx, dy, iv, bv], .int .i64 i] w fun e w' => e = .returned (.bool (decide (¬ kindAt is i = 0))) ∧ Below w.heap.size w w' := by
  have CK := hide (kindI_any i dx dy iv bv xs ys is bs (w.alloc (.cells #[dx, dy, iv, bv] 34)) (h.alloc _) hR)
  have HB : Hid (∀ w1, Below (w.alloc (.cells #[dx, dy, iv, bv] 34)).heap.size (w.alloc (.cells #[dx, dy, iv, bv] 34)) w1 → Below w.heap.size w w1) := fun w1 b => ((Below.refl _ w).alloc (Nat.le_refl _) _).trans (b.mono (by simp))
  obtain ⟨a1, c1, a2, c2, a3, c3, a4, c4, rfl, rfl, rfl, rfl⟩ := h.form
  have hk3 := hR.kind i
  obtain ⟨kd, hkd⟩ : ∃ k, kindAt is i = k := ⟨_, rfl⟩
  rw [hkd] at hk3 CK ⊢
  clear h hR hkd
  rcases hk3 with rfl | rfl | rfl
  all_goals
    go_enter Tryz.func105, Tryz.ntmps105
    go_wp2_with fail
    refine CK.out.mono ?_
    rintro e w1 ⟨rfl, B1⟩
    have HB1 := hide (HB.out _ B1)
    clear B1
    go_wp2
    go_ret
    exact ⟨rfl, HB1.out⟩
end Go.Proofs.YtbebgnknjoclkaaGreat
/- Library contracts laid at this translation by the shelf (its own tool, plain mode). -/
namespace Go.Proofs.YtbebgnknjoclkaaGreat
open Go.Shelf
def Tryz.lays128_ren : Go.Shelf.Ren := ⟨fun | 128 => 130 | n => n, fun | 51 => 155 | 3 => 3 | 4 => 4 | 46 => 144 | 5 => 5 | 9 => 9 | n => n, fun | n => n⟩
theorem Tryz.lays128 : Go.Proofs.Lays.n128 Tryz.prog Tryz.lays128_ren := {
  mixed := by kernel_rfl
  f128 := Tryz.func130.trans (congrArg some (by kernel_rfl))
  t3 := Tryz.underlying3
  a3 := Tryz.isAgg3
  z3 := Tryz.sizeOf3
  v3 := Tryz.zeroValue3
  t4 := Tryz.underlying4
  a4 := Tryz.isAgg4
  z4 := Tryz.sizeOf4
  v4 := Tryz.zeroValue4
  t5 := Tryz.underlying5
  a5 := Tryz.isAgg5
  z5 := Tryz.sizeOf5
  v5 := Tryz.zeroValue5
  t9 := Tryz.underlying9
  a9 := Tryz.isAgg9
  z9 := Tryz.sizeOf9
  v9 := Tryz.zeroValue9
  t46 := Tryz.underlying144
  a46 := Tryz.isAgg144
  z46 := Tryz.sizeOf144
  v46 := Tryz.zeroValue144
  t51 := Tryz.underlying155
  a51 := Tryz.isAgg155
  z51 := Tryz.sizeOf155
  v51 := Tryz.zeroValue155 }
theorem Tryz.bits_Len32 (x : Int) (w : World) (h0 : 0 ≤ x) (h1 : x ≤ 4294967295) :
    Calls Tryz.prog 130 #[.int .u32 x] w fun e w' => e = .returned (.int .i64 (Lib.bitLen x.toNat)) ∧ w' = w := Any.bits_Len32 Tryz.lays128 x w h0 h1
def Tryz.lays125_ren : Go.Shelf.Ren := ⟨fun | 125 => 118 | 128 => 130 | 129 => 131 | n => n, fun | 46 => 144 | 3 => 3 | 51 => 155 | 53 => 157 | 4 => 4 | 5 => 5 | 9 => 9 | n => n, fun | n => n⟩
theorem Tryz.lays125 : Go.Proofs.Lays.n125 Tryz.prog Tryz.lays125_ren := {
  mixed := by kernel_rfl
  f125 := Tryz.func118.trans (congrArg some (by kernel_rfl))
  f128 := Tryz.func130.trans (congrArg some (by kernel_rfl))
  f129 := Tryz.func131.trans (congrArg some (by kernel_rfl))
  t3 := Tryz.underlying3
  a3 := Tryz.isAgg3
  z3 := Tryz.sizeOf3
  v3 := Tryz.zeroValue3
  t4 := Tryz.underlying4
  a4 := Tryz.isAgg4
  z4 := Tryz.sizeOf4
  v4 := Tryz.zeroValue4
  t5 := Tryz.underlying5
  a5 := Tryz.isAgg5
  z5 := Tryz.sizeOf5
  v5 := Tryz.zeroValue5
  t9 := Tryz.underlying9
  a9 := Tryz.isAgg9
  z9 := Tryz.sizeOf9
  v9 := Tryz.zeroValue9
  t46 := Tryz.underlying144
  a46 := Tryz.isAgg144
  z46 := Tryz.sizeOf144
  v46 := Tryz.zeroValue144
  t51 := Tryz.underlying155
  a51 := Tryz.isAgg155
  z51 := Tryz.sizeOf155
  v51 := Tryz.zeroValue155
  t53 := Tryz.underlying157
  a53 := Tryz.isAgg157
  z53 := Tryz.sizeOf157
  v53 := Tryz.zeroValue157 }
theorem Tryz.bits_Len (x : Int) (w : World) (h0 : 0 ≤ x) (h1 : x ≤ 18446744073709551615) :
    Calls Tryz.prog 118 #[.int .u64 x] w fun e w' => e = .returned (.int .i64 (Lib.bitLen x.toNat)) ∧ w' = w := Any.bits_Len Tryz.lays125 x w h0 h1
def Tryz.lays215_ren : Go.Shelf.Ren := ⟨fun | 215 => 137 | n => n, fun | 3 => 3 | 4 => 4 | n => n, fun | n => n⟩
theorem Tryz.lays215 : Go.Proofs.Lays.n215 Tryz.prog Tryz.lays215_ren := {
  mixed := by kernel_rfl
  f215 := Tryz.func137.trans (congrArg some (by kernel_rfl))
  t3 := Tryz.underlying3
  a3 := Tryz.isAgg3
  z3 := Tryz.sizeOf3
  v3 := Tryz.zeroValue3
  t4 := Tryz.underlying4
  a4 := Tryz.isAgg4
  z4 := Tryz.sizeOf4
  v4 := Tryz.zeroValue4 }
open Go.RowKit in
theorem Tryz.cmp_isNaN_int (x : Int) (w : World) :
    Calls Tryz.prog 137 #[.int .i64 x] w fun e w' => e = .returned (.bool false) ∧ w' = w := Any.cmp_isNaN_int Tryz.lays215 x w
def Tryz.lays129_ren : Go.Shelf.Ren := ⟨fun | 129 => 131 | n => n, fun | 53 => 157 | 3 => 3 | 4 => 4 | 46 => 144 | 5 => 5 | 9 => 9 | n => n, fun | n => n⟩
theorem Tryz.lays129 : Go.Proofs.Lays.n129 Tryz.prog Tryz.lays129_ren := {
  mixed := by kernel_rfl
  f129 := Tryz.func131.trans (congrArg some (by kernel_rfl))
  t3 := Tryz.underlying3
  a3 := Tryz.isAgg3
  z3 := Tryz.sizeOf3
  v3 := Tryz.zeroValue3
  t4 := Tryz.underlying4
  a4 := Tryz.isAgg4
  z4 := Tryz.sizeOf4
  v4 := Tryz.zeroValue4
  t5 := Tryz.underlying5
  a5 := Tryz.isAgg5
  z5 := Tryz.sizeOf5
  v5 := Tryz.zeroValue5
  t9 := Tryz.underlying9
  a9 := Tryz.isAgg9
  z9 := Tryz.sizeOf9
  v9 := Tryz.zeroValue9
  t46 := Tryz.underlying144
  a46 := Tryz.isAgg144
  z46 := Tryz.sizeOf144
  v46 := Tryz.zeroValue144
  t53 := Tryz.underlying157
  a53 := Tryz.isAgg157
  z53 := Tryz.sizeOf157
  v53 := Tryz.zeroValue157 }
theorem Tryz.bits_Len64 (x : Int) (w : World) (h0 : 0 ≤ x) (h1 : x ≤ 18446744073709551615) :
    Calls Tryz.prog 131 #[.int .u64 x] w fun e w' => e = .returned (.int .i64 (Lib.bitLen x.toNat)) ∧ w' = w := Any.bits_Len64 Tryz.lays129 x w h0 h1
def Tryz.laysM316_ren : Go.Shelf.Ren := ⟨fun | 316 => 119 | n => n, fun | 9 => 9 | 3 => 3 | 4 => 4 | 37 => 117 | 0 => 0 | 127 => 158 | 5 => 5 | n => n, fun | n => n⟩
theorem Tryz.laysM316 : Go.Proofs.LaysM.n316 Tryz.prog Tryz.laysM316_ren := {
  mixed := by kernel_rfl
  f316 := Tryz.func119.trans (congrArg some (by kernel_rfl))
  t0 := Tryz.underlying0
  a0 := Tryz.isAgg0
  z0 := Tryz.sizeOf0
  v0 := Tryz.zeroValue0
  t3 := Tryz.underlying3
  a3 := Tryz.isAgg3
  z3 := Tryz.sizeOf3
  v3 := Tryz.zeroValue3
  t4 := Tryz.underlying4
  a4 := Tryz.isAgg4
  z4 := Tryz.sizeOf4
  v4 := Tryz.zeroValue4
  t9 := Tryz.underlying9
  a9 := Tryz.isAgg9
  z9 := Tryz.sizeOf9
  v9 := Tryz.zeroValue9
  t37 := Tryz.underlying117
  a37 := Tryz.isAgg117
  z37 := Tryz.sizeOf117
  v37 := Tryz.zeroValue117
  t127 := Tryz.underlying158
  a127 := Tryz.isAgg158
  z127 := Tryz.sizeOf158
  v127 := Tryz.zeroValue158
  t5 := Tryz.underlying5
  a5 := Tryz.isAgg5
  z5 := Tryz.sizeOf5
  v5 := Tryz.zeroValue5
  i0 := by kernel_rfl
  i3 := by kernel_rfl
  i4 := by kernel_rfl
  i5 := by kernel_rfl
  i9 := by kernel_rfl
  i37 := by kernel_rfl
  i127 := by kernel_rfl }
open Go.RowKit in
theorem Tryz.stringslite_Clone (s : ByteArray) (w : World) (hlim : s.size ≤ 281474976710656) :
    Calls Tryz.prog 119 #[.string s] w fun e w' => e = .returned (.string s) ∧ Below w.heap.size w w' := Any.stringslite_Clone Tryz.laysM316 s w hlim
def Tryz.lays189_ren : Go.Shelf.Ren := ⟨fun | 189 => 106 | 125 => 118 | 257 => 117 | 128 => 130 | 129 => 131 | 294 => 121 | 295 => 122 | 296 => 123 | 297 => 124 | 298 => 125 | 299 => 126 | 216 => 127 | 300 => 128 | 301 => 129 | 328 => 132 | 329 => 133 | 330 => 134 | 331 => 135 | 332 => 136 | 215 => 137 | 343 => 138 | n => n, fun | 28 => 56 | 3 => 3 | 46 => 144 | 0 => 0 | 51 => 155 | 53 => 157 | 4 => 4 | 183 => 147 | 182 => 146 | 131 => 152 | 5 => 5 | 9 => 9 | 218 => 159 | 222 => 163 | 228 => 166 | 229 => 167 | n => n, fun | n => n⟩
theorem Tryz.lays189 : Go.Proofs.Lays.n189 Tryz.prog Tryz.lays189_ren := {
  mixed := by kernel_rfl
  f125 := Tryz.func118.trans (congrArg some (by kernel_rfl))
  f128 := Tryz.func130.trans (congrArg some (by kernel_rfl))
  f129 := Tryz.func131.trans (congrArg some (by kernel_rfl))
  f189 := Tryz.func106.trans (congrArg some (by kernel_rfl))
  f215 := Tryz.func137.trans (congrArg some (by kernel_rfl))
  f216 := Tryz.func127.trans (congrArg some (by kernel_rfl))
  f257 := Tryz.func117.trans (congrArg some (by kernel_rfl))
  f294 := Tryz.func121.trans (congrArg some (by kernel_rfl))
  f295 := Tryz.func122.trans (congrArg some (by kernel_rfl))
  f296 := Tryz.func123.trans (congrArg some (by kernel_rfl))
  f297 := Tryz.func124.trans (congrArg some (by kernel_rfl))
  f298 := Tryz.func125.trans (congrArg some (by kernel_rfl))
  f299 := Tryz.func126.trans (congrArg some (by kernel_rfl))
  f300 := Tryz.func128.trans (congrArg some (by kernel_rfl))
  f301 := Tryz.func129.trans (congrArg some (by kernel_rfl))
  f328 := Tryz.func132.trans (congrArg some (by kernel_rfl))
  f329 := Tryz.func133.trans (congrArg some (by kernel_rfl))
  f330 := Tryz.func134.trans (congrArg some (by kernel_rfl))
  f331 := Tryz.func135.trans (congrArg some (by kernel_rfl))
  f332 := Tryz.func136.trans (congrArg some (by kernel_rfl))
  f343 := Tryz.func138.trans (congrArg some (by kernel_rfl))
  t0 := Tryz.underlying0
  a0 := Tryz.isAgg0
  z0 := Tryz.sizeOf0
  v0 := Tryz.zeroValue0
  t3 := Tryz.underlying3
  a3 := Tryz.isAgg3
  z3 := Tryz.sizeOf3
  v3 := Tryz.zeroValue3
  t4 := Tryz.underlying4
  a4 := Tryz.isAgg4
  z4 := Tryz.sizeOf4
  v4 := Tryz.zeroValue4
  t5 := Tryz.underlying5
  a5 := Tryz.isAgg5
  z5 := Tryz.sizeOf5
  v5 := Tryz.zeroValue5
  t9 := Tryz.underlying9
  a9 := Tryz.isAgg9
  z9 := Tryz.sizeOf9
  v9 := Tryz.zeroValue9
  t28 := Tryz.underlying56
  a28 := Tryz.isAgg56
  z28 := Tryz.sizeOf56
  v28 := Tryz.zeroValue56
  t46 := Tryz.underlying144
  a46 := Tryz.isAgg144
  z46 := Tryz.sizeOf144
  v46 := Tryz.zeroValue144
  t51 := Tryz.underlying155
  a51 := Tryz.isAgg155
  z51 := Tryz.sizeOf155
  v51 := Tryz.zeroValue155
  t53 := Tryz.underlying157
  a53 := Tryz.isAgg157
  z53 := Tryz.sizeOf157
  v53 := Tryz.zeroValue157
  t131 := Tryz.underlying152
  a131 := Tryz.isAgg152
  z131 := Tryz.sizeOf152
  v131 := Tryz.zeroValue152
  t182 := Tryz.underlying146
  a182 := Tryz.isAgg146
  z182 := Tryz.sizeOf146
  v182 := Tryz.zeroValue146
  t183 := Tryz.underlying147
  a183 := Tryz.isAgg147
  z183 := Tryz.sizeOf147
  v183 := Tryz.zeroValue147
  t218 := Tryz.underlying159
  a218 := Tryz.isAgg159
  z218 := Tryz.sizeOf159
  v218 := Tryz.zeroValue159
  t222 := Tryz.underlying163
  a222 := Tryz.isAgg163
  z222 := Tryz.sizeOf163
  v222 := Tryz.zeroValue163
  t228 := Tryz.underlying166
  a228 := Tryz.isAgg166
  z228 := Tryz.sizeOf166
  v228 := Tryz.zeroValue166
  t229 := Tryz.underlying167
  a229 := Tryz.isAgg167
  z229 := Tryz.sizeOf167
  v229 := Tryz.zeroValue167 }
open Go.Sort Go.RowKit in
theorem Tryz.slices_Sort_int (blk off cap : Nat) (zs : List Int) (w : World) (hH : Holds (Value.int .i64) w blk off zs.toArray) (hblk : blk < w.heap.size) (hsz : zs.length < 4611686018427387904) :
    Calls Tryz.prog 106 #[.slice (some ⟨blk, off, none⟩) zs.length cap] w fun e w' =>
      e = .returned (.tuple #[]) ∧ ∃ n os, w' = grow (putRow (Value.int .i64) (Sort.ahead w n) blk off (zs.mergeSort fun x y => decide (x ≤ y)).toArray) os := Any.slices_Sort_int Tryz.lays189 blk off cap zs w hH hblk hsz
def Tryz.lays108_ren : Go.Shelf.Ren := ⟨fun | 108 => 107 | n => n, fun | 28 => 56 | 3 => 3 | 0 => 0 | 4 => 4 | n => n, fun | n => n⟩
theorem Tryz.lays108 : Go.Proofs.Lays.n108 Tryz.prog Tryz.lays108_ren := {
  mixed := by kernel_rfl
  f108 := Tryz.func107.trans (congrArg some (by kernel_rfl))
  t0 := Tryz.underlying0
  a0 := Tryz.isAgg0
  z0 := Tryz.sizeOf0
  v0 := Tryz.zeroValue0
  t3 := Tryz.underlying3
  a3 := Tryz.isAgg3
  z3 := Tryz.sizeOf3
  v3 := Tryz.zeroValue3
  t4 := Tryz.underlying4
  a4 := Tryz.isAgg4
  z4 := Tryz.sizeOf4
  v4 := Tryz.zeroValue4
  t28 := Tryz.underlying56
  a28 := Tryz.isAgg56
  z28 := Tryz.sizeOf56
  v28 := Tryz.zeroValue56 }
open Go.Lib in
theorem Tryz.slices_Index_int (b off n c : Nat) (zs : List Int) (x : Int) (w : World) (hz : n ≤ zs.length) (hbig : n ≤ 9223372036854775807) (hc : ∀ j, j < zs.length → w.cell? ⟨b, off + j, none⟩ = some (.int .i64 (zs.getD j 0))) :
    Calls Tryz.prog 107 #[.slice (some ⟨b, off, none⟩) n c, .int .i64 x] w fun e w' => e = .returned (.int .i64 (Lib.idxOf (zs.take n) x)) ∧ w' = w := Any.slices_Index_int Tryz.lays108 b off n c zs x w hz hbig hc
open Go.Lib in
theorem Tryz.slices_Index_int_empty (a : Option Addr) (c : Nat) (x : Int) (w : World) :
    Calls Tryz.prog 107 #[.slice a 0 c, .int .i64 x] w fun e w' => e = .returned (.int .i64 (Lib.idxOf [] x)) ∧ w' = w := Any.slices_Index_int_empty Tryz.lays108 a c x w
def Tryz.lays107_ren : Go.Shelf.Ren := ⟨fun | 107 => 85 | 108 => 107 | n => n, fun | 28 => 56 | 3 => 3 | 4 => 4 | 0 => 0 | n => n, fun | n => n⟩
theorem Tryz.lays107 : Go.Proofs.Lays.n107 Tryz.prog Tryz.lays107_ren := {
  mixed := by kernel_rfl
  f107 := Tryz.func85.trans (congrArg some (by kernel_rfl))
  f108 := Tryz.func107.trans (congrArg some (by kernel_rfl))
  t0 := Tryz.underlying0
  a0 := Tryz.isAgg0
  z0 := Tryz.sizeOf0
  v0 := Tryz.zeroValue0
  t3 := Tryz.underlying3
  a3 := Tryz.isAgg3
  z3 := Tryz.sizeOf3
  v3 := Tryz.zeroValue3
  t4 := Tryz.underlying4
  a4 := Tryz.isAgg4
  z4 := Tryz.sizeOf4
  v4 := Tryz.zeroValue4
  t28 := Tryz.underlying56
  a28 := Tryz.isAgg56
  z28 := Tryz.sizeOf56
  v28 := Tryz.zeroValue56 }
open Go.Lib in
theorem Tryz.slices_Contains_int (b off n c : Nat) (zs : List Int) (x : Int) (w : World) (hz : n ≤ zs.length) (hbig : n ≤ 9223372036854775807) (hc : ∀ j, j < zs.length → w.cell? ⟨b, off + j, none⟩ = some (.int .i64 (zs.getD j 0))) :
    Calls Tryz.prog 85 #[.slice (some ⟨b, off, none⟩) n c, .int .i64 x] w fun e w' => e = .returned (.bool ((zs.take n).contains x)) ∧ w' = w := Any.slices_Contains_int Tryz.lays107 b off n c zs x w hz hbig hc
open Go.Lib in
theorem Tryz.slices_Contains_int_empty (a : Option Addr) (c : Nat) (x : Int) (w : World) :
    Calls Tryz.prog 85 #[.slice a 0 c, .int .i64 x] w fun e w' => e = .returned (.bool false) ∧ w' = w := Any.slices_Contains_int_empty Tryz.lays107 a c x w
def Tryz.laysNm237_ren : Go.Shelf.Ren := ⟨fun | 37 => 137 | n => n, fun | 3 => 3 | 4 => 4 | n => n, fun | n => n⟩
theorem Tryz.laysNm237 : Go.Proofs.Lays2.n37 Tryz.prog Tryz.laysNm237_ren := {
  mixed := by kernel_rfl
  f37 := Tryz.func137.trans (congrArg some (by kernel_rfl))
  t3 := Tryz.underlying3
  a3 := Tryz.isAgg3
  z3 := Tryz.sizeOf3
  v3 := Tryz.zeroValue3
  t4 := Tryz.underlying4
  a4 := Tryz.isAgg4
  z4 := Tryz.sizeOf4
  v4 := Tryz.zeroValue4 }
open Go.RowKit Go.Lib in
theorem Tryz.cmp_isNaN_int2 (x : Int) (w : World) :
    Calls Tryz.prog 137 #[.int .i64 x] w fun e w' => e = .returned (.bool false) ∧ w' = w := Any.cmp_isNaN_int2 Tryz.laysNm237 x w
def Tryz.laysNm231_ren : Go.Shelf.Ren := ⟨fun | 31 => 127 | 37 => 137 | n => n, fun | 3 => 3 | 4 => 4 | n => n, fun | n => n⟩
theorem Tryz.laysNm231 : Go.Proofs.Lays2.n31 Tryz.prog Tryz.laysNm231_ren := {
  mixed := by kernel_rfl
  f31 := Tryz.func127.trans (congrArg some (by kernel_rfl))
  f37 := Tryz.func137.trans (congrArg some (by kernel_rfl))
  t3 := Tryz.underlying3
  a3 := Tryz.isAgg3
  z3 := Tryz.sizeOf3
  v3 := Tryz.zeroValue3
  t4 := Tryz.underlying4
  a4 := Tryz.isAgg4
  z4 := Tryz.sizeOf4
  v4 := Tryz.zeroValue4 }
open Go.RowKit Go.Lib in
theorem Tryz.cmp_Less_int2 (x y : Int) (w : World) :
    Calls Tryz.prog 127 #[.int .i64 x, .int .i64 y] w fun e w' => e = .returned (.bool (decide (x < y))) ∧ w' = w := Any.cmp_Less_int2 Tryz.laysNm231 x y w
open Go.RowKit Go.Sort in
theorem Tryz.slices_Sort_int_none (p : Option Addr) (cap : Nat) (w : World) :
    Calls Tryz.prog 106 #[.slice p 0 cap] w fun e w' => e = .returned (.tuple #[]) ∧ w' = w := Any.slices_Sort_int_none Tryz.lays189 p cap w
end Go.Proofs.YtbebgnknjoclkaaGreat
/- impl.blocksOf, namedSlots, TextOf, nodeAt by their contracts, at right disks. -/
namespace Go.Proofs.YtbebgnknjoclkaaGreat
open Go.RowKit Kit
/-- What blocksOf answers. -/
def blocksOf (is : List Ino) (bs : List Blk) (i kind : Int) : List Blk := if kindAt is i = kind then (ptrsAt is i).map (blkAt bs) else []
/-- A block's cells and its reading. -/
theorem blk_cells {w : World} {bv : Value} {bs : List Blk} (h : R3 KB w bv bs) (x : Int) : ∃ t : V3, KB.R w t (blkAt bs x) ∧ (inB x 1 bs.length = false → t = (.bool false, .slice none 0 0, .string ⟨#[]⟩)) ∧ (inB x 1 bs.length = true → ∃ (j : Nat) (g off c : Nat), x = (j : Int) + 1 ∧ j < bs.length ∧ bv = .slice (some ⟨g, off, none⟩) bs.length c ∧ g < w.heap.size ∧ w.cell? ⟨g, off + j * 3, none⟩ = some t.1 ∧ w.cell? ⟨g, off + j * 3 + 1, none⟩ = some t.2.1 ∧ w.cell? ⟨g, off + j * 3 + 2, none⟩ = some t.2.2) := by
  cases hb : inB x 1 bs.length with
  | false =>
    rw [blkAt_no hb]
    exact ⟨(.bool false, .slice none 0 0, .string ⟨#[]⟩), ⟨rfl, ⟨none, 0, rfl, Nat.le_refl _, fun j hj => by simp at hj⟩, rfl⟩, (fun _ => rfl), fun e => by cases e⟩
  | true =>
    obtain ⟨j, hj, rfl, e⟩ := blkAt_in hb
    obtain ⟨a, c, rfl, -, hc⟩ := h
    obtain ⟨g, off, t, rfl, hg, k0, k1, k2, hr⟩ := hc j hj
    exact ⟨t, by rw [e]; exact hr, (fun e => by cases e), fun _ => ⟨j, g, off, c, rfl, hj, rfl, hg, k0, k1, k2⟩⟩
/-- The cells of a list of two blocks, the first j of them put. -/
def cellsJ (u v : V3) : Nat → Array Value
  | 0 => #[.bool false, .slice none 0 0, .string ⟨#[]⟩, .bool false, .slice none 0 0, .string ⟨#[]⟩]
  | 1 => #[u.1, u.2.1, u.2.2, .bool false, .slice none 0 0, .string ⟨#[]⟩]
  | _ => #[u.1, u.2.1, u.2.2, v.1, v.2.1, v.2.2]
theorem cellsJ_1 (u v : V3) : (((cellsJ u v 0).setIfInBounds 0 u.1).setIfInBounds 1 u.2.1).setIfInBounds 2 u.2.2 = cellsJ u v 1 := by simp [cellsJ]
theorem cellsJ_2 (u v : V3) : (((cellsJ u v 1).setIfInBounds 3 v.1).setIfInBounds 4 v.2.1).setIfInBounds 5 v.2.2 = cellsJ u v 2 := by simp [cellsJ]
/-- blocksOf under way. -/
structure BoR (w wr : World) (D L : Array Value) : Prop where
  b : Below w.heap.size w wr
  d : AtC wr w.heap.size 34 D
  l : AtC wr (w.heap.size + 1 + 1) 70 L
theorem BoR.below {w wr wr' : World} {D L : Array Value} (h : BoR w wr D L) (hb : Below wr.heap.size wr wr') : BoR w wr' D L := ⟨h.b.trans (hb.mono h.b.size), h.d.over hb, h.l.over hb⟩
theorem BoR.set {w wr : World} {D L : Array Value} (h : BoR w wr D L) (j : Nat) (x : Value) : BoR w (wr.setCell ⟨w.heap.size + 1 + 1, j, none⟩ x) D (L.setIfInBounds j x) :=
  ⟨h.b.setCell (p := ⟨w.heap.size + 1 + 1, j, none⟩) (by show w.heap.size ≤ w.heap.size + 1 + 1; omega) x, h.d.other (by omega) _, h.l.set j x⟩
theorem BoR.set3 {w wr : World} {D L : Array Value} (h : BoR w wr D L) (o : Nat) (x y z : Value) : BoR w (((wr.setCell ⟨w.heap.size + 1 + 1, o, none⟩ x).setCell ⟨w.heap.size + 1 + 1, o + 1, none⟩ y).setCell ⟨w.heap.size + 1 + 1, o + 2, none⟩ z) D (((L.setIfInBounds o x).setIfInBounds (o + 1) y).setIfInBounds (o + 2) z) := ((h.set o x).set (o + 1) y).set (o + 2) z
theorem r3_two {w : World} {g : Nat} {u v : V3} {x y : Blk} (h : AtC w g 70 #[u.1, u.2.1, u.2.2, v.1, v.2.1, v.2.2]) (hu : KB.R w u x) (hv : KB.R w v y) : R3 KB w (.slice (some ⟨g, 0, none⟩) 2 2) [x, y] := by
  refine ⟨some ⟨g, 0, none⟩, 2, rfl, Nat.le_refl _, fun j hj => ?_⟩
  have hj' : j = 0 ∨ j = 1 := by simp at hj; omega
  rcases hj' with rfl | rfl
  · exact ⟨g, 0, u, rfl, h.lt, h.cell 0, h.cell 1, h.cell 2, hu⟩
  · exact ⟨g, 0, v, rfl, h.lt, h.cell 3, h.cell 4, h.cell 5, hv⟩
set_option maxRecDepth 100000 in
set_option maxHeartbeats 3200000 in
theorem blocksOf_any (i kind : Int) (dx dy iv bv : Value) (xs ys : List Bool) (is : List Ino) (bs : List Blk) (w : World) (h : DR w dx dy iv bv xs ys is bs) (hR : RD is bs) (hk0 : ¬ kind = 0) :
    Calls Tryz.prog 116 #[.agg #[dx, dy, iv, bv], .int .i64 i, .int .i64 kind] w fun e w' => ∃ v, e = .returned v ∧ R3 KB w' v (blocksOf is bs i kind) ∧ Below w.heap.size w w' := by
  have HH := hide h
  have HRD := hide hR
  obtain ⟨a1, c1, a2, c2, a3, c3, a4, c4, rfl, rfl, rfl, rfl⟩ := h.form
  have h8 := hR.hi
  have h16 := hR.hb
  have hc := h.i
  rw [h8, h16]
  have HB0 : Hid (∀ A B, Below w.heap.size w ((w.alloc (.cells A 34)).alloc (.cells B 34))) := fun A B => ((Below.refl _ w).alloc (Nat.le_refl _) _).alloc (by simp) _
  have CH := hide (fun W => hasI_any i (.slice a1 xs.length c1) (.slice a2 ys.length c2) (.slice a4 16 c4) a3 c3 W)
  have hnil : ∀ W, R3 KB W (.slice none 0 0) [] := fun W => ⟨none, 0, rfl, Nat.le_refl _, fun j hj => by simp at hj⟩
  have HNIL := hide hnil
  clear hnil
  cases hb : inB i 1 8 with
  | false =>
    rw [hb] at CH
    have e0 : blocksOf is bs i kind = [] := by unfold blocksOf; rw [kindAt_out (by rw [h8]; exact hb), if_neg (fun e => hk0 e.symm)]
    rw [e0]
    clear hc h hR hb e0 h8 h16
    go_enter Tryz.func116, Tryz.ntmps116
    go_wp2_with fail
    refine (CH.out _).mono ?_
    rintro e w1 ⟨rfl, rfl⟩
    go_wp2
    go_ret
    exact ⟨_, rfl, HNIL.out _, HB0.out _ _⟩
  | true =>
    rw [hb] at CH
    obtain ⟨h1, h2⟩ := inB_true hb
    obtain ⟨j, rfl⟩ : ∃ j : Nat, i = (j : Int) + 1 := ⟨(i - 1).toNat, by omega⟩
    have hj : j < is.length := by omega
    obtain ⟨qa, qc, qe, -, qh⟩ := hc
    simp only [Value.slice.injEq, true_and] at qe
    obtain ⟨rfl, rfl⟩ := qe
    obtain ⟨g2, o2, ⟨t0, t1, t2⟩, rfl, hg2, r0, r1, r2, e0, e1, rr⟩ := qh j hj
    have hpl := hR.two _ (List.getElem_mem hj)
    have hB : blocksOf is bs ((j : Int) + 1) kind = if is[j].1 = kind then is[j].2.2.map (blkAt bs) else [] := by unfold blocksOf; rw [(kindAt_in hj).1, (kindAt_in hj).2]
    rw [hB]
    obtain ⟨⟨kd, ln, ps⟩, hX⟩ : ∃ X, is[j] = X := ⟨_, rfl⟩
    rw [hX] at e0 e1 rr hpl ⊢
    simp only at e0 e1 rr r0 r1 r2 hpl ⊢
    subst e0 e1
    obtain ⟨p0, p1, rfl⟩ : ∃ p0 p1, ps = [p0, p1] := by
      match ps, hpl with
      | [p0, p1], _ => exact ⟨p0, p1, rfl⟩
    obtain ⟨sa, sc, e1, hcp⟩ := rr
    have e2 : t2 = .slice sa 2 sc := e1
    subst e2
    obtain ⟨gp, op, rfl, hgp, kp0⟩ := hcp 0 (by simp)
    obtain ⟨gp', op', e3, -, kp1⟩ := hcp 1 (by simp)
    simp only [Option.some.injEq, Addr.mk.injEq, and_true] at e3
    obtain ⟨rfl, rfl⟩ := e3
    simp only [List.getElem_cons_zero, List.getElem_cons_succ, Nat.add_zero] at kp0 kp1
    have HP0 : Hid (∀ W, Below w.heap.size w W → W.cell? ⟨gp, op, none⟩ = some (.int .i64 p0)) := fun W b => (b.cell (p := ⟨gp, op, none⟩) hgp).trans kp0
    have HP1 : Hid (∀ W, Below w.heap.size w W → W.cell? ⟨gp, op + 1, none⟩ = some (.int .i64 p1)) := fun W b => (b.cell (p := ⟨gp, op + 1, none⟩) hgp).trans kp1
    have HI : Hid (∀ W, Below w.heap.size w W → W.cell? ⟨g2, o2 + j * 3, none⟩ = some (.int .i64 kd) ∧ W.cell? ⟨g2, o2 + j * 3 + 1, none⟩ = some (.int .i64 ln) ∧ W.cell? ⟨g2, o2 + j * 3 + 2, none⟩ = some (.slice (some ⟨gp, op, none⟩) 2 sc)) := fun W bb => ⟨(bb.cell (p := ⟨g2, o2 + j * 3, none⟩) hg2).trans r0, (bb.cell (p := ⟨g2, o2 + j * 3 + 1, none⟩) hg2).trans r1, (bb.cell (p := ⟨g2, o2 + j * 3 + 2, none⟩) hg2).trans r2⟩
    have hwj : IntKind.i64.wrap (j : Int) = (j : Int) := wrap_small _ (by omega) (by omega)
    have j0 : (0 : Int) ≤ (j : Int) := by omega
    have j1 : (j : Int) < 8 := by omega
    obtain ⟨y0, y1, y2⟩ := HI.out _ (HB0.out #[.slice a1 xs.length c1, .slice a2 ys.length c2, .slice (some ⟨g2, o2, none⟩) 8 c3, .slice a4 16 c4] #[.slice a1 xs.length c1, .slice a2 ys.length c2, .slice (some ⟨g2, o2, none⟩) 8 c3, .slice a4 16 c4])
    obtain ⟨⟨u0, u1, u2⟩, RU, FU, GU⟩ := blk_cells HH.out.k p0
    obtain ⟨⟨v0, v1, v2⟩, RV, FV, GV⟩ := blk_cells HH.out.k p1
    obtain ⟨ub, ua, un, uc, ut, hu0, hu1, hu2⟩ : ∃ ub ua un uc ut, u0 = .bool ub ∧ u1 = .slice ua un uc ∧ u2 = .string ut := by
      obtain ⟨q0, ⟨sa', sc', q1, -⟩, q2⟩ := RU
      exact ⟨_, _, _, _, _, q0, q1, q2⟩
    obtain ⟨vb, va, vn, vc, vt, hv0, hv1, hv2⟩ : ∃ ub ua un uc ut, v0 = .bool ub ∧ v1 = .slice ua un uc ∧ v2 = .string ut := by
      obtain ⟨q0, ⟨sa', sc', q1, -⟩, q2⟩ := RV
      exact ⟨_, _, _, _, _, q0, q1, q2⟩
    subst hu0 hu1 hu2 hv0 hv1 hv2
    rw [h16] at FU GU FV GV
    have HF0 := hide FU
    have HF1 := hide FV
    have HG0 := hide GU
    have HG1 := hide GV
    have HRU := hide (And.intro RU RV)
    have CB := hide (fun (p : Int) W => hasB_any p (.slice a1 xs.length c1) (.slice a2 ys.length c2) (.slice (some ⟨g2, o2, none⟩) 8 c3) a4 c4 W)
    clear hB hX hb h1 h2 hcp h r0 r1 r2 kp0 kp1 hpl hR qh RU RV FU FV GU GV h8 h16
    by_cases hkd : kd = kind
    rotate_left
    · have hkb : (kd != kind) = true := by simp [hkd]
      rw [if_neg hkd]
      go_enter Tryz.func116, Tryz.ntmps116
      go_wp2_with fail
      refine (CH.out _).mono ?_
      rintro e w1 ⟨rfl, rfl⟩
      go_wp2
      go_ret
      exact ⟨_, rfl, HNIL.out _, HB0.out _ _⟩
    subst hkd
    rw [if_pos rfl]
    have mk : ∀ W : World, (Instr.makeSlice 32 (.int .i64 2) (.int .i64 2)).run Tryz.prog W = .ok (.slice (some ⟨W.heap.size, 0, none⟩) 2 2) (W.alloc (.cells #[.bool false, .slice none 0 0, .string ⟨#[]⟩, .bool false, .slice none 0 0, .string ⟨#[]⟩] 70)) := fun W => by
      have := make_blk 2 (by decide) W
      rw [show madeCells #[.bool false, .slice none 0 0, .string ⟨#[]⟩] (2 * 3) = cellsJ (.bool ub, .slice ua un uc, .string ut) (.bool vb, .slice va vn vc, .string vt) 0 from Array.toList_inj.1 (by rw [made_three]; rfl)] at this
      exact this
    go_enter Tryz.func116, Tryz.ntmps116
    go_wp2_with fail
    refine (CH.out _).mono ?_
    rintro e w1 ⟨rfl, rfl⟩
    have HBOX : Hid (BoR w (((w.alloc (.cells #[.slice a1 xs.length c1, .slice a2 ys.length c2, .slice (some ⟨g2, o2, none⟩) 8 c3, .slice a4 16 c4] 34)).alloc (.cells #[.slice a1 xs.length c1, .slice a2 ys.length c2, .slice (some ⟨g2, o2, none⟩) 8 c3, .slice a4 16 c4] 34)).alloc (.cells #[.bool false, .slice none 0 0, .string ⟨#[]⟩, .bool false, .slice none 0 0, .string ⟨#[]⟩] 70)) #[.slice a1 xs.length c1, .slice a2 ys.length c2, .slice (some ⟨g2, o2, none⟩) 8 c3, .slice a4 16 c4] (cellsJ (.bool ub, .slice ua un uc, .string ut) (.bool vb, .slice va vn vc, .string vt) 0)) := by
      refine ⟨(HB0.out _ _).alloc (HB0.out #[.slice a1 xs.length c1, .slice a2 ys.length c2, .slice (some ⟨g2, o2, none⟩) 8 c3, .slice a4 16 c4] #[.slice a1 xs.length c1, .slice a2 ys.length c2, .slice (some ⟨g2, o2, none⟩) 8 c3, .slice a4 16 c4]).size _, ((AtC.new w 34 _).alloc _).alloc _, ?_⟩
      have := AtC.new ((w.alloc (.cells #[.slice a1 xs.length c1, .slice a2 ys.length c2, .slice (some ⟨g2, o2, none⟩) 8 c3, .slice a4 16 c4] 34)).alloc (.cells #[.slice a1 xs.length c1, .slice a2 ys.length c2, .slice (some ⟨g2, o2, none⟩) 8 c3, .slice a4 16 c4] 34)) 70 #[.bool false, .slice none 0 0, .string ⟨#[]⟩, .bool false, .slice none 0 0, .string ⟨#[]⟩]
      rw [World.size_alloc, World.size_alloc] at this
      exact this
    go_wp2_with fail
    clear y0 y1 y2 CH HNIL HB0
    go_loopw [38] (fun iv wr => ∃ q : Nat, q ≤ 2 ∧ iv = .int .i64 q ∧ Hid (BoR w wr #[.slice a1 xs.length c1, .slice a2 ys.length c2, .slice (some ⟨g2, o2, none⟩) 8 c3, .slice a4 16 c4] (cellsJ (.bool ub, .slice ua un uc, .string ut) (.bool vb, .slice va vn vc, .string vt) q))) (fun iv _ => 2 - (intOf iv).toNat)
    case atStart => exact ⟨0, by omega, rfl, HBOX.out⟩
    case round =>
      obtain ⟨q, hq, rfl, HS⟩ := hrel
      clear HBOX mk
      have hq3 : q = 0 ∨ q = 1 ∨ q = 2 := by omega
      rcases hq3 with rfl | rfl | rfl
      · skip
        have y1 : wr.cell? ⟨gp, op, none⟩ = some (.int .i64 p0) := HP0.out _ HS.out.b
        have z0 : wr.cell? ⟨w.heap.size, 0, none⟩ = some (.slice a1 xs.length c1) := HS.out.d.cell 0
        have z1 : wr.cell? ⟨w.heap.size, 1, none⟩ = some (.slice a2 ys.length c2) := HS.out.d.cell 1
        have z2 : wr.cell? ⟨w.heap.size, 2, none⟩ = some (.slice (some ⟨g2, o2, none⟩) 8 c3) := HS.out.d.cell 2
        have z3 : wr.cell? ⟨w.heap.size, 3, none⟩ = some (.slice a4 16 c4) := HS.out.d.cell 3
        cases hb : inB p0 1 16 with
        | false =>
          have HZ := hide (HF0.out hb)
          have CB2 := hide (fun W => CB.out p0 W)
          rw [hb] at CB2
          clear hb
          go_wp2_with fail
          refine (CB2.out _).mono ?_
          rintro e w5 ⟨rfl, rfl⟩
          have HS2 := hide (HS.out.below ((Below.refl _ wr).alloc (Nat.le_refl _) (.cells #[.slice a1 xs.length c1, .slice a2 ys.length c2, .slice (some ⟨g2, o2, none⟩) 8 c3, .slice a4 16 c4] 34)))
          clear z0 z1 z2 z3 y1
          go_wp2
          go_roundw
          case rel =>
            refine ⟨1, by omega, rfl, hide ?_⟩
            have := HS2.out
            rw [show cellsJ (.bool ub, .slice ua un uc, .string ut) (.bool vb, .slice va vn vc, .string vt) 1 = cellsJ (.bool ub, .slice ua un uc, .string ut) (.bool vb, .slice va vn vc, .string vt) 0 from by have := HZ.out; simp only [Prod.mk.injEq] at this; obtain ⟨q0, q1, q2⟩ := this; simp only [cellsJ, q0, q1, q2]]
            exact this
          case measure => simp [intOf]
        | true =>
          obtain ⟨jb, gb, ob, cb, hpj, hjb, eb, hgb, b0, b1, b2⟩ := HG0.out hb
          simp only [Value.slice.injEq, true_and] at eb
          obtain ⟨rfl, -⟩ := eb
          have CB2 := hide (fun W => CB.out p0 W)
          rw [hb] at CB2
          clear hb
          subst hpj
          have jb16 : jb < 16 := by omega
          have hwj2 : IntKind.i64.wrap (jb : Int) = (jb : Int) := wrap_small _ (by omega) (by omega)
          have jb0 : (0 : Int) ≤ (jb : Int) := by omega
          have jb1 : (jb : Int) < 16 := by omega
          go_wp2_with fail
          refine (CB2.out _).mono ?_
          rintro e w5 ⟨rfl, rfl⟩
          obtain ⟨w5, hw5⟩ : ∃ w5, wr.alloc (.cells #[.slice a1 xs.length c1, .slice a2 ys.length c2, .slice (some ⟨g2, o2, none⟩) 8 c3, .slice (some ⟨gb, ob, none⟩) 16 c4] 34) = w5 := ⟨_, rfl⟩
          have HS2 : Hid (BoR w w5 #[.slice a1 xs.length c1, .slice a2 ys.length c2, .slice (some ⟨g2, o2, none⟩) 8 c3, .slice (some ⟨gb, ob, none⟩) 16 c4] (cellsJ (.bool ub, .slice ua un uc, .string ut) (.bool vb, .slice va vn vc, .string vt) 0)) := by rw [← hw5]; exact HS.out.below ((Below.refl _ wr).alloc (Nat.le_refl _) _)
          have d0 := (HS2.out.b.cell (p := ⟨gb, ob + jb * 3, none⟩) hgb).trans b0
          have d1 := (HS2.out.b.cell (p := ⟨gb, ob + jb * 3 + 1, none⟩) hgb).trans b1
          have d2 := (HS2.out.b.cell (p := ⟨gb, ob + jb * 3 + 2, none⟩) hgb).trans b2
          have z3 : w5.cell? ⟨w.heap.size, 3, none⟩ = some (.slice (some ⟨gb, ob, none⟩) 16 c4) := HS2.out.d.cell 3
          rw [hw5]
          clear hw5 b0 b1 b2 y1 z0 z1 z2 HS CB2
          have k0 : w5.cell? ⟨w.heap.size + 1 + 1, 0, none⟩ = some (.bool false) := HS2.out.l.cell 0
          have k1 : w5.cell? ⟨w.heap.size + 1 + 1, 1, none⟩ = some (.slice none 0 0) := HS2.out.l.cell 1
          have k2 : w5.cell? ⟨w.heap.size + 1 + 1, 2, none⟩ = some (.string ⟨#[]⟩) := HS2.out.l.cell 2
          have f0 := HS2.out.l.frozen 0
          have f1 := HS2.out.l.frozen 1
          have f2 := HS2.out.l.frozen 2
          have l5 : w.heap.size + 1 + 1 < w5.heap.size := HS2.out.l.lt
          have hgb2 : ¬ gb = w.heap.size + 1 + 1 := by omega
          have HS3 := hide (HS2.out.set3 0 (.bool ub) (.slice ua un uc) (.string ut))
          rw [cellsJ_1 (.bool ub, .slice ua un uc, .string ut) (.bool vb, .slice va vn vc, .string vt)] at HS3
          clear HS2
          go_wp2
          go_roundw
          case rel => exact ⟨1, by omega, rfl, HS3.out⟩
          case measure => simp [intOf]
      · skip
        have y1 : wr.cell? ⟨gp, op + 1, none⟩ = some (.int .i64 p1) := HP1.out _ HS.out.b
        have z0 : wr.cell? ⟨w.heap.size, 0, none⟩ = some (.slice a1 xs.length c1) := HS.out.d.cell 0
        have z1 : wr.cell? ⟨w.heap.size, 1, none⟩ = some (.slice a2 ys.length c2) := HS.out.d.cell 1
        have z2 : wr.cell? ⟨w.heap.size, 2, none⟩ = some (.slice (some ⟨g2, o2, none⟩) 8 c3) := HS.out.d.cell 2
        have z3 : wr.cell? ⟨w.heap.size, 3, none⟩ = some (.slice a4 16 c4) := HS.out.d.cell 3
        cases hb : inB p1 1 16 with
        | false =>
          have HZ := hide (HF1.out hb)
          have CB2 := hide (fun W => CB.out p1 W)
          rw [hb] at CB2
          clear hb
          go_wp2_with fail
          refine (CB2.out _).mono ?_
          rintro e w5 ⟨rfl, rfl⟩
          have HS2 := hide (HS.out.below ((Below.refl _ wr).alloc (Nat.le_refl _) (.cells #[.slice a1 xs.length c1, .slice a2 ys.length c2, .slice (some ⟨g2, o2, none⟩) 8 c3, .slice a4 16 c4] 34)))
          clear z0 z1 z2 z3 y1
          go_wp2
          go_roundw
          case rel =>
            refine ⟨2, by omega, rfl, hide ?_⟩
            have := HS2.out
            rw [show cellsJ (.bool ub, .slice ua un uc, .string ut) (.bool vb, .slice va vn vc, .string vt) 2 = cellsJ (.bool ub, .slice ua un uc, .string ut) (.bool vb, .slice va vn vc, .string vt) 1 from by have := HZ.out; simp only [Prod.mk.injEq] at this; obtain ⟨q0, q1, q2⟩ := this; simp only [cellsJ, q0, q1, q2]]
            exact this
          case measure => simp [intOf]
        | true =>
          obtain ⟨jb, gb, ob, cb, hpj, hjb, eb, hgb, b0, b1, b2⟩ := HG1.out hb
          simp only [Value.slice.injEq, true_and] at eb
          obtain ⟨rfl, -⟩ := eb
          have CB2 := hide (fun W => CB.out p1 W)
          rw [hb] at CB2
          clear hb
          subst hpj
          have jb16 : jb < 16 := by omega
          have hwj2 : IntKind.i64.wrap (jb : Int) = (jb : Int) := wrap_small _ (by omega) (by omega)
          have jb0 : (0 : Int) ≤ (jb : Int) := by omega
          have jb1 : (jb : Int) < 16 := by omega
          go_wp2_with fail
          refine (CB2.out _).mono ?_
          rintro e w5 ⟨rfl, rfl⟩
          obtain ⟨w5, hw5⟩ : ∃ w5, wr.alloc (.cells #[.slice a1 xs.length c1, .slice a2 ys.length c2, .slice (some ⟨g2, o2, none⟩) 8 c3, .slice (some ⟨gb, ob, none⟩) 16 c4] 34) = w5 := ⟨_, rfl⟩
          have HS2 : Hid (BoR w w5 #[.slice a1 xs.length c1, .slice a2 ys.length c2, .slice (some ⟨g2, o2, none⟩) 8 c3, .slice (some ⟨gb, ob, none⟩) 16 c4] (cellsJ (.bool ub, .slice ua un uc, .string ut) (.bool vb, .slice va vn vc, .string vt) 1)) := by rw [← hw5]; exact HS.out.below ((Below.refl _ wr).alloc (Nat.le_refl _) _)
          have d0 := (HS2.out.b.cell (p := ⟨gb, ob + jb * 3, none⟩) hgb).trans b0
          have d1 := (HS2.out.b.cell (p := ⟨gb, ob + jb * 3 + 1, none⟩) hgb).trans b1
          have d2 := (HS2.out.b.cell (p := ⟨gb, ob + jb * 3 + 2, none⟩) hgb).trans b2
          have z3 : w5.cell? ⟨w.heap.size, 3, none⟩ = some (.slice (some ⟨gb, ob, none⟩) 16 c4) := HS2.out.d.cell 3
          rw [hw5]
          clear hw5 b0 b1 b2 y1 z0 z1 z2 HS CB2
          have k0 : w5.cell? ⟨w.heap.size + 1 + 1, 3, none⟩ = some (.bool false) := HS2.out.l.cell 3
          have k1 : w5.cell? ⟨w.heap.size + 1 + 1, 4, none⟩ = some (.slice none 0 0) := HS2.out.l.cell 4
          have k2 : w5.cell? ⟨w.heap.size + 1 + 1, 5, none⟩ = some (.string ⟨#[]⟩) := HS2.out.l.cell 5
          have f0 := HS2.out.l.frozen 3
          have f1 := HS2.out.l.frozen 4
          have f2 := HS2.out.l.frozen 5
          have l5 : w.heap.size + 1 + 1 < w5.heap.size := HS2.out.l.lt
          have hgb2 : ¬ gb = w.heap.size + 1 + 1 := by omega
          have HS3 := hide (HS2.out.set3 3 (.bool vb) (.slice va vn vc) (.string vt))
          rw [cellsJ_2 (.bool ub, .slice ua un uc, .string ut) (.bool vb, .slice va vn vc, .string vt)] at HS3
          clear HS2
          go_wp2
          go_roundw
          case rel => exact ⟨2, by omega, rfl, HS3.out⟩
          case measure => simp [intOf]
      · go_wp2
        go_ret
        exact ⟨_, rfl, r3_two HS.out.l (KB.bel HRU.out.1 HS.out.b (Nat.le_refl _)) (KB.bel HRU.out.2 HS.out.b (Nat.le_refl _)), HS.out.b⟩
end Go.Proofs.YtbebgnknjoclkaaGreat
/- impl.namedSlots by its contract, at right disks. -/
namespace Go.Proofs.YtbebgnknjoclkaaGreat
open Go.RowKit Kit
theorem step_append_sl (W : World) {ops : Array Oper} {o : Oper} {a : Act} {K : Act → World → Prop} {Q : Exit → Act → World → Prop} {E : Prop} (hgd : o.guard = none) (s x : Operand)
    (ho : o.op = .call { callee := .builtin .append, args := #[s, x], argTypes := #[68, 68] }) (base : Nat) (v : Value) (l : List Sl) (hs : a.eval s = v) (hown : SOwns W base 74 v l) (hbase : base ≤ W.heap.size)
    (g : Nat) (nm : ByteArray) (io : Int) (hx : a.eval x = .slice (some ⟨g, 0, none⟩) 1 1) (hc : AtC W g 74 #[.string nm, .int .i64 io]) (hl : l.length ≤ 100000000000)
    (h : ∀ v' w', SOwns w' base 74 v' (l ++ [(nm, io)]) → W.grownBy w' v.ownBlock → (∀ k, v'.ownBlock = some k → v.ownBlock = some k ∨ W.heap.size ≤ k) → K (a.put o.dst v') w') :
    if Region.wanted o (yielded ops a.tmps) = true then Oper.wp Tryz.prog o a W K Q else E := by
  obtain ⟨i0, hi, hz0, hz1, hz2⟩ := info_parts Tryz.i74
  refine step_append_lies _ hgd s x 68 ho base 74 i0 _ 2 24 Tryz.u68 hi hz0 hz1 hz2 rfl (by decide) v l.length (sc l) hs hown ⟨g, 0, none⟩ 1 1 [.string nm, .int .i64 io] hx rfl ?_ ?_ (by decide) ?_ ?_ hbase W.heap.size rfl ?_
  · intro j u hj
    have := (hc.cell j).trans (show (#[.string nm, .int .i64 io] : Array Value)[j]? = some u by simpa using hj)
    by_cases e : j = 0
    · subst e; simpa [Addr.add] using this
    · simpa [Addr.add, e] using this
  · intro u hu
    simp only [List.mem_cons, List.not_mem_nil, or_false] at hu
    rcases hu with rfl | rfl <;> rfl
  · unfold maxLen; omega
  · omega
  · intro g' cap w' hown' hgrow hat _
    refine h _ w' ?_ hgrow fun k hk => ?_
    · show w'.ownsRow base 74 2 _ (l ++ [(nm, io)]).length (sc (l ++ [(nm, io)]))
      rw [List.length_append, sc_append]
      exact hown'
    · simp only [Value.ownBlock, Option.some.injEq] at hk
      subst hk
      rcases hat with hat | hat
      · exact .inl hat
      · exact .inr (by omega)
theorem nmdS_blk {is : List Ino} {bs : List Blk} (h : RD is bs) (x : Int) : nmdS (blkAt bs x).2.1 = nmd (blkAt bs x) := by
  unfold nmd
  split
  · rfl
  · rename_i e
    have e : (blkAt bs x).1 = false := by simpa using e
    rcases blkAt_cases bs x with q | q
    · rw [q]; rfl
    · rw [h.text _ q e]; rfl
/-- The named slots of blocks. -/
def nmdB (l : List Blk) : List Sl := l.flatMap fun b => nmdS b.2.1
theorem nmdB_named {is : List Ino} {bs : List Blk} (h : RD is bs) (i : Int) : nmdB (blocksOf is bs i 2) = named is bs i := by
  unfold named blocksOf nmdB
  split
  · unfold nmdP
    rw [List.flatMap_map]
    congr 1
    funext x
    exact nmdS_blk h x
  · rfl
theorem blocksOf_len {is : List Ino} {bs : List Blk} (h : RD is bs) (i k : Int) : (blocksOf is bs i k).length ≤ 2 ∧ ∀ b ∈ blocksOf is bs i k, b.2.1.length ≤ 4 ∧ b.2.2.size ≤ 16 := by
  unfold blocksOf
  split
  · refine ⟨?_, fun b hb => ?_⟩
    · rw [List.length_map]
      rcases kindAt_cases (is := is) i with ⟨-, e⟩ | ⟨q, hq, -, e⟩
      · rw [e]; simp
      · rw [e, h.two q hq]; exact Nat.le_refl _
    · obtain ⟨x, -, rfl⟩ := List.mem_map.1 hb
      refine ⟨h.blk4 x, ?_⟩
      rcases blkAt_cases bs x with e | e
      · rw [e]; exact Nat.zero_le _
      · exact h.tx _ e
  · exact ⟨by simp, fun b hb => by cases hb⟩
theorem nmdB_take {l : List Blk} {q : Nat} (h : q < l.length) : nmdB (l.take (q + 1)) = nmdB (l.take q) ++ nmdS l[q].2.1 := by
  rw [List.take_succ_eq_append_getElem h]
  unfold nmdB
  rw [List.flatMap_append, List.flatMap_cons, List.flatMap_nil, List.append_nil]
set_option maxRecDepth 100000 in
set_option maxHeartbeats 3200000 in
theorem namedI_any (i : Int) (dx dy iv bv : Value) (xs ys : List Bool) (is : List Ino) (bs : List Blk) (w : World) (h : DR w dx dy iv bv xs ys is bs) (hR : RD is bs) :
    Calls Tryz.prog 104 #[.agg #[dx, dy, iv, bv], .int .i64 i] w fun e w' => ∃ v, e = .returned v ∧ SOwns w' w.heap.size 74 v (named is bs i) ∧ Below w.heap.size w w' := by
  have CB := hide (blocksOf_any i 2 dx dy iv bv xs ys is bs (w.alloc (.cells #[dx, dy, iv, bv] 34)) (h.alloc _) hR (by decide))
  obtain ⟨HL1, HL2⟩ := blocksOf_len hR i 2
  have HBL := hide HL2
  rw [← nmdB_named hR i]
  obtain ⟨a1, c1, a2, c2, a3, c3, a4, c4, rfl, rfl, rfl, rfl⟩ := h.form
  obtain ⟨BL, hBL⟩ : ∃ l, blocksOf is bs i 2 = l := ⟨_, rfl⟩
  rw [hBL] at CB HBL HL1 ⊢
  obtain ⟨RES, hRES⟩ : ∃ l, nmdB BL = l := ⟨_, rfl⟩
  rw [hRES]
  have HRES := hide hRES
  clear h hR HL2 hBL hRES
  go_enter Tryz.func104, Tryz.ntmps104
  go_wp2_with fail
  refine CB.out.mono ?_
  rintro e w1 ⟨lv, rfl, R1, B1⟩
  have HB1 : Hid (Below w.heap.size w w1) := ((Below.refl _ w).alloc (Nat.le_refl _) _).trans (B1.mono (by simp))
  obtain ⟨la, lc, rfl, -, hcl⟩ := R1
  have HCL := hide hcl
  clear B1 hcl CB
  go_wp2_with fail
  go_loopw [5, 14] (fun sv kv wr => ∃ (s' : Value) (q : Nat), s' = sv ∧ q ≤ BL.length ∧ kv = .int .i64 q ∧ Hid (SOwns wr w1.heap.size 74 s' (nmdB (BL.take q)) ∧ Below w1.heap.size w1 wr ∧ (nmdB (BL.take q)).length ≤ 4 * q)) (fun _ kv _ => BL.length - (intOf kv).toNat)
  case atStart => exact ⟨_, 0, rfl, Nat.zero_le _, rfl, SOwns.nil _ _ _, Below.refl _ _, by simp [nmdB]⟩
  case round =>
    obtain ⟨sv, q, hsv, hq, rfl, HR⟩ := hrel
    subst hsv
    have q0 : (0 : Int) ≤ (q : Int) := by omega
    by_cases hlt : q < BL.length
    rotate_left
    · have q1 : ¬ ((q : Int) < (BL.length : Int)) := by omega
      go_wp2
      go_ret
      refine ⟨_, rfl, ?_, HB1.out.trans (HR.out.2.1.mono HB1.out.size)⟩
      have := HR.out.1
      rw [List.take_of_length_le (by omega), HRES.out] at this
      exact this.base_le HB1.out.size
    have q1 : (q : Int) < (BL.length : Int) := by omega
    have HT := hide (nmdB_take hlt)
    have HB4 := hide (HBL.out _ (List.getElem_mem hlt)).1
    obtain ⟨gb, ob, ⟨t0, t1, t2⟩, rfl, hgb, b0, b1, b2, r0, r1, r2⟩ := HCL.out q hlt
    simp only at b0 b1 b2 r0 r1 r2
    subst r0 r2
    obtain ⟨bd, hbd⟩ : ∃ X, BL[q].1 = X := ⟨_, rfl⟩
    obtain ⟨bss, hbss⟩ : ∃ X, BL[q].2.1 = X := ⟨_, rfl⟩
    obtain ⟨btx, hbtx⟩ : ∃ X, BL[q].2.2 = X := ⟨_, rfl⟩
    rw [hbd] at b0
    rw [hbss] at r1 HT HB4
    rw [hbtx] at b2
    obtain ⟨sa, sc', rfl, -, hcs⟩ := r1
    have HCS := hide hcs
    replace b0 := (HR.out.2.1.cell (p := ⟨gb, ob + q * 3, none⟩) hgb).trans b0
    replace b1 := (HR.out.2.1.cell (p := ⟨gb, ob + q * 3 + 1, none⟩) hgb).trans b1
    replace b2 := (HR.out.2.1.cell (p := ⟨gb, ob + q * 3 + 2, none⟩) hgb).trans b2
    have hgw : ¬ gb = wr.heap.size := by have := HR.out.2.1.size; omega
    have HAL : Hid (Below wr.heap.size wr (wr.alloc (.cells #[.bool bd, .slice sa bss.length sc', .string btx] 70))) := (Below.refl _ wr).alloc (Nat.le_refl _) _
    have HR2 : Hid (SOwns (wr.alloc (.cells #[.bool bd, .slice sa bss.length sc', .string btx] 70)) w1.heap.size 74 sv (nmdB (BL.take q) ++ nmdS (bss.take 0)) ∧ Below w1.heap.size w1 (wr.alloc (.cells #[.bool bd, .slice sa bss.length sc', .string btx] 70)) ∧ (nmdB (BL.take q) ++ nmdS (bss.take 0)).length ≤ 4 * q + 0) := by
      have e : nmdS (bss.take 0) = [] := by simp [nmdS]
      rw [e, List.append_nil]
      exact ⟨HR.out.1.alloc _, HR.out.2.1.alloc HR.out.2.1.size _, HR.out.2.2⟩
    clear hbd hbss hbtx hcs
    obtain ⟨W2, hW2⟩ : ∃ W2, wr.alloc (.cells #[.bool bd, .slice sa bss.length sc', .string btx] 70) = W2 := ⟨_, rfl⟩
    have x1 : W2.cell? ⟨wr.heap.size, 1, none⟩ = some (.slice sa bss.length sc') := by rw [← hW2]; exact (AtC.new wr 70 _).cell 1
    rw [hW2] at HR2
    go_wp2_with fail
    clear b0 b1 b2 HR hW2 x1 HAL
    go_loopw [5, 21] (fun sv kv wr => ∃ (s' : Value) (t : Nat), s' = sv ∧ t ≤ bss.length ∧ kv = .int .i64 t ∧ Hid (SOwns wr w1.heap.size 74 s' (nmdB (BL.take q) ++ nmdS (bss.take t)) ∧ Below w1.heap.size w1 wr ∧ (nmdB (BL.take q) ++ nmdS (bss.take t)).length ≤ 4 * q + t)) (fun _ kv _ => bss.length - (intOf kv).toNat)
    case atStart => exact ⟨_, 0, rfl, Nat.zero_le _, rfl, HR2.out⟩
    case round =>
      obtain ⟨sv', t, hsv, ht, rfl, HS⟩ := hrel
      subst hsv
      clear HR2
      have t0 : (0 : Int) ≤ (t : Int) := by omega
      have hq2 : q < 2 := by omega
      by_cases htl : t < bss.length
      rotate_left
      · have t1 : ¬ ((t : Int) < (bss.length : Int)) := by omega
        go_wp2
        go_roundw
        case rel =>
          refine ⟨_, q + 1, rfl, by omega, by go_num, ?_, HS.out.2.1, ?_⟩
          · have := HS.out.1
            rw [List.take_of_length_le (show bss.length ≤ t by omega), ← HT.out] at this
            exact this
          · have := HS.out.2.2
            rw [List.take_of_length_le (show bss.length ≤ t by omega), ← HT.out] at this
            have := HB4.out
            omega
        case measure => simp [intOf]; omega
      have t1 : (t : Int) < (bss.length : Int) := by omega
      have HTS := hide (nmdS_take htl)
      obtain ⟨gs, os, rfl, hgs, ks0, ks1⟩ := HCS.out t htl
      obtain ⟨⟨sn, si⟩, hsn⟩ : ∃ X, bss[t] = X := ⟨_, rfl⟩
      rw [hsn] at ks0 ks1 HTS
      simp only at ks0 ks1
      replace ks0 := (HS.out.2.1.cell (p := ⟨gs, os + t * 2, none⟩) hgs).trans ks0
      replace ks1 := (HS.out.2.1.cell (p := ⟨gs, os + t * 2 + 1, none⟩) hgs).trans ks1
      have hgsw : ¬ gs = wr.heap.size := by have := HS.out.2.1.size; omega
      clear hsn
      have hb4 := HB4.out
      by_cases hse : sn = ⟨#[]⟩
      · subst hse
        have HS2 : Hid (SOwns (wr.alloc (.cells #[.string ⟨#[]⟩, .int .i64 si] 74)) w1.heap.size 74 sv' (nmdB (BL.take q) ++ nmdS (bss.take (t + 1))) ∧ Below w1.heap.size w1 (wr.alloc (.cells #[.string ⟨#[]⟩, .int .i64 si] 74)) ∧ (nmdB (BL.take q) ++ nmdS (bss.take (t + 1))).length ≤ 4 * q + (t + 1)) := by
          have e := HTS.out
          rw [if_pos rfl, List.append_nil] at e
          rw [e]
          exact ⟨HS.out.1.alloc _, HS.out.2.1.alloc HS.out.2.1.size _, by have := HS.out.2.2; omega⟩
        go_wp2
        go_roundw
        case rel => exact ⟨_, t + 1, rfl, by omega, by go_num, HS2.out⟩
        case measure => simp [intOf]; omega
      have hse2 : (sn.toList == ([] : List UInt8)) = false := beq_empty hse
      have hse3 : (sn.toList != ([] : List UInt8)) = true := by simp [bne, hse2]
      have HAL2 : Hid (Below w1.heap.size w1 ((wr.alloc (.cells #[.string sn, .int .i64 si] 74)).alloc (.cells #[.string sn, .int .i64 si] 74)) ∧ SOwns ((wr.alloc (.cells #[.string sn, .int .i64 si] 74)).alloc (.cells #[.string sn, .int .i64 si] 74)) w1.heap.size 74 sv' (nmdB (BL.take q) ++ nmdS (bss.take t)) ∧ AtC ((wr.alloc (.cells #[.string sn, .int .i64 si] 74)).alloc (.cells #[.string sn, .int .i64 si] 74)) (wr.heap.size + 1) 74 #[.string sn, .int .i64 si]) := by
        have a := AtC.new (wr.alloc (.cells #[.string sn, .int .i64 si] 74)) 74 #[.string sn, .int .i64 si]
        rw [World.size_alloc] at a
        have sz := HS.out.2.1.size
        exact ⟨(HS.out.2.1.alloc sz _).alloc (by simp; omega) _, (HS.out.1.alloc _).alloc _, a⟩
      have HSZ : Hid (w1.heap.size ≤ ((wr.alloc (.cells #[.string sn, .int .i64 si] 74)).alloc (.cells #[.string sn, .int .i64 si] 74)).heap.size) := HAL2.out.1.size
      have HTL : Hid ((nmdB (BL.take q) ++ nmdS (bss.take t)).length ≤ 100000000000) := by have := HS.out.2.2; show _ ≤ _; omega
      go_wp2_with (at_builtin; refine wpList_step fun K' hK' => ?_; refine step_append_sl _ rfl (.tmp 28) (.tmp 30) rfl w1.heap.size sv' _ rfl HAL2.out.2.1 HSZ.out (wr.heap.size + 1) sn si rfl HAL2.out.2.2 HTL.out ?_; intro v12 w12 T12 G12 V12; refine hK' _ _ ?_; have HR12 := hide (And.intro T12 (And.intro G12 V12)); clear T12 G12 V12 hK')
      have HS2 : Hid (SOwns w12 w1.heap.size 74 v12 (nmdB (BL.take q) ++ nmdS (bss.take (t + 1))) ∧ Below w1.heap.size w1 w12 ∧ (nmdB (BL.take q) ++ nmdS (bss.take (t + 1))).length ≤ 4 * q + (t + 1)) := by
        have e := HTS.out
        rw [if_neg hse] at e
        rw [e, ← List.append_assoc]
        refine ⟨HR12.out.1, HAL2.out.1.grown HR12.out.2.1 HSZ.out (fun k hk => (HAL2.out.2.1.lt k hk).1), ?_⟩
        have := HS.out.2.2
        rw [List.length_append]
        simp
        simp at this
        omega
      go_roundw
      case rel => exact ⟨_, t + 1, rfl, by omega, by go_num, HS2.out⟩
      case measure => simp [intOf]; omega
end Go.Proofs.YtbebgnknjoclkaaGreat
/- Of the specification: l14Slots by its contract. -/
namespace Go.Proofs.YtbebgnknjoclkaaGreat.Kit
open Go.RowKit
/-- Slots under way: a list of its own, apart from a box. -/
structure SlR (w wr : World) (D : Array Value) (bw : Nat) (lv : Value) (l : List Sl) : Prop where
  o : SOwns wr (w.heap.size + 1) 74 lv l
  n : ∀ k, lv.ownBlock = some k → k ≠ bw
  b : Below w.heap.size w wr
  d : AtC wr w.heap.size 34 D
theorem SlR.below {w wr wr' : World} {D : Array Value} {bw : Nat} {lv : Value} {l : List Sl} (h : SlR w wr D bw lv l) (hb : Below wr.heap.size wr wr') : SlR w wr' D bw lv l :=
  ⟨h.o.below hb (Nat.le_refl _), h.n, h.b.trans (hb.mono h.b.size), h.d.over hb⟩
theorem SlR.app {w wr wr' : World} {D : Array Value} {bw : Nat} {lv lv' : Value} {l l' : List Sl} (h : SlR w wr D bw lv l) (ho : SOwns wr' (w.heap.size + 1) 74 lv' l') (hg : wr.grownBy wr' lv.ownBlock) (hv : ∀ k, lv'.ownBlock = some k → lv.ownBlock = some k ∨ wr.heap.size ≤ k) (hbw : bw < wr.heap.size) : SlR w wr' D bw lv' l' :=
  ⟨ho, fun k hk => (hv k hk).elim (h.n k) (fun e => by omega), h.b.grown hg h.b.size (fun k hk => by have := (h.o.lt k hk).1; omega), h.d.grown hg (fun e => by have := (h.o.lt _ e).1; omega)⟩
theorem SlR.turn {w wr : World} {D : Array Value} {bw bw' : Nat} {lv : Value} {l : List Sl} (h : SlR w wr D bw lv l) (hb : ∀ k, lv.ownBlock = some k → k ≠ bw') : SlR w wr D bw' lv l := ⟨h.o, hb, h.b, h.d⟩
end Go.Proofs.YtbebgnknjoclkaaGreat.Kit
namespace Go.Proofs.YtbebgnknjoclkaaGreat
open Go.RowKit Kit
set_option maxRecDepth 100000 in
set_option maxHeartbeats 6400000 in
theorem slots_any (x : Int) (dx dy iv bv : Value) (xs ys : List Bool) (is : List Ino) (bs : List Blk) (w : World) (h : DR w dx dy iv bv xs ys is bs) (hR : RD is bs) :
    Calls Tryz.prog 71 #[.agg #[dx, dy, iv, bv], .int .i64 x] w fun e w' => ∃ v, e = .returned v ∧ SOwns w' w.heap.size 74 v (named is bs x) ∧ Below w.heap.size w w' := by
  obtain ⟨a1, c1, a2, c2, a3, c3, a4, c4, rfl, rfl, rfl, rfl⟩ := h.form
  have HH := hide h
  have hi := hR.hi
  have HR4 := hide hR
  have HN0 : Hid (SlR w ((w.alloc (.cells #[.slice a1 xs.length c1, .slice a2 ys.length c2, .slice a3 is.length c3, .slice a4 bs.length c4] 34)).alloc (.cells #[] 74)) #[.slice a1 xs.length c1, .slice a2 ys.length c2, .slice a3 is.length c3, .slice a4 bs.length c4] 0 (.slice (some ⟨w.heap.size + 1, 0, none⟩) 0 0) []) := by
    have l0 := SOwns.lit (w.alloc (.cells #[.slice a1 xs.length c1, .slice a2 ys.length c2, .slice a3 is.length c3, .slice a4 bs.length c4] 34)) (w.heap.size + 1) 74 #[] [] rfl (by simp) (by decide)
    have e0 : (w.alloc (.cells #[.slice a1 xs.length c1, .slice a2 ys.length c2, .slice a3 is.length c3, .slice a4 bs.length c4] 34)).heap.size = w.heap.size + 1 := by simp
    rw [e0] at l0
    exact ⟨l0, fun k hk => by simp [Value.ownBlock] at hk; omega, ((Below.refl _ w).alloc (Nat.le_refl _) _).alloc (by simp) _, (AtC.new w 34 _).alloc _⟩
  have x2 : ((w.alloc (.cells #[.slice a1 xs.length c1, .slice a2 ys.length c2, .slice a3 is.length c3, .slice a4 bs.length c4] 34)).alloc (.cells #[] 74)).cell? ⟨w.heap.size, 2, none⟩ = some (.slice a3 is.length c3) := HN0.out.d.cell 2
  cases hin : inB x 1 is.length with
  | false =>
    have HIN := hide hin
    have e0 : named is bs x = [] := by unfold named; rw [kindAt_out hin]; rfl
    rw [e0]
    clear e0
    clear hin h hi hR
    go_enter Tryz.func71, Tryz.ntmps71
    go_wp2_with (go_at_call 72; refine (l01In_any x 1 _ _).mono ?_; rintro e w7 ⟨rfl, rfl⟩; rw [HIN.out])
    go_ret
    exact ⟨_, rfl, HN0.out.o.base_le (by omega), HN0.out.b⟩
  | true =>
    have HIN := hide hin
    obtain ⟨h1, h2⟩ := inB_true hin
    obtain ⟨j, rfl⟩ : ∃ j : Nat, x = (j : Int) + 1 := ⟨(x - 1).toNat, by omega⟩
    have hj : j < is.length := by omega
    have hj8 : j < 8 := by omega
    have hnm : named is bs ((j : Int) + 1) = if is[j].1 = 2 then nmdP bs is[j].2.2 else [] := by unfold named; rw [(kindAt_in hj).1, (kindAt_in hj).2]
    rw [hnm]
    clear hnm
    have hwj : IntKind.i64.wrap (j : Int) = (j : Int) := wrap_small _ (by omega) (by omega)
    obtain ⟨qa, qc, qe, -, qh⟩ := h.i
    simp only [Value.slice.injEq, true_and] at qe
    obtain ⟨rfl, rfl⟩ := qe
    obtain ⟨g2, o2, ⟨t0, t1, t2⟩, rfl, hg2, r0, r1, r2, e0, e1, rr⟩ := qh j hj
    have hpl := Nat.le_of_eq (hR.two _ (List.getElem_mem hj))
    obtain ⟨⟨kd, ln, ps⟩, hX⟩ : ∃ X, is[j] = X := ⟨_, rfl⟩
    rw [hX] at e0 e1 rr hpl ⊢
    simp only at e0 e1 rr r0 r1 r2 hpl
    subst e0 e1
    obtain ⟨sa, sc, rfl⟩ := rr.form
    have HRR := hide rr
    have bW := HN0.out.b
    have y0 := (bW.cell (p := ⟨g2, o2 + j * 3, none⟩) hg2).trans r0
    have HY2 : Hid (g2 < w.heap.size ∧ w.cell? ⟨g2, o2 + j * 3 + 2, none⟩ = some (.slice sa ps.length sc)) := ⟨hg2, r2⟩
    have j0 : (0 : Int) ≤ (j : Int) := by omega
    have j1 : (j : Int) < (is.length : Int) := by omega
    clear qh hX rr bW r0 r1 r2 hin h1 h2 h hi hR
    by_cases hkd : kd = 2
    rotate_left
    · have hkb : (kd != 2) = true := by simp [hkd]
      rw [if_neg hkd]
      go_enter Tryz.func71, Tryz.ntmps71
      go_wp2_with (go_at_call 72; refine (l01In_any ((j : Int) + 1) 1 _ _).mono ?_; rintro e w7 ⟨rfl, rfl⟩; rw [HIN.out])
      go_ret
      exact ⟨_, rfl, HN0.out.o.base_le (by omega), HN0.out.b⟩
    subst hkd
    rw [if_pos rfl]
    obtain ⟨RES, hRES⟩ : ∃ r, nmdP bs ps = r := ⟨_, rfl⟩
    rw [hRES]
    have HRES := hide hRES
    clear hRES
    obtain ⟨W1, hW1⟩ : ∃ W1, ((w.alloc (.cells #[.slice a1 xs.length c1, .slice a2 ys.length c2, .slice (some ⟨g2, o2, none⟩) is.length c3, .slice a4 bs.length c4] 34)).alloc (.cells #[] 74)) = W1 := ⟨_, rfl⟩
    rw [hW1] at HN0 x2 y0
    go_enter Tryz.func71, Tryz.ntmps71
    go_wp2_with (go_at_call 72; refine (l01In_any ((j : Int) + 1) 1 _ _).mono ?_; rintro e w7 ⟨rfl, rfl⟩; rw [HIN.out])
    clear hW1 y0 x2
    go_loopw [5, 6] (fun x5 kk wr => ∃ (lv : Value) (l : List Sl) (q : Nat), lv = x5 ∧ q ≤ ps.length ∧ kk = .int .i64 q ∧ Hid (SlR w wr #[.slice a1 xs.length c1, .slice a2 ys.length c2, .slice (some ⟨g2, o2, none⟩) is.length c3, .slice a4 bs.length c4] 0 lv l ∧ l.length ≤ 4 * q ∧ l = nmdP bs (ps.take q))) (fun _ kk _ => ps.length - (intOf kk).toNat)
    case atStart => exact ⟨_, [], 0, rfl, Nat.zero_le _, rfl, HN0.out, by decide, by simp [nmdP]⟩
    case round =>
      obtain ⟨lv, l, q, hlv, hq, rfl, HR⟩ := hrel
      subst hlv
      obtain ⟨wo, hwo⟩ : ∃ wo, wo = wr := ⟨_, rfl⟩
      subst hwo
      clear HN0
      have q0 : (0 : Int) ≤ (q : Int) := by omega
      have x2 : wo.cell? ⟨w.heap.size, 2, none⟩ = some (.slice (some ⟨g2, o2, none⟩) is.length c3) := HR.out.1.d.cell 2
      have y2 : wo.cell? ⟨g2, o2 + j * 3 + 2, none⟩ = some (.slice sa ps.length sc) := (HR.out.1.b.cell (p := ⟨g2, o2 + j * 3 + 2, none⟩) HY2.out.1).trans HY2.out.2
      by_cases hlt : q < ps.length
      rotate_left
      · have q1 : ¬ ((q : Int) < (ps.length : Int)) := by omega
        go_wp2
        go_ret
        refine ⟨_, rfl, ?_, HR.out.1.b⟩
        have e1 := HR.out.2.2
        rw [List.take_of_length_le (by omega), HRES.out] at e1
        rw [← e1]
        exact HR.out.1.o.base_le (by omega)
      have q1 : (q : Int) < (ps.length : Int) := by omega
      obtain ⟨pa', pc', e1, hcp⟩ := HRR.out
      simp only [Value.slice.injEq, true_and] at e1
      obtain ⟨rfl, rfl⟩ := e1
      obtain ⟨gp, op, rfl, hgp, kp⟩ := hcp q hlt
      obtain ⟨Pn, hPn⟩ : ∃ Pn, ps[q] = Pn := ⟨_, rfl⟩
      rw [hPn] at kp
      have HTK := hide (nmdP_take (bs := bs) hlt)
      rw [hPn] at HTK
      have CB := hide (fun (W : World) (hd : Below w.heap.size w W) => blk_any Pn (.slice a1 xs.length c1) (.slice a2 ys.length c2) (.slice (some ⟨g2, o2, none⟩) is.length c3) (.slice a4 bs.length c4) xs ys is bs w W HH.out hd (by rw [HR4.out.hb]; decide))
      have hb4 : (blkAt bs Pn).2.1.length ≤ 4 := HR4.out.blk4 Pn
      obtain ⟨⟨bd, bss, btx⟩, hBD⟩ : ∃ X, blkAt bs Pn = X := ⟨_, rfl⟩
      obtain ⟨F, hF⟩ : ∃ F, inB Pn 1 bs.length = F := ⟨_, rfl⟩
      rw [hBD, hF] at CB
      rw [hBD] at hb4 HTK
      simp only at hb4
      have HWR : Hid (∀ W, Below wo.heap.size wo W → SlR w W #[.slice a1 xs.length c1, .slice a2 ys.length c2, .slice (some ⟨g2, o2, none⟩) is.length c3, .slice a4 bs.length c4] 0 lv l ∧ W.cell? ⟨gp, op + q, none⟩ = some (.int .i64 Pn) ∧ W.cell? ⟨g2, o2 + j * 3 + 2, none⟩ = some (.slice (some ⟨gp, op, none⟩) ps.length sc)) := fun W b => by
        have r2 := HR.out.1.below b
        exact ⟨r2, (r2.b.cell (p := ⟨gp, op + q, none⟩) hgp).trans kp, (r2.b.cell (p := ⟨g2, o2 + j * 3 + 2, none⟩) HY2.out.1).trans HY2.out.2⟩
      clear hPn kp hcp hBD hF
      go_upto_region 7 with fail
      clear x2 y2
      go_cut [7, 8] from 28 to 80 (fun bv ok wx => ∃ (bw : Nat) (ba : Option Addr) (bc : Nat), bv = .pointer (some ⟨bw, 0, none⟩) ∧ ok = .bool F ∧ AtC wx bw 70 #[.bool bd, .slice ba bss.length bc, .string btx] ∧ RSl w (.slice ba bss.length bc) bss ∧ Below wo.heap.size wo wx ∧ wo.heap.size ≤ bw)
      case first =>
        refine wp_region_alt (by kernel_rfl) [0, 1, 2, 3, 4, 5, 6, 7, 8, 9, 10, 11, 12, 13, 14, 15] [16, 17] [([0, 1, 2, 3, 4, 5, 6, 7, 8, 9, 10, 11, 12, 13, 15], [[14, 16, 17], [16, 14, 17]])] (fun i => match i with | 0 => .const [] (.agg #[.slice a1 xs.length c1, .slice a2 ys.length c2, .slice (some ⟨g2, o2, none⟩) is.length c3, .slice a4 bs.length c4]) | 1 => .const [] (.pointer (some ⟨w.heap.size, 2, none⟩)) | 2 => .const [1] (.slice (some ⟨g2, o2, none⟩) is.length c3) | 3 => .const [] (.int .i64 ((j : Int) + 1)) | 4 => .const [3] (.int .i64 (j : Int)) | 5 => .const [2, 4] (.pointer (some ⟨g2, o2 + j * 3, none⟩)) | 6 => .const [5] (.pointer (some ⟨g2, o2 + j * 3 + 2, none⟩)) | 7 => .const [6] (.slice (some ⟨gp, op, none⟩) ps.length sc) | 8 => .const [] (.int .i64 (q : Int)) | 9 => .const [7, 8] (.pointer (some ⟨gp, op + q, none⟩)) | 10 => .const [9] (.int .i64 Pn) | 11 => MkT2 [0, 10] (BlkR w bd btx bss F) BlkR.below | 12 => MkMv 11 | 13 => MkFs 12 | 14 => MkSd 12 | 15 => MkW 70 #[.bool false, .slice none 0 0, .string ⟨#[]⟩] | _ => .triv) (fun x => ⟨List.toArray ((Value.agg #[Value.slice a1 xs.length c1, Value.slice a2 ys.length c2, Value.slice (some { block := g2, off := o2 }) is.length c3, Value.slice a4 bs.length c4]) :: (Value.int IntKind.i64 (↑j + 1)) :: (Value.pointer (some { block := w.heap.size, off := 0 })) :: (undef) :: (Value.slice none 0 0) :: (lv) :: (Value.int IntKind.i64 ↑q) :: (x 15) :: (u8) :: (u9) :: (Value.slice (some { block := w.heap.size + 1, off := 0 }) 0 0) :: (Value.int IntKind.i64 (↑j + 1)) :: (Value.pointer (some { block := w.heap.size, off := 2 })) :: (Value.slice (some { block := g2, off := o2 }) is.length c3) :: (Value.int IntKind.i64 ↑is.length) :: (Value.bool true) :: (Value.bool false) :: (Value.bool false) :: (Value.pointer (some { block := w.heap.size, off := 2 })) :: (Value.slice (some { block := g2, off := o2 }) is.length c3) :: (Value.int IntKind.i64 (↑j + 1)) :: (Value.int IntKind.i64 ↑j) :: (Value.pointer (some { block := g2, off := o2 + j * 3 })) :: (Value.pointer (some { block := g2, off := o2 + j * 3 })) :: (Value.int IntKind.i64 2) :: (Value.bool false) :: (Value.bool false) :: (undef) :: (Value.int IntKind.i64 ↑q) :: (Value.pointer (some { block := w.heap.size, off := 2 })) :: (Value.slice (some { block := g2, off := o2 }) is.length c3) :: (Value.int IntKind.i64 (↑j + 1)) :: (Value.int IntKind.i64 ↑j) :: (Value.pointer (some { block := g2, off := o2 + j * 3 })) :: (Value.pointer (some { block := g2, off := o2 + j * 3 + 2 })) :: (Value.slice (some { block := gp, off := op }) ps.length sc) :: (Value.int IntKind.i64 ↑ps.length) :: (Value.bool true) :: (u38) :: (u39) :: (x 12) :: (x 0) :: (x 1) :: (x 2) :: (x 3) :: (x 4) :: (x 5) :: (x 6) :: (x 7) :: (x 8) :: (x 9) :: (x 10) :: (x 11) :: (x 13) :: (x 14) :: (u55) :: (u56) :: (u57) :: (u58) :: (u59) :: (u60) :: (u61) :: (u62) :: (u63) :: (u64) :: (u65) :: (u66) :: (u67) :: (u68) :: (u69) :: (u70) :: (u71) :: (u72) :: (u73) :: (u74) :: (u75) :: (u76) :: (u77) :: (u78) :: (u79) :: (u80) :: (undef) :: []), []⟩) (fun i => match i with | 0 => u41 | 1 => u42 | 2 => u43 | 3 => u44 | 4 => u45 | 5 => u46 | 6 => u47 | 7 => u48 | 8 => u49 | 9 => u50 | 10 => u51 | 11 => u52 | 12 => u40 | 13 => u53 | 14 => u54 | 15 => u7 | _ => undef) rfl (makersOk2_of (by kernel_rfl) (by kernel_rfl)) (by kernel_rfl) (by kernel_rfl) (by kernel_rfl) rfl ?_ ?_ ?_
        · intro jo hj so x iw W hd hp K hK
          simp only [List.mem_cons, List.not_mem_nil, or_false] at hj
          rcases hj with rfl | rfl | rfl | rfl | rfl | rfl | rfl | rfl | rfl | rfl | rfl | rfl | rfl | rfl | rfl | rfl
          · refine wpOp_step (o := _) rfl fun K' hK' => ?_
            have HK := hide (fun (v : Value) (W' : World) h1 h2 => hK' _ _ (hK v W' h1 h2))
            simp only [upd, Nat.reduceEqDiff, if_true, if_false] at HK
            have bw := of_drew hp.bel
            have k0 := (HWR.out W bw).1.d
            have q5 : W.cell? ⟨w.heap.size, 0, none⟩ = some (.slice a1 xs.length c1) := k0.cell 0
            have q6 : W.cell? ⟨w.heap.size, 1, none⟩ = some (.slice a2 ys.length c2) := k0.cell 1
            have q7 : W.cell? ⟨w.heap.size, 2, none⟩ = some (.slice (some ⟨g2, o2, none⟩) is.length c3) := k0.cell 2
            have q8 : W.cell? ⟨w.heap.size, 3, none⟩ = some (.slice a4 bs.length c4) := k0.cell 3
            clear k0 bw
            clear hK hK' hp hd
            go_simp
            exact HK.out _ _ (Below.refl _ _) rfl
          · refine wpOp_step (o := _) rfl fun K' hK' => ?_
            have HK := hide (fun (v : Value) (W' : World) h1 h2 => hK' _ _ (hK v W' h1 h2))
            simp only [upd, Nat.reduceEqDiff, if_true, if_false] at HK
            clear hK hK' hp hd
            go_simp
            exact HK.out _ _ (Below.refl _ _) rfl
          · refine wpOp_step (o := _) rfl fun K' hK' => ?_
            have HK := hide (fun (v : Value) (W' : World) h1 h2 => hK' _ _ (hK v W' h1 h2))
            simp only [upd, Nat.reduceEqDiff, if_true, if_false] at HK
            have e1 : x 1 = .pointer (some ⟨w.heap.size, 2, none⟩) := hp.post 1 (hd 1 (show 1 ∈ [1] from by decide))
            have bw := of_drew hp.bel
            have q5 : W.cell? ⟨w.heap.size, 2, none⟩ = some (.slice (some ⟨g2, o2, none⟩) is.length c3) := (HWR.out W bw).1.d.cell 2
            clear bw
            clear hK hK' hp hd
            simp only [e1] at HK ⊢
            go_simp
            exact HK.out _ _ (Below.refl _ _) rfl
          · refine wpOp_step (o := _) rfl fun K' hK' => ?_
            have HK := hide (fun (v : Value) (W' : World) h1 h2 => hK' _ _ (hK v W' h1 h2))
            simp only [upd, Nat.reduceEqDiff, if_true, if_false] at HK
            clear hK hK' hp hd
            go_simp
            exact HK.out _ _ (Below.refl _ _) rfl
          · refine wpOp_step (o := _) rfl fun K' hK' => ?_
            have HK := hide (fun (v : Value) (W' : World) h1 h2 => hK' _ _ (hK v W' h1 h2))
            simp only [upd, Nat.reduceEqDiff, if_true, if_false] at HK
            have e3 : x 3 = .int .i64 ((j : Int) + 1) := hp.post 3 (hd 3 (show 3 ∈ [3] from by decide))
            clear hK hK' hp hd
            simp only [e3] at HK ⊢
            go_simp
            exact HK.out _ _ (Below.refl _ _) rfl
          · refine wpOp_step (o := _) rfl fun K' hK' => ?_
            have HK := hide (fun (v : Value) (W' : World) h1 h2 => hK' _ _ (hK v W' h1 h2))
            simp only [upd, Nat.reduceEqDiff, if_true, if_false] at HK
            have e2 : x 2 = .slice (some ⟨g2, o2, none⟩) is.length c3 := hp.post 2 (hd 2 (show 2 ∈ [2, 4] from by decide))
            have e4 : x 4 = .int .i64 (j : Int) := hp.post 4 (hd 4 (show 4 ∈ [2, 4] from by decide))
            clear hK hK' hp hd
            simp only [e2, e4] at HK ⊢
            go_simp
            exact HK.out _ _ (Below.refl _ _) rfl
          · refine wpOp_step (o := _) rfl fun K' hK' => ?_
            have HK := hide (fun (v : Value) (W' : World) h1 h2 => hK' _ _ (hK v W' h1 h2))
            simp only [upd, Nat.reduceEqDiff, if_true, if_false] at HK
            have e5 : x 5 = .pointer (some ⟨g2, o2 + j * 3, none⟩) := hp.post 5 (hd 5 (show 5 ∈ [5] from by decide))
            clear hK hK' hp hd
            simp only [e5] at HK ⊢
            go_simp
            exact HK.out _ _ (Below.refl _ _) rfl
          · refine wpOp_step (o := _) rfl fun K' hK' => ?_
            have HK := hide (fun (v : Value) (W' : World) h1 h2 => hK' _ _ (hK v W' h1 h2))
            simp only [upd, Nat.reduceEqDiff, if_true, if_false] at HK
            have e6 : x 6 = .pointer (some ⟨g2, o2 + j * 3 + 2, none⟩) := hp.post 6 (hd 6 (show 6 ∈ [6] from by decide))
            have bw := of_drew hp.bel
            have q5 := (HWR.out W bw).2.2
            clear bw
            clear hK hK' hp hd
            simp only [e6] at HK ⊢
            go_simp
            exact HK.out _ _ (Below.refl _ _) rfl
          · refine wpOp_step (o := _) rfl fun K' hK' => ?_
            have HK := hide (fun (v : Value) (W' : World) h1 h2 => hK' _ _ (hK v W' h1 h2))
            simp only [upd, Nat.reduceEqDiff, if_true, if_false] at HK
            clear hK hK' hp hd
            go_simp
            exact HK.out _ _ (Below.refl _ _) rfl
          · refine wpOp_step (o := _) rfl fun K' hK' => ?_
            have HK := hide (fun (v : Value) (W' : World) h1 h2 => hK' _ _ (hK v W' h1 h2))
            simp only [upd, Nat.reduceEqDiff, if_true, if_false] at HK
            have e7 : x 7 = .slice (some ⟨gp, op, none⟩) ps.length sc := hp.post 7 (hd 7 (show 7 ∈ [7, 8] from by decide))
            have e8 : x 8 = .int .i64 (q : Int) := hp.post 8 (hd 8 (show 8 ∈ [7, 8] from by decide))
            clear hK hK' hp hd
            simp only [e7, e8] at HK ⊢
            go_simp
            exact HK.out _ _ (Below.refl _ _) rfl
          · refine wpOp_step (o := _) rfl fun K' hK' => ?_
            have HK := hide (fun (v : Value) (W' : World) h1 h2 => hK' _ _ (hK v W' h1 h2))
            simp only [upd, Nat.reduceEqDiff, if_true, if_false] at HK
            have e9 : x 9 = .pointer (some ⟨gp, op + q, none⟩) := hp.post 9 (hd 9 (show 9 ∈ [9] from by decide))
            have bw := of_drew hp.bel
            have q9 := (HWR.out W bw).2.1
            clear bw
            clear hK hK' hp hd
            simp only [e9] at HK ⊢
            go_simp
            exact HK.out _ _ (Below.refl _ _) rfl
          · refine wpOp_step (o := _) rfl fun K' hK' => ?_
            have HK := hide (fun (v : Value) (W' : World) h1 h2 => hK' _ _ (hK v W' h1 h2))
            simp only [upd, Nat.reduceEqDiff, if_true, if_false] at HK
            have e0 : x 0 = .agg #[.slice a1 xs.length c1, .slice a2 ys.length c2, .slice (some ⟨g2, o2, none⟩) is.length c3, .slice a4 bs.length c4] := hp.post 0 (hd 0 (show 0 ∈ [0, 10] from by decide))
            have e10 : x 10 = .int .i64 Pn := hp.post 10 (hd 10 (show 10 ∈ [0, 10] from by decide))
            have dr := (HWR.out W (of_drew hp.bel)).1.b
            clear hK hK' hp hd
            simp only [e0, e10] at HK ⊢
            clear e0 e10
            go_simp
            refine (CB.out W dr).mono ?_
            rintro e w6 ⟨sv, rfl, R6, B6⟩
            obtain ⟨ba, bc, rfl, hR6⟩ := R6
            go_simp
            exact HK.out _ _ B6 ⟨_, _, rfl, ba, bc, rfl, rfl, ba, bc, rfl, hR6⟩
          · refine wpOp_step (o := _) rfl fun K' hK' => ?_
            have HK := hide (fun (v : Value) (W' : World) h1 h2 => hK' _ _ (hK v W' h1 h2))
            simp only [upd, Nat.reduceEqDiff, if_true, if_false] at HK
            have e11 : ∃ a r, x 11 = .tuple #[a, r] ∧ BlkR w bd btx bss F (iw 11).1 (iw 11).2 W a r := hp.post 11 (hd 11 (show 11 ∈ [11] from by decide))
            clear hK hK' hp hd
            obtain ⟨a, r, e11, -⟩ := e11
            have ea := hide e11
            simp only [e11] at HK ⊢
            clear e11
            go_simp
            exact HK.out _ _ (Below.refl _ _) ⟨ea.out, a, r, rfl⟩
          · refine wpOp_step (o := _) rfl fun K' hK' => ?_
            have HK := hide (fun (v : Value) (W' : World) h1 h2 => hK' _ _ (hK v W' h1 h2))
            simp only [upd, Nat.reduceEqDiff, if_true, if_false] at HK
            have e12 : x 11 = x 12 ∧ ∃ a r, x 12 = .tuple #[a, r] := hp.post 12 (hd 12 (show 12 ∈ [12] from by decide))
            clear hK hK' hp hd
            obtain ⟨-, a, r, e12⟩ := e12
            have ea : Hid (a = fstOf (x 12)) := by rw [e12]; rfl
            simp only [e12] at HK ⊢
            clear e12
            go_simp
            exact HK.out _ _ (Below.refl _ _) ea.out
          · refine wpOp_step (o := _) rfl fun K' hK' => ?_
            have HK := hide (fun (v : Value) (W' : World) h1 h2 => hK' _ _ (hK v W' h1 h2))
            simp only [upd, Nat.reduceEqDiff, if_true, if_false] at HK
            have e12 : x 11 = x 12 ∧ ∃ a r, x 12 = .tuple #[a, r] := hp.post 12 (hd 12 (show 12 ∈ [12] from by decide))
            clear hK hK' hp hd
            obtain ⟨-, a, r, e12⟩ := e12
            have ea : Hid (r = sndOf (x 12)) := by rw [e12]; rfl
            simp only [e12] at HK ⊢
            clear e12
            go_simp
            exact HK.out _ _ (Below.refl _ _) ea.out
          · refine wpOp_step (o := _) rfl fun K' hK' => ?_
            have HK := hide (fun (v : Value) (W' : World) h1 h2 => hK' _ _ (hK v W' h1 h2))
            simp only [upd, Nat.reduceEqDiff, if_true, if_false] at HK
            clear hK hK' hp hd
            go_simp
            exact HK.out _ _ ((Below.refl _ W).alloc (Nat.le_refl _) _) ⟨rfl, by simp, AtC.new W 70 _⟩
        · intro x iw W hp
          obtain ⟨a, r, e11, R11⟩ := hp.post 11 (by decide)
          obtain ⟨e12, -⟩ := hp.post 12 (by decide)
          have e13 : x 13 = fstOf (x 12) := hp.post 13 (by decide)
          have e14 : x 14 = sndOf (x 12) := hp.post 14 (by decide)
          obtain ⟨e15, z15, A15⟩ := hp.post 15 (by decide)
          have l15 := hp.lo 15 (by decide)
          have lc := hp.lo 11 (by decide)
          have bel := of_drew hp.bel
          have ap := hp.apart 11 (by decide) 15 (by decide) (by decide)
          rw [← e12, e11] at e13
          rw [← e12, e11] at e14
          replace e14 : x 14 = r := e14
          rw [e11] at e12
          replace e12 := e12.symm
          replace e13 : x 13 = a := e13
          have y0 : W.cell? ⟨(iw 15).1, 0, none⟩ = some (.bool false) := A15.cell 0
          have f0 := A15.frozen 0
          have y1 : W.cell? ⟨(iw 15).1, 1, none⟩ = some (.slice none 0 0) := A15.cell 1
          have f1 := A15.frozen 1
          have y2 : W.cell? ⟨(iw 15).1, 2, none⟩ = some (.string ⟨#[]⟩) := A15.cell 2
          have f2 := A15.frozen 2
          obtain ⟨ba, bc, rfl, rfl, hR⟩ := R11
          have hb15 : wo.heap.size ≤ (iw 15).1 := l15.1
          have HFI : Hid (AtC W (iw 15).1 70 #[.bool false, .slice none 0 0, .string ⟨#[]⟩] ∧ RSl w (.slice ba bss.length bc) bss ∧ Below wo.heap.size wo W ∧ wo.heap.size ≤ (iw 15).1) := ⟨A15, hR, bel, hb15⟩
          clear hp A15 hR bel ap lc l15 z15 hb15
          simp only [e12, e13, e15, e14] at *
          generalize (iw 15).1 = bw at *
          go_wp2_with fail
          try rw [List.filterMap_nil]
          try go_wp2_with fail
          go_meet
          exact ⟨bw, ba, bc, rfl, rfl, ((HFI.out.1.set 0 _).set 1 _).set 2 _, HFI.out.2.1, ((HFI.out.2.2.1.setCell (p := ⟨bw, 0, none⟩) HFI.out.2.2.2 _).setCell (p := ⟨bw, 1, none⟩) HFI.out.2.2.2 _).setCell (p := ⟨bw, 2, none⟩) HFI.out.2.2.2 _, HFI.out.2.2.2⟩
        · intro qa hqa l hl x iw W hp
          simp only [List.mem_cons, List.not_mem_nil, or_false] at hqa
          subst hqa
          simp only [List.mem_cons, List.not_mem_nil, or_false] at hl
          obtain ⟨a, r, e11, R11⟩ := hp.post 11 (by decide)
          obtain ⟨e12, -⟩ := hp.post 12 (by decide)
          have e13 : x 13 = fstOf (x 12) := hp.post 13 (by decide)
          obtain ⟨e15, z15, A15⟩ := hp.post 15 (by decide)
          have l15 := hp.lo 15 (by decide)
          have lc := hp.lo 11 (by decide)
          have bel := of_drew hp.bel
          have ap := hp.apart 11 (by decide) 15 (by decide) (by decide)
          rw [← e12, e11] at e13
          rw [e11] at e12
          replace e12 := e12.symm
          replace e13 : x 13 = a := e13
          have y0 : W.cell? ⟨(iw 15).1, 0, none⟩ = some (.bool false) := A15.cell 0
          have f0 := A15.frozen 0
          have y1 : W.cell? ⟨(iw 15).1, 1, none⟩ = some (.slice none 0 0) := A15.cell 1
          have f1 := A15.frozen 1
          have y2 : W.cell? ⟨(iw 15).1, 2, none⟩ = some (.string ⟨#[]⟩) := A15.cell 2
          have f2 := A15.frozen 2
          obtain ⟨ba, bc, rfl, rfl, hR⟩ := R11
          have hb15 : wo.heap.size ≤ (iw 15).1 := l15.1
          have HFI : Hid (AtC W (iw 15).1 70 #[.bool false, .slice none 0 0, .string ⟨#[]⟩] ∧ RSl w (.slice ba bss.length bc) bss ∧ Below wo.heap.size wo W ∧ wo.heap.size ≤ (iw 15).1) := ⟨A15, hR, bel, hb15⟩
          clear hp A15 hR bel ap lc l15 z15 hb15
          simp only [e12, e13, e15] at *
          generalize (iw 15).1 = bw at *
          rcases hl with rfl | rfl
          · go_wp2_with fail
            try rw [List.filterMap_nil]
            try go_wp2_with fail
            go_meet
            exact ⟨bw, ba, bc, rfl, rfl, ((HFI.out.1.set 0 _).set 1 _).set 2 _, HFI.out.2.1, ((HFI.out.2.2.1.setCell (p := ⟨bw, 0, none⟩) HFI.out.2.2.2 _).setCell (p := ⟨bw, 1, none⟩) HFI.out.2.2.2 _).setCell (p := ⟨bw, 2, none⟩) HFI.out.2.2.2 _, HFI.out.2.2.2⟩
          · go_wp2_with fail
            try rw [List.filterMap_nil]
            try go_wp2_with fail
            go_meet
            exact ⟨bw, ba, bc, rfl, rfl, ((HFI.out.1.set 0 _).set 1 _).set 2 _, HFI.out.2.1, ((HFI.out.2.2.1.setCell (p := ⟨bw, 0, none⟩) HFI.out.2.2.2 _).setCell (p := ⟨bw, 1, none⟩) HFI.out.2.2.2 _).setCell (p := ⟨bw, 2, none⟩) HFI.out.2.2.2 _, HFI.out.2.2.2⟩
      case rest =>
        obtain ⟨bw, ba, bc, rfl, rfl, Aw, Rw, Bw, lw⟩ := hcut
        have HN2 : Hid (SlR w wc #[.slice a1 xs.length c1, .slice a2 ys.length c2, .slice (some ⟨g2, o2, none⟩) is.length c3, .slice a4 bs.length c4] bw lv l ∧ AtC wc bw 70 #[.bool bd, .slice ba bss.length bc, .string btx] ∧ l.length ≤ 4 * q + 0 ∧ l = nmdP bs (ps.take q) ++ nmdS (bss.take 0)) := ⟨(HR.out.1.below Bw).turn (fun k hk => by have := (HR.out.1.o.lt k hk).2; omega), Aw, HR.out.2.1, by rw [HR.out.2.2]; simp [nmdS]⟩
        have HRS := hide Rw
        clear Aw Rw Bw CB HR HWR lw
        go_wp2_with fail
        go_loopw [5, 9] (fun x5 kk wr => ∃ (lv : Value) (l : List Sl) (t : Nat), lv = x5 ∧ t ≤ bss.length ∧ kk = .int .i64 t ∧ Hid (SlR w wr #[.slice a1 xs.length c1, .slice a2 ys.length c2, .slice (some ⟨g2, o2, none⟩) is.length c3, .slice a4 bs.length c4] bw lv l ∧ AtC wr bw 70 #[.bool bd, .slice ba bss.length bc, .string btx] ∧ l.length ≤ 4 * q + t ∧ (bd = false → t = 0) ∧ l = nmdP bs (ps.take q) ++ nmdS (bss.take t))) (fun _ kk _ => bss.length - (intOf kk).toNat)
        case atStart => exact ⟨lv, l, 0, rfl, Nat.zero_le _, rfl, HN2.out.1, HN2.out.2.1, HN2.out.2.2.1, fun _ => rfl, HN2.out.2.2.2⟩
        case round =>
          clear HN2
          obtain ⟨lv', l', t, hlv, ht, rfl, HS⟩ := hrel
          subst hlv
          have g0 : wr.cell? ⟨bw, 0, none⟩ = some (.bool bd) := HS.out.2.1.cell 0
          have g1 : wr.cell? ⟨bw, 1, none⟩ = some (.slice ba bss.length bc) := HS.out.2.1.cell 1
          have t0 : (0 : Int) ≤ (t : Int) := by omega
          have hq2 : q < 2 := by omega
          by_cases htl : t < bss.length
          rotate_left
          · have t1 : ¬ ((t : Int) < (bss.length : Int)) := by omega
            have HEN : Hid (l' = nmdP bs (ps.take (q + 1)) ∧ l'.length ≤ 4 * (q + 1)) := by
              have e := HS.out.2.2.2.2
              rw [List.take_of_length_le (show bss.length ≤ t by omega)] at e
              refine ⟨?_, by have := HS.out.2.2.1; omega⟩
              rw [HTK.out, e]
              congr 1
              unfold nmd
              cases hbd : bd with
              | true => simp
              | false =>
                have := HS.out.2.2.2.1 hbd
                have : bss = [] := List.length_eq_zero_iff.1 (by omega)
                rw [this]
                simp [nmdS]
            go_wp2
            go_roundw
            case rel => exact ⟨lv', l', q + 1, rfl, by omega, by go_num, HS.out.1.turn (fun k hk => by have := (HS.out.1.o.lt k hk).1; omega), HEN.out.2, HEN.out.1⟩
            case measure => simp [intOf]; omega
          have t1 : (t : Int) < (bss.length : Int) := by omega
          cases bd with
          | false =>
            have HEN : Hid (l' = nmdP bs (ps.take (q + 1)) ∧ l'.length ≤ 4 * (q + 1)) := by
              have e := HS.out.2.2.2.2
              have e0 := HS.out.2.2.2.1 rfl
              refine ⟨?_, by have := HS.out.2.2.1; omega⟩
              rw [HTK.out, e, e0]
              simp [nmd, nmdS]
            go_wp2
            go_roundw
            case rel => exact ⟨lv', l', q + 1, rfl, by omega, by go_num, HS.out.1.turn (fun k hk => by have := (HS.out.1.o.lt k hk).1; omega), HEN.out.2, HEN.out.1⟩
            case measure => simp [intOf]; omega
          | true =>
          obtain ⟨sa', sc', e1, -, hcs⟩ := HRS.out
          simp only [Value.slice.injEq, true_and] at e1
          obtain ⟨rfl, rfl⟩ := e1
          obtain ⟨gs, os, rfl, hgs, ks0, ks1⟩ := hcs t htl
          have HTS := hide (nmdS_take htl)
          obtain ⟨⟨sn, si⟩, hsn⟩ : ∃ X, bss[t] = X := ⟨_, rfl⟩
          rw [hsn] at ks0 ks1 HTS
          simp only at ks0 ks1
          replace ks0 := (HS.out.1.b.cell (p := ⟨gs, os + t * 2, none⟩) hgs).trans ks0
          replace ks1 := (HS.out.1.b.cell (p := ⟨gs, os + t * 2 + 1, none⟩) hgs).trans ks1
          clear hcs hsn
          by_cases hse : sn = ⟨#[]⟩
          · subst hse
            have HE2 : Hid (l' = nmdP bs (ps.take q) ++ nmdS (bss.take (t + 1))) := by
              have e := HTS.out
              rw [if_pos rfl, List.append_nil] at e
              show l' = _
              rw [e]
              exact HS.out.2.2.2.2
            go_wp2
            go_roundw
            case rel => exact ⟨lv', l', t + 1, rfl, by omega, by go_num, HS.out.1, HS.out.2.1, by have := HS.out.2.2.1; omega, (fun e => by cases e), HE2.out⟩
            case measure => simp [intOf]; omega
          have hse2 : (sn.toList == ([] : List UInt8)) = false := beq_empty hse
          have hse3 : (sn.toList != ([] : List UInt8)) = true := by simp [bne, hse2]
          have HT : Hid (SOwns (wr.alloc (.cells #[.string sn, .int .i64 si] 74)) (w.heap.size + 1) 74 lv' l') := HS.out.1.o.alloc _
          have HK2 : Hid (AtC (wr.alloc (.cells #[.string sn, .int .i64 si] 74)) wr.heap.size 74 #[.string sn, .int .i64 si]) := AtC.new wr 74 _
          have HSZ : Hid (w.heap.size + 1 ≤ (wr.alloc (.cells #[.string sn, .int .i64 si] 74)).heap.size) := by have := HS.out.1.b.size; show _ ≤ _; simp; omega
          have HTL : Hid (l'.length ≤ 100000000000) := by have := HS.out.2.2.1; show _ ≤ _; omega
          have HAL : Hid (Below wr.heap.size wr (wr.alloc (.cells #[.string sn, .int .i64 si] 74))) := (Below.refl _ wr).alloc (Nat.le_refl _) _
          go_wp2_with (at_builtin; refine wpList_step fun K' hK' => ?_; refine step_append_sl _ rfl (.tmp 73) (.tmp 79) rfl (w.heap.size + 1) lv' _ rfl HT.out HSZ.out wr.heap.size sn si rfl HK2.out HTL.out ?_; intro v12 w12 T12 G12 V12; refine hK' _ _ ?_; have HR12 := hide (And.intro T12 (And.intro G12 V12)); clear T12 G12 V12 hK')
          have HRL : Hid (SlR w w12 #[.slice a1 xs.length c1, .slice a2 ys.length c2, .slice (some ⟨g2, o2, none⟩) is.length c3, .slice a4 bs.length c4] bw v12 (l' ++ [(sn, si)]) ∧ AtC w12 bw 70 #[.bool true, .slice (some ⟨gs, os, none⟩) bss.length bc, .string btx] ∧ (l' ++ [(sn, si)]).length ≤ 4 * q + (t + 1) ∧ (true = false → t + 1 = 0) ∧ l' ++ [(sn, si)] = nmdP bs (ps.take q) ++ nmdS (bss.take (t + 1))) := by
            obtain ⟨T12, G12, V12⟩ := HR12.out
            have n1 := HS.out.1.below HAL.out
            have hbw : bw < (wr.alloc (.cells #[.string sn, .int .i64 si] 74)).heap.size := (HS.out.2.1.over HAL.out).lt
            have e := HTS.out
            rw [if_neg hse] at e
            refine ⟨n1.app T12 G12 V12 hbw, (HS.out.2.1.over HAL.out).grown G12 (fun e => HS.out.1.n _ e rfl), by have := HS.out.2.2.1; simp; omega, (fun e => by cases e), ?_⟩
            rw [e, ← List.append_assoc, ← HS.out.2.2.2.2]
          go_roundw
          case rel => exact ⟨v12, l' ++ [(sn, si)], t + 1, rfl, by omega, by go_num, HRL.out⟩
          case measure => simp [intOf]; omega
end Go.Proofs.YtbebgnknjoclkaaGreat
/- What can be reached, as plain mathematics. No Go function is spoken of. -/
namespace Go.Proofs.YtbebgnknjoclkaaGreat
open Go.RowKit Kit
/-- What can be reached from 1. -/
def Rch (E : Int → Int → Prop) (j : Int) : Prop := ∀ S : Int → Prop, S 1 → (∀ i k, S i → E i k → S k) → S j
theorem Rch.root (E : Int → Int → Prop) : Rch E 1 := fun _ h _ => h
theorem Rch.step {E : Int → Int → Prop} {i k : Int} (h : Rch E i) (e : E i k) : Rch E k := fun S h1 h2 => h2 i k (h S h1 h2) e
def all8 : List Int := [1, 2, 3, 4, 5, 6, 7, 8]
theorem mem_all8 {j : Int} : j ∈ all8 ↔ 1 ≤ j ∧ j ≤ 8 := by
  simp only [all8, List.mem_cons, List.not_mem_nil, or_false]
  omega
/-- Edges lead to 1 .. 8. -/
def InE (E : Int → Int → Prop) : Prop := ∀ i k, E i k → 1 ≤ k ∧ k ≤ 8
theorem Rch.range {E : Int → Int → Prop} (hE : InE E) {j : Int} (h : Rch E j) : 1 ≤ j ∧ j ≤ 8 := h (fun j => 1 ≤ j ∧ j ≤ 8) (by omega) (fun i k _ e => hE i k e)
theorem all8_lt : all8.Pairwise (· < ·) := by decide
theorem pair_le_eq {l m : List Int} (hl : l.Pairwise (· ≤ ·)) (hm : m.Pairwise (· ≤ ·)) (h : l.Perm m) : l = m := h.eq_of_pairwise (fun _ _ _ _ h1 h2 => Int.le_antisymm h1 h2) hl hm
theorem nodup8 {l : List Int} (hn : l.Nodup) (h : ∀ j ∈ l, 1 ≤ j ∧ j ≤ 8) : l.length ≤ 8 := by
  have hp : l.Perm (all8.filter fun j => decide (j ∈ l)) := (List.perm_ext_iff_of_nodup hn ((all8_lt.imp fun h => Int.ne_of_lt h).sublist List.filter_sublist)).2 fun j => by
    rw [List.mem_filter, decide_eq_true_eq, mem_all8]
    exact ⟨fun hj => ⟨h j hj, hj⟩, fun hj => hj.2⟩
  rw [hp.length_eq]
  exact List.length_filter_le _ _
/-- One flag of a list of eight, told by the inode's number. -/
def hasB (h : List Bool) (j : Int) : Bool := h.getD (j - 1).toNat false
structure Sound (E : Int → Int → Prop) (h : List Bool) : Prop where
  n : h.length = 8
  r : ∀ q : Nat, h.getD q false = true → Rch E ((q : Int) + 1)
def Full (E : Int → Int → Prop) (h : List Bool) : Prop := ∀ q : Nat, Rch E ((q : Int) + 1) → h.getD q false = true
/-- A pass over the first i of them under way. -/
structure Pass (E : Int → Int → Prop) (h0 h : List Bool) (i : Nat) : Prop where
  s : Sound E h
  up : ∀ q : Nat, h0.getD q false = true → h.getD q false = true
  e : ∀ a : Nat, a < i → h0.getD a false = true → ∀ k, E ((a : Int) + 1) k → h.getD (k - 1).toNat false = true
/-- In it: the first t of those that inode i + 1 names. -/
structure PassIn (E : Int → Int → Prop) (h0 h : List Bool) (i : Nat) (ks : List Int) (t : Nat) : Prop where
  p : Pass E h0 h i
  m : h.getD i false = true
  k : ∀ k ∈ ks.take t, E ((i : Int) + 1) k → h.getD (k - 1).toNat false = true
theorem getD_set {l : List Bool} {q j : Nat} (hj : j < l.length) : (l.set j true).getD q false = if q = j then true else l.getD q false := by
  rw [List.getD_eq_getElem?_getD, List.getD_eq_getElem?_getD, List.getElem?_set]
  by_cases e : j = q
  · subst e; simp [hj]
  · rw [if_neg e, if_neg (fun h => e h.symm)]
theorem set_up {l : List Bool} {q j : Nat} (hj : j < l.length) (h : l.getD q false = true) : (l.set j true).getD q false = true := by
  rw [getD_set hj]; split <;> simp_all
theorem PassIn.set {E : Int → Int → Prop} {h0 h : List Bool} {i t : Nat} {ks : List Int} (H : PassIn E h0 h i ks t) (ht : t < ks.length) (he : E ((i : Int) + 1) ks[t]) (hr : 1 ≤ ks[t] ∧ ks[t] ≤ 8) : PassIn E h0 (h.set (ks[t] - 1).toNat true) i ks (t + 1) := by
  have hj : (ks[t] - 1).toNat < h.length := by have := H.p.s.n; omega
  refine ⟨⟨⟨by rw [List.length_set]; exact H.p.s.n, fun q hq => ?_⟩, fun q hq => set_up hj (H.p.up q hq), fun a ha h0a k hk => set_up hj (H.p.e a ha h0a k hk)⟩, set_up hj H.m, fun k hk hek => ?_⟩
  · rw [getD_set hj] at hq
    split at hq
    · rename_i e
      have := (H.p.s.r i H.m).step he
      rw [e]
      rwa [show (((ks[t] - 1).toNat : Nat) : Int) + 1 = ks[t] by omega]
    · exact H.p.s.r q hq
  · rw [List.take_succ_eq_append_getElem ht, List.mem_append] at hk
    rcases hk with hk | hk
    · exact set_up hj (H.k k hk hek)
    · rw [List.mem_singleton] at hk
      subst hk
      rw [getD_set hj, if_pos rfl]
theorem PassIn.skip {E : Int → Int → Prop} {h0 h : List Bool} {i t : Nat} {ks : List Int} (H : PassIn E h0 h i ks t) (ht : t < ks.length) (he : ¬ E ((i : Int) + 1) ks[t]) : PassIn E h0 h i ks (t + 1) := by
  refine ⟨H.p, H.m, fun k hk hek => ?_⟩
  rw [List.take_succ_eq_append_getElem ht, List.mem_append] at hk
  rcases hk with hk | hk
  · exact H.k k hk hek
  · rw [List.mem_singleton] at hk
    subst hk
    exact absurd hek he
theorem PassIn.done {E : Int → Int → Prop} {h0 h : List Bool} {i t : Nat} {ks : List Int} (H : PassIn E h0 h i ks t) (ht : ks.length ≤ t) (hk : ∀ k, E ((i : Int) + 1) k → k ∈ ks) : Pass E h0 h (i + 1) := by
  refine ⟨H.p.s, H.p.up, fun a ha h0a k hek => ?_⟩
  by_cases e : a = i
  · subst e
    exact H.k k (by rw [List.take_of_length_le ht]; exact hk k hek) hek
  · exact H.p.e a (by omega) h0a k hek
theorem Pass.skip {E : Int → Int → Prop} {h0 h : List Bool} {i : Nat} (H : Pass E h0 h i) (hf : h.getD i false = false) : Pass E h0 h (i + 1) := by
  refine ⟨H.s, H.up, fun a ha h0a k hek => ?_⟩
  by_cases e : a = i
  · subst e
    rw [H.up a h0a] at hf; cases hf
  · exact H.e a (by omega) h0a k hek
theorem Pass.begin {E : Int → Int → Prop} {h : List Bool} (H : Sound E h) : Pass E h h 0 := ⟨H, fun _ h => h, fun a ha => absurd ha (by omega)⟩
theorem count_le : ∀ {a b : List Bool}, a.length = b.length → (∀ q, a.getD q false = true → b.getD q false = true) → a.count true ≤ b.count true ∧ (a ≠ b → a.count true < b.count true)
  | [], [], _, _ => ⟨Nat.le_refl _, fun h => absurd rfl h⟩
  | x :: r, y :: s, hl, h => by
    have h1 := count_le (a := r) (b := s) (by simpa using hl) (fun q hq => by simpa using h (q + 1) (by simpa using hq))
    have h0 : x = true → y = true := fun e => by simpa using h 0 (by simpa using e)
    cases x <;> cases y <;> simp at h0 ⊢ <;> (try omega) <;> exact h1
/-- The rounds: full, or one more each. -/
structure Rnd (E : Int → Int → Prop) (h : List Bool) (r : Nat) : Prop where
  s : Sound E h
  o : h.getD 0 false = true
  f : Full E h ∨ r + 1 ≤ h.count true
theorem Rnd.begin (E : Int → Int → Prop) : Rnd E [true, false, false, false, false, false, false, false] 0 := by
  refine ⟨⟨rfl, fun q hq => ?_⟩, rfl, .inr (by decide)⟩
  match q, hq with
  | 0, _ => exact Rch.root E
  | 1, h => exact absurd h (by decide)
  | 2, h => exact absurd h (by decide)
  | 3, h => exact absurd h (by decide)
  | 4, h => exact absurd h (by decide)
  | 5, h => exact absurd h (by decide)
  | 6, h => exact absurd h (by decide)
  | 7, h => exact absurd h (by decide)
  | (_ + 8), h => exact absurd h (by simp)
theorem Rnd.next {E : Int → Int → Prop} (hE : InE E) {h0 h : List Bool} {r : Nat} (H : Rnd E h0 r) (P : Pass E h0 h 8) : Rnd E h (r + 1) := by
  refine ⟨P.s, P.up 0 H.o, ?_⟩
  rcases H.f with f | f
  · exact .inl fun q hq => P.up q (f q hq)
  · by_cases e : h0 = h
    · subst e
      refine .inl fun q hq => ?_
      have := hq (fun j => 1 ≤ j ∧ j ≤ 8 ∧ h0.getD (j - 1).toNat false = true) ⟨by omega, by omega, H.o⟩ (fun i k hi hk => ?_)
      · have h2 := this.2.2
        rwa [show ((q : Int) + 1 - 1).toNat = q by omega] at h2
      · have hk8 := hE i k hk
        refine ⟨hk8.1, hk8.2, P.e (i - 1).toNat (by omega) hi.2.2 k ?_⟩
        rwa [show (((i - 1).toNat : Nat) : Int) + 1 = i by omega]
    · have := (count_le (by rw [P.s.n, H.s.n]) P.up).2 e
      exact .inr (by omega)
theorem Rnd.full {E : Int → Int → Prop} {h : List Bool} (H : Rnd E h 8) : Full E h := by
  rcases H.f with f | f
  · exact f
  · have := List.count_le_length (a := true) (l := h)
    have := H.s.n
    omega
/-- Those of the first q that are flagged. -/
def outL (h : List Bool) (q : Nat) : List Int := ((List.range q).filter fun i => h.getD i false).map fun i : Nat => (i : Int) + 1
theorem outL_succ (h : List Bool) (q : Nat) : outL h (q + 1) = outL h q ++ if h.getD q false = true then [(q : Int) + 1] else [] := by
  unfold outL
  rw [List.range_succ, List.filter_append, List.map_append]
  congr 1
  by_cases e : h.getD q false = true
  · rw [if_pos e, List.filter_cons_of_pos (p := fun i => h.getD i false) e]; rfl
  · rw [if_neg e, List.filter_cons_of_neg (p := fun i => h.getD i false) e]; rfl
theorem outL_len (h : List Bool) (q : Nat) : (outL h q).length ≤ q := by
  unfold outL
  rw [List.length_map]
  exact Nat.le_trans (List.length_filter_le _ _) (by simp)
/-- What is reached in k steps at most. -/
def pK (e : Int → Int → Bool) : Nat → Int → Bool
  | 0, j => j == 1
  | k + 1, j => pK e k j || all8.any fun i => pK e k i && e i j
/-- All that can be reached, ascending. -/
def rchL (e : Int → Int → Bool) : List Int := all8.filter (pK e 8)
theorem pK_up {e : Int → Int → Bool} {k : Nat} {j : Int} (h : pK e k j = true) : pK e (k + 1) j = true := by
  rw [pK, h, Bool.true_or]
theorem pK_one (e : Int → Int → Bool) : ∀ k, pK e k 1 = true
  | 0 => rfl
  | k + 1 => pK_up (pK_one e k)
theorem pK_sound {E : Int → Int → Prop} {e : Int → Int → Bool} (he : ∀ i k, e i k = true ↔ E i k) : ∀ k j, pK e k j = true → Rch E j
  | 0, j, h => by
    have : j = 1 := by simpa [pK] using h
    rw [this]
    exact Rch.root E
  | k + 1, j, h => by
    rw [pK, Bool.or_eq_true] at h
    rcases h with h | h
    · exact pK_sound he k j h
    · obtain ⟨i, -, hi⟩ := List.any_eq_true.1 h
      rw [Bool.and_eq_true] at hi
      exact (pK_sound he k i hi.1).step ((he i j).1 hi.2)
theorem pK_full {E : Int → Int → Prop} {e : Int → Int → Bool} (he : ∀ i k, e i k = true ↔ E i k) (hE : InE E) : ∀ k, (∀ j, Rch E j → pK e k j = true) ∨ k + 1 ≤ (all8.map (pK e k)).count true
  | 0 => .inr (by show 1 ≤ (all8.map fun j => j == 1).count true; decide)
  | k + 1 => by
    rcases pK_full he hE k with f | f
    · exact .inl fun j h => pK_up (f j h)
    · by_cases q : all8.map (pK e k) = all8.map (pK e (k + 1))
      · refine .inl fun j hj => pK_up ?_
        have hq := List.map_inj_left.1 q
        exact (hj (fun j => (1 ≤ j ∧ j ≤ 8) ∧ pK e k j = true) ⟨by omega, pK_one e k⟩ (fun i t hi hit => by
          have ht := hE i t hit
          refine ⟨ht, ?_⟩
          rw [hq t (mem_all8.2 ht), pK, Bool.or_eq_true]
          refine .inr (List.any_eq_true.2 ⟨i, mem_all8.2 hi.1, ?_⟩)
          rw [hi.2, (he i t).2 hit]
          rfl)).2
      · have := (count_le (a := all8.map (pK e k)) (b := all8.map (pK e (k + 1))) (by simp) (fun n hn => by
          rw [List.getD_eq_getElem?_getD, List.getElem?_map] at hn ⊢
          cases h : all8[n]? with
          | none => rw [h] at hn; simp at hn
          | some a =>
            rw [h] at hn
            simp only [Option.map_some, Option.getD_some] at hn ⊢
            exact pK_up hn)).2 q
        exact .inr (by omega)
theorem mem_rchL {E : Int → Int → Prop} {e : Int → Int → Bool} (he : ∀ i k, e i k = true ↔ E i k) (hE : InE E) {j : Int} : j ∈ rchL e ↔ Rch E j := by
  unfold rchL
  rw [List.mem_filter, mem_all8]
  refine ⟨fun h => pK_sound he 8 j h.2, fun h => ⟨h.range hE, ?_⟩⟩
  rcases pK_full he hE 8 with f | f
  · exact f j h
  · have := List.count_le_length (a := true) (l := all8.map (pK e 8))
    rw [List.length_map] at this
    have h8 : all8.length = 8 := rfl
    omega
theorem rchL_sub (e : Int → Int → Bool) : List.Sublist (rchL e) all8 := List.filter_sublist
theorem rchL_len (e : Int → Int → Bool) : (rchL e).length ≤ 8 := (rchL_sub e).length_le
theorem rchL_lt (e : Int → Int → Bool) : (rchL e).Pairwise (· < ·) := all8_lt.sublist (rchL_sub e)
theorem sort_rchL {E : Int → Int → Prop} {e : Int → Int → Bool} (he : ∀ i k, e i k = true ↔ E i k) (hE : InE E) {l : List Int} (hn : l.Nodup) (hr : ∀ j ∈ l, Rch E j) (h1 : (1 : Int) ∈ l) (hc : ∀ j ∈ l, ∀ k, E j k → k ∈ l) : l.mergeSort (fun x y => decide (x ≤ y)) = rchL e := by
  have hp : l.Perm (rchL e) := (List.perm_ext_iff_of_nodup hn ((rchL_lt e).imp fun h => Int.ne_of_lt h)).2 fun j => by
    rw [mem_rchL he hE]
    exact ⟨hr j, fun h => h (fun j => j ∈ l) h1 (fun i k hi e => hc i hi k e)⟩
  refine pair_le_eq ?_ ((rchL_lt e).imp fun h => Int.le_of_lt h) ((List.mergeSort_perm l _).trans hp)
  have := List.pairwise_mergeSort (le := fun x y : Int => decide (x ≤ y)) (fun a b c h1 h2 => by simp at *; omega) (fun a b => by simp; omega) l
  exact this.imp fun h => by simpa using h
theorem outL_rchL {E : Int → Int → Prop} {e : Int → Int → Bool} (he : ∀ i k, e i k = true ↔ E i k) (hE : InE E) {h : List Bool} (hs : Sound E h) (hf : Full E h) : outL h 8 = rchL e := by
  have q : all8 = (List.range 8).map fun i : Nat => (i : Int) + 1 := by decide
  unfold outL rchL
  rw [q, List.filter_map]
  congr 1
  apply List.filter_congr
  intro n hn
  have hn8 := List.mem_range.1 hn
  simp only [Function.comp]
  cases h1 : h.getD n false with
  | true =>
    have := (mem_rchL he hE).2 (hs.r n h1)
    exact (List.mem_filter.1 this).2.symm
  | false =>
    cases h2 : pK e 8 ((n : Int) + 1) with
    | false => rfl
    | true => rw [hf n (pK_sound he 8 _ h2)] at h1; cases h1
end Go.Proofs.YtbebgnknjoclkaaGreat
/- Edges between inodes; a list that is made by a closure: what stays. No Go function is spoken of, but slices.Contains. -/
namespace Go.Proofs.YtbebgnknjoclkaaGreat
open Go.RowKit Kit
/-- A name of directory i leads to k. -/
def edge (is : List Ino) (bs : List Blk) (i k : Int) : Prop := ∃ s ∈ named is bs i, s.2 = k ∧ ¬ kindAt is k = 0
/-- The same, by reckoning. -/
def edgeB (is : List Ino) (bs : List Blk) (i k : Int) : Bool := (named is bs i).any (fun s => decide (s.2 = k)) && decide (¬ kindAt is k = 0)
theorem edge_iff (is : List Ino) (bs : List Blk) (i k : Int) : edgeB is bs i k = true ↔ edge is bs i k := by
  unfold edgeB edge
  rw [Bool.and_eq_true, List.any_eq_true, decide_eq_true_eq]
  exact ⟨fun ⟨⟨s, h1, h2⟩, h3⟩ => ⟨s, h1, of_decide_eq_true h2, h3⟩, fun ⟨s, h1, h2, h3⟩ => ⟨⟨s, h1, decide_eq_true h2⟩, h3⟩⟩
theorem kindAt_in8 {is : List Ino} {bs : List Blk} (h : RD is bs) {k : Int} (hk : ¬ kindAt is k = 0) : 1 ≤ k ∧ k ≤ 8 := by
  cases hb : inB k 1 is.length with
  | false => exact absurd (kindAt_out hb) hk
  | true =>
    have := inB_true hb
    have := h.hi
    omega
theorem edge_in {is : List Ino} {bs : List Blk} (h : RD is bs) : InE (edge is bs) := fun _ _ ⟨_, _, _, hk⟩ => kindAt_in8 h hk
/-- What a list and a call make of it: more at its end, all reached, and of what came all that it leads to. -/
structure Dfs (E : Int → Int → Prop) (l l' : List Int) (i : Int) : Prop where
  pre : ∃ m, l' = l ++ m
  nd : l'.Nodup
  r : ∀ j ∈ l', Rch E j
  me : i ∈ l'
  cl : ∀ j ∈ l', j ∉ l → ∀ k, E j k → k ∈ l'
theorem Dfs.here {E : Int → Int → Prop} {l : List Int} {i : Int} (hn : l.Nodup) (hr : ∀ j ∈ l, Rch E j) (hi : i ∈ l) : Dfs E l l i := ⟨⟨[], by simp⟩, hn, hr, hi, fun _ h h' => absurd h h'⟩
/-- The loop over what i names: the first q are done. -/
structure DfsL (E : Int → Int → Prop) (l c : List Int) (i : Int) (ks : List Int) (q : Nat) : Prop where
  pre : ∃ m, c = l ++ [i] ++ m
  nd : c.Nodup
  r : ∀ j ∈ c, Rch E j
  cl : ∀ j ∈ c, j ∉ l ++ [i] → ∀ k, E j k → k ∈ c
  dn : ∀ k ∈ ks.take q, E i k → k ∈ c
theorem DfsL.begin {E : Int → Int → Prop} {l : List Int} {i : Int} (ks : List Int) (hn : l.Nodup) (hr : ∀ j ∈ l, Rch E j) (hi : Rch E i) (hni : i ∉ l) : DfsL E l (l ++ [i]) i ks 0 := by
  refine ⟨⟨[], by simp⟩, ?_, fun j hj => ?_, fun j h h' => absurd h h', fun k hk => by simp at hk⟩
  · rw [List.nodup_append]
    refine ⟨hn, by simp, fun a ha b hb => ?_⟩
    rw [List.mem_singleton] at hb
    intro e; subst e; subst hb; exact hni ha
  · rcases List.mem_append.1 hj with h | h
    · exact hr j h
    · rw [List.mem_singleton] at h; rw [h]; exact hi
theorem DfsL.skip {E : Int → Int → Prop} {l c : List Int} {i : Int} {ks : List Int} {q : Nat} (h : DfsL E l c i ks q) (hq : q < ks.length) (he : ¬ E i ks[q]) : DfsL E l c i ks (q + 1) :=
  ⟨h.pre, h.nd, h.r, h.cl, fun k hk hek => by
    rw [List.take_succ_eq_append_getElem hq, List.mem_append] at hk
    rcases hk with hk | hk
    · exact h.dn k hk hek
    · rw [List.mem_singleton] at hk; subst hk; exact absurd hek he⟩
theorem DfsL.call {E : Int → Int → Prop} {l c c' : List Int} {i : Int} {ks : List Int} {q : Nat} (h : DfsL E l c i ks q) (hq : q < ks.length) (d : Dfs E c c' ks[q]) : DfsL E l c' i ks (q + 1) := by
  obtain ⟨m, hm⟩ := h.pre
  obtain ⟨m', hm'⟩ := d.pre
  refine ⟨⟨m ++ m', by rw [hm', hm]; simp⟩, d.nd, d.r, fun j hj hn k hk => ?_, fun k hk hek => ?_⟩
  · by_cases e : j ∈ c
    · rw [hm']; exact List.mem_append_left _ (h.cl j e hn k hk)
    · exact d.cl j hj e k hk
  · rw [List.take_succ_eq_append_getElem hq, List.mem_append] at hk
    rcases hk with hk | hk
    · rw [hm']; exact List.mem_append_left _ (h.dn k hk hek)
    · rw [List.mem_singleton] at hk; subst hk; exact d.me
theorem DfsL.done {E : Int → Int → Prop} {l c : List Int} {i : Int} {ks : List Int} {q : Nat} (h : DfsL E l c i ks q) (hq : ks.length ≤ q) (hk : ∀ k, E i k → k ∈ ks) : Dfs E l c i := by
  obtain ⟨m, hm⟩ := h.pre
  refine ⟨⟨[i] ++ m, by rw [hm]; simp⟩, h.nd, h.r, by rw [hm]; simp, fun j hj hn k hek => ?_⟩
  by_cases e : j = i
  · subst e
    exact h.dn k (by rw [List.take_of_length_le hq]; exact hk k hek) hek
  · exact h.cl j hj (by simp [hn, e]) k hek
theorem DfsL.len {E : Int → Int → Prop} (hE : InE E) {l c : List Int} {i : Int} {ks : List Int} {q : Nat} (h : DfsL E l c i ks q) : l.length + 1 ≤ c.length ∧ c.length ≤ 8 := by
  obtain ⟨m, hm⟩ := h.pre
  refine ⟨by rw [hm]; simp, nodup8 h.nd fun j hj => (h.r j hj).range hE⟩
/-- Of old only the list's variable and the list's own block change; the new list lies in the old one's block or in new memory. -/
structure Lv (w w' : World) (lk : Nat) (lv lv' : Value) : Prop where
  c : Chg (fun k => k = lk ∨ lv.ownBlock = some k) w w'
  o : ∀ k, lv'.ownBlock = some k → lv.ownBlock = some k ∨ w.heap.size ≤ k
theorem Lv.refl (w : World) (lk : Nat) (lv : Value) : Lv w w lk lv lv := ⟨Chg.refl _ _, fun _ h => .inl h⟩
theorem Lv.trans {a b c : World} {lk : Nat} {x y z : Value} (h : Lv a b lk x y) (h' : Lv b c lk y z) : Lv a c lk x z := by
  refine ⟨⟨h'.c.os.trans h.c.os, h'.c.tape.trans h.c.tape, h'.c.output.trans h.c.output, Nat.le_trans h.c.size h'.c.size, fun k hk hn => ?_⟩, fun k hk => ?_⟩
  · refine (h'.c.block k (Nat.lt_of_lt_of_le hk h.c.size) fun e => ?_).trans (h.c.block k hk hn)
    rcases e with e | e
    · exact hn (.inl e)
    · rcases h.o k e with e | e
      · exact hn (.inr e)
      · omega
  · rcases h'.o k hk with e | e
    · exact h.o k e
    · exact .inr (Nat.le_trans h.c.size e)
theorem Lv.below {a b c : World} {lk : Nat} {x y : Value} (h : Lv a b lk x y) (hb : Below b.heap.size b c) : Lv a c lk x y := h.trans ⟨Chg.of_below hb, fun _ e => .inl e⟩
/-- What the closure has in sight. -/
structure Cx (w0 : World) (B dk lk gq : Nat) (D F : Array Value) (w : World) (lv : Value) (ol : List Int) : Prop where
  b : Below w0.heap.size w0 w
  d : AtC w dk 34 D
  f : AtC w gq 133 F
  l : AtC w lk 56 #[lv]
  o : ROwns w B 3 lv (ic ol)
/-- How these lie. -/
structure Pl (w0 : World) (B dk lk gq : Nat) : Prop where
  d : dk < B
  l : lk < B
  f : gq < B
  dl : dk ≠ lk
  fl : gq ≠ lk
  l0 : w0.heap.size ≤ lk
theorem Cx.below {w0 w w' : World} {B dk lk gq : Nat} {D F : Array Value} {lv : Value} {ol : List Int} (h : Cx w0 B dk lk gq D F w lv ol) (hb : Below w.heap.size w w') : Cx w0 B dk lk gq D F w' lv ol :=
  ⟨h.b.trans (hb.mono h.b.size), h.d.over hb, h.f.over hb, h.l.over hb, h.o.below hb (Nat.le_refl _)⟩
theorem Cx.lv {w0 w w' : World} {B dk lk gq : Nat} {D F : Array Value} {lv lv' : Value} {ol ol' : List Int} (h : Cx w0 B dk lk gq D F w lv ol) (P : Pl w0 B dk lk gq) (hv : Lv w w' lk lv lv') (hl : AtC w' lk 56 #[lv']) (ho : ROwns w' B 3 lv' (ic ol')) : Cx w0 B dk lk gq D F w' lv' ol' := by
  have hB : ∀ k, lv.ownBlock = some k → B ≤ k := fun k hk => (h.o.lt k hk).1
  have hd := P.d
  have hf := P.f
  have hl1 := P.l
  have hl0 := P.l0
  refine ⟨h.b.trans (hv.c.below h.b.size (fun k hk => ?_)), (hv.c.block dk h.d.lt fun e => ?_).trans h.d, (hv.c.block gq h.f.lt fun e => ?_).trans h.f, hl, ho⟩
  · rcases hk with e | e
    · omega
    · have := hB k e; omega
  · rcases e with e | e
    · exact P.dl e
    · have := hB _ e; omega
  · rcases e with e | e
    · exact P.fl e
    · have := hB _ e; omega
theorem Cx.app {w0 w W w9 : World} {B dk lk gq : Nat} {D F : Array Value} {lv v9 : Value} {ol new : List Int} (h : Cx w0 B dk lk gq D F w lv ol) (P : Pl w0 B dk lk gq) (hb : Below w.heap.size w W) (h9 : ROwns w9 B 3 v9 (ic new)) (G9 : W.grownBy w9 lv.ownBlock) (V9 : ∀ k, v9.ownBlock = some k → lv.ownBlock = some k ∨ W.heap.size ≤ k) :
    AtC w9 lk 56 #[lv] ∧ Lv w (w9.setCell ⟨lk, 0, none⟩ v9) lk lv v9 ∧ Cx w0 B dk lk gq D F (w9.setCell ⟨lk, 0, none⟩ v9) v9 new ∧ AtC w9 dk 34 D := by
  have hl1 := P.l
  have hW := h.below hb
  have A9 : AtC w9 lk 56 #[lv] := hW.l.grown G9 (fun e => by have := (hW.o.lt lk e).1; omega)
  have L9 : Lv W (w9.setCell ⟨lk, 0, none⟩ v9) lk lv v9 := ⟨(Chg.of_grown G9 (fun k hk => .inr hk)).setCell (.inl rfl) _, V9⟩
  have O9 : ROwns (w9.setCell ⟨lk, 0, none⟩ v9) B 3 v9 (ic new) := h9.of_heap fun k hk => heap_setCell_other w9 ⟨lk, 0, none⟩ k _ (by have := (h9.lt k hk).1; show k ≠ lk; omega)
  have hd := P.d
  exact ⟨A9, ((Lv.refl w lk lv).below hb).trans L9, hW.lv P L9 (A9.set 0 v9) O9, hW.d.grown G9 (fun e => by have := (hW.o.lt dk e).1; omega)⟩
theorem hasL_any (v : Value) (xs : List Int) (x : Int) (w : World) (h : RInts w v xs) (hl : xs.length ≤ 1000000) :
    Calls Tryz.prog 85 #[v, .int .i64 x] w fun e w' => e = .returned (.bool (xs.contains x)) ∧ w' = w := by
  obtain ⟨a, cap, rfl, hc⟩ := h
  cases xs with
  | nil => exact Tryz.slices_Contains_int_empty a cap x w
  | cons y r =>
    obtain ⟨g, off, rfl, -, -⟩ := hc 0 (by simp)
    have := Tryz.slices_Contains_int g off (y :: r).length cap (y :: r) x w (Nat.le_refl _) (by omega) (fun j hj => by
      obtain ⟨g', off', e, -, hcell⟩ := hc j hj
      simp only [Option.some.injEq, Addr.mk.injEq, and_true] at e
      obtain ⟨rfl, rfl⟩ := e
      rw [hcell, List.getD_eq_getElem?_getD, List.getElem?_eq_getElem hj]
      rfl)
    rw [List.take_length] at this
    exact this
end Go.Proofs.YtbebgnknjoclkaaGreat
/- The closure of impl.Reached by its contract. -/
namespace Go.Proofs.YtbebgnknjoclkaaGreat
open Go.RowKit Kit
set_option maxRecDepth 100000 in
set_option maxHeartbeats 6400000 in
theorem reach_any (a1 a2 a3 a4 : Option Addr) (c1 c2 c3 c4 : Nat) (xs ys : List Bool) (is : List Ino) (bs : List Blk) (hR : RD is bs) (w0 : World) (h0 : DR w0 (.slice a1 xs.length c1) (.slice a2 ys.length c2) (.slice a3 is.length c3) (.slice a4 bs.length c4) xs ys is bs) (B dk lk gq : Nat) (hP : Pl w0 B dk lk gq) : ∀ (n : Nat) (i : Int) (l : List Int) (lv : Value) (w : World), 8 ≤ l.length + n → l.Nodup → (∀ j ∈ l, Rch (edge is bs) j) → Rch (edge is bs) i → Cx w0 B dk lk gq #[.slice a1 xs.length c1, .slice a2 ys.length c2, .slice a3 is.length c3, .slice a4 bs.length c4] #[.func (.func 103) #[] #[.pointer (some ⟨lk, 0, none⟩), .pointer (some ⟨dk, 0, none⟩), .pointer (some ⟨gq, 0, none⟩)]] w lv l → B ≤ w.heap.size →
    Calls Tryz.prog 103 #[.int .i64 i, .pointer (some ⟨lk, 0, none⟩), .pointer (some ⟨dk, 0, none⟩), .pointer (some ⟨gq, 0, none⟩)] w fun e w' => e = .returned (.tuple #[]) ∧ ∃ l' lv', Dfs (edge is bs) l l' i ∧ Lv w w' lk lv lv' ∧ Cx w0 B dk lk gq #[.slice a1 xs.length c1, .slice a2 ys.length c2, .slice a3 is.length c3, .slice a4 bs.length c4] #[.func (.func 103) #[] #[.pointer (some ⟨lk, 0, none⟩), .pointer (some ⟨dk, 0, none⟩), .pointer (some ⟨gq, 0, none⟩)]] w' lv' l' := by
  have HE := hide (edge_in hR)
  intro n
  induction n with
  | zero =>
    intro i l lv w hn hnd hr hi hc hB
    have hil : i ∈ l := by
      by_cases e : i ∈ l
      · exact e
      · exact absurd ((DfsL.begin [] hnd hr hi e).len HE.out).2 (by rw [List.length_append]; simp; omega)
    have hlen := nodup8 hnd fun j hj => (hr j hj).range HE.out
    have CH := hide (hasL_any lv l i w hc.o.rints (by omega))
    have hct : l.contains i = true := by simpa using hil
    rw [hct] at CH
    have p0 : w.cell? ⟨lk, 0, none⟩ = some lv := hc.l.cell 0
    have HC := hide hc
    have HF := hide (Dfs.here hnd hr hil)
    clear hct hil hr hi hnd hn hR h0 hP
    obtain ⟨la, lc, rfl, -⟩ := hc.o.form
    clear hc
    go_enter Tryz.func103, Tryz.ntmps103
    go_wp2_with fail
    refine CH.out.mono ?_
    rintro e w1 ⟨rfl, rfl⟩
    go_wp2
    refine bodyPost_ret (v := .tuple #[]) (by simp [results, go_sem]) rfl ⟨rfl, l, _, HF.out, Lv.refl _ _ _, HC.out⟩
  | succ n ih =>
    intro i l lv w hn hnd hr hi hc hB
    have hlen := nodup8 hnd fun j hj => (hr j hj).range HE.out
    have CH := hide (hasL_any lv l i w hc.o.rints (by omega))
    have p0 : w.cell? ⟨lk, 0, none⟩ = some lv := hc.l.cell 0
    have HC := hide hc
    by_cases hil : i ∈ l
    · have hct : l.contains i = true := by simpa using hil
      rw [hct] at CH
      have HF := hide (Dfs.here hnd hr hil)
      clear hct hil hr hi hnd hn hR h0 hP ih
      obtain ⟨la, lc, rfl, -⟩ := hc.o.form
      clear hc
      go_enter Tryz.func103, Tryz.ntmps103
      go_wp2_with fail
      refine CH.out.mono ?_
      rintro e w1 ⟨rfl, rfl⟩
      go_wp2
      refine bodyPost_ret (v := .tuple #[]) (by simp [results, go_sem]) rfl ⟨rfl, l, _, HF.out, Lv.refl _ _ _, HC.out⟩
    have hct : l.contains i = false := by simpa using hil
    rw [hct] at CH
    have HF0 := hide (DfsL.begin ((named is bs i).map (·.2)) hnd hr hi hil)
    have HND : Hid (∀ (W : World), DR W (.slice a1 xs.length c1) (.slice a2 ys.length c2) (.slice a3 is.length c3) (.slice a4 bs.length c4) xs ys is bs → Calls Tryz.prog 104 #[.agg #[.slice a1 xs.length c1, .slice a2 ys.length c2, .slice a3 is.length c3, .slice a4 bs.length c4], .int .i64 i] W fun e w' => ∃ v, e = .returned v ∧ SOwns w' W.heap.size 74 v (named is bs i) ∧ Below W.heap.size W w') := fun W hd => namedI_any i (.slice a1 xs.length c1) (.slice a2 ys.length c2) (.slice a3 is.length c3) (.slice a4 bs.length c4) xs ys is bs W hd hR
    have HNK : Hid (∀ (io : Int) (W : World), DR W (.slice a1 xs.length c1) (.slice a2 ys.length c2) (.slice a3 is.length c3) (.slice a4 bs.length c4) xs ys is bs → Calls Tryz.prog 105 #[.agg #[.slice a1 xs.length c1, .slice a2 ys.length c2, .slice a3 is.length c3, .slice a4 bs.length c4], .int .i64 io] W fun e w' => e = .returned (.bool (decide (¬ kindAt is io = 0))) ∧ Below W.heap.size W w') := fun io W hd => isNode_any io (.slice a1 xs.length c1) (.slice a2 ys.length c2) (.slice a3 is.length c3) (.slice a4 bs.length c4) xs ys is bs W hd hR
    have HEN : Hid (∀ k, edge is bs i k → k ∈ (named is bs i).map (·.2)) := fun k ⟨s, hs, e, _⟩ => by rw [← e]; exact List.mem_map_of_mem hs
    have HRI := hide hi
    have HN8 : Hid ((named is bs i).length ≤ 8) := hR.named8 i
    have H0 := hide h0
    have HP := hide hP
    have HLL : Hid (l.length ≤ 8) := hlen
    have HBW : Hid (B ≤ w.heap.size) := hB
    have HN : Hid (8 ≤ l.length + (n + 1)) := hn
    have IH := hide ih
    obtain ⟨la, lc, rfl, -⟩ := hc.o.form
    have HOC := hide (And.intro hc.o (And.intro hB (And.intro hP.l hc.l.lt)))
    clear hc hct hil hr hi hnd hn hR h0 hP ih hlen hB
    obtain ⟨m, hm⟩ : ∃ m, (ic l).length = m := ⟨_, rfl⟩
    rw [hm] at CH p0 HC HOC ⊢
    have HM := hide hm
    clear hm
    go_enter Tryz.func103, Tryz.ntmps103
    go_wp2_with fail
    refine CH.out.mono ?_
    rintro e w1 ⟨rfl, rfl⟩
    clear CH
    have HAL : Hid (Below w1.heap.size w1 (w1.alloc (.cells #[.int .i64 i] 3)) ∧ ROwns (w1.alloc (.cells #[.int .i64 i] 3)) B 3 (.slice la m lc) (ic l) ∧ (w1.alloc (.cells #[.int .i64 i] 3)).cell? ⟨w1.heap.size, 0, none⟩ = some (.int .i64 i) ∧ B ≤ (w1.alloc (.cells #[.int .i64 i] 3)).heap.size) := ⟨(Below.refl _ w1).alloc (Nat.le_refl _) _, HOC.out.1.alloc _, (AtC.new w1 3 #[.int .i64 i]).cell 0, by have := HOC.out.2.1; simp; omega⟩
    have hdl : ¬ dk = lk := HP.out.dl
    have hdl2 : ¬ lk = dk := fun e => HP.out.dl e.symm
    go_wp2_with (at_builtin; refine wpList_step fun K' hK' => ?_; refine step_append_one _ rfl (.tmp 10) (.tmp 12) 56 rfl B 3 Tryz.u56 _ 8 Tryz.i3 rfl (by decide) (.slice la m lc) (ic l) rfl HAL.out.2.1 HAL.out.2.2.2 w1.heap.size (.int .i64 i) rfl HAL.out.2.2.1 rfl (by rw [ic_length]; have := HLL.out; omega) ?_; intro v9 w9 T9 G9 V9; obtain ⟨la9, lc9, rfl, -⟩ := T9.form; obtain ⟨m9, hm9⟩ : ∃ k, (ic l ++ [Value.int .i64 i]).length = k := ⟨_, rfl⟩; rw [hm9] at T9 V9 ⊢; refine hK' _ _ ?_; clear hm9; have HR9 := hide (HC.out.app (new := l ++ [i]) HP.out HAL.out.1 (by simpa [ic] using T9) G9 V9); clear T9 G9 V9 hK'; have f9 := HR9.out.1.frozen 0; have l9 := HR9.out.1.lt; have k9 : w9.cell? ⟨lk, 0, none⟩ = some (.slice la m lc) := HR9.out.1.cell 0; have z0 : w9.cell? ⟨dk, 0, none⟩ = some (.slice a1 xs.length c1) := HR9.out.2.2.2.cell 0; have z1 : w9.cell? ⟨dk, 1, none⟩ = some (.slice a2 ys.length c2) := HR9.out.2.2.2.cell 1; have z2 : w9.cell? ⟨dk, 2, none⟩ = some (.slice a3 is.length c3) := HR9.out.2.2.2.cell 2; have z3 : w9.cell? ⟨dk, 3, none⟩ = some (.slice a4 bs.length c4) := HR9.out.2.2.2.cell 3)
    obtain ⟨W9, hW9⟩ : ∃ W, w9.setCell ⟨lk, 0, none⟩ (.slice la9 m9 lc9) = W := ⟨_, rfl⟩
    rw [hW9] at HR9 ⊢
    have HX9 := hide (And.intro HR9.out.2.1 HR9.out.2.2.1)
    clear hW9 HR9 f9 l9 k9 z0 z1 z2 z3 HAL p0 HC HOC
    refine (HND.out _ (H0.out.below HX9.out.2.b (Nat.le_refl _))).mono ?_
    rintro e w2 ⟨sv, rfl, S2, B2⟩
    obtain ⟨sa, sc', rfl, -⟩ := S2.form
    have HX2 := hide (And.intro (HX9.out.1.below B2) (HX9.out.2.below B2))
    have HS2 : Hid (∀ wr cv, Lv w2 wr lk (.slice la9 m9 lc9) cv → SOwns wr W9.heap.size 74 (.slice sa (named is bs i).length sc') (named is bs i)) := fun wr cv hv => S2.of_heap fun k hk => hv.c.block k (S2.lt k hk).2 fun e => by
      have h1 := (S2.lt k hk).1
      have h2 := HP.out.l
      have h3 := HX9.out.2.l.lt
      rcases e with e | e
      · omega
      · have := (HX9.out.2.o.lt k e).2; omega
    obtain ⟨NS, hNS⟩ : ∃ X, named is bs i = X := ⟨_, rfl⟩
    rw [hNS] at HS2 HEN HF0 HN8 ⊢
    have HNS := hide hNS
    clear B2 S2 HX9 HND hNS
    go_wp2_with fail
    go_loopw [18] (fun kv wr => ∃ (q : Nat) (c : List Int) (cv : Value), q ≤ NS.length ∧ kv = .int .i64 q ∧ Hid (DfsL (edge is bs) l c i (NS.map (·.2)) q ∧ Lv w2 wr lk (.slice la9 m9 lc9) cv ∧ Cx w0 B dk lk gq #[.slice a1 xs.length c1, .slice a2 ys.length c2, .slice a3 is.length c3, .slice a4 bs.length c4] #[.func (.func 103) #[] #[.pointer (some ⟨lk, 0, none⟩), .pointer (some ⟨dk, 0, none⟩), .pointer (some ⟨gq, 0, none⟩)]] wr cv c)) (fun kv _ => NS.length - (intOf kv).toNat)
    case atStart => exact ⟨0, _, _, Nat.zero_le _, rfl, HF0.out, Lv.refl _ _ _, HX2.out.2⟩
    case round =>
      obtain ⟨q, c, cv, hq, rfl, HL⟩ := hrel
      have q0 : (0 : Int) ≤ (q : Int) := by omega
      by_cases hlt : q < NS.length
      rotate_left
      · have q1 : ¬ ((q : Int) < (NS.length : Int)) := by omega
        go_wp2
        go_end0
        exact ⟨rfl, c, HL.out.1.done (by rw [List.length_map]; omega) HEN.out, cv, HX2.out.1.trans HL.out.2.1, HL.out.2.2⟩
      have q1 : (q : Int) < (NS.length : Int) := by omega
      have q8 : NS.length ≤ 8 := HN8.out
      obtain ⟨gs, cs, es, ks0, ks1, -, -, hgs, -⟩ := (HS2.out wr cv HL.out.2.1).at q hlt
      simp only [Value.slice.injEq, true_and] at es
      obtain ⟨rfl, rfl⟩ := es
      obtain ⟨⟨sn, si⟩, hsn⟩ : ∃ X, NS[q] = X := ⟨_, rfl⟩
      have hsi : (NS.map (·.2))[q]'(by rw [List.length_map]; exact hlt) = si := by rw [List.getElem_map, hsn]
      rw [hsn] at ks0 ks1
      simp only at ks0 ks1
      have hgw : ¬ gs = wr.heap.size := by omega
      have hdw : ¬ dk = wr.heap.size := by have := HL.out.2.2.d.lt; omega
      have hfw : ¬ gq = wr.heap.size := by have := HL.out.2.2.f.lt; omega
      have HL2 : Hid (DfsL (edge is bs) l c i (NS.map (·.2)) q ∧ Lv w2 (wr.alloc (.cells #[.string sn, .int .i64 si] 74)) lk (.slice la9 m9 lc9) cv ∧ Cx w0 B dk lk gq #[.slice a1 xs.length c1, .slice a2 ys.length c2, .slice a3 is.length c3, .slice a4 bs.length c4] #[.func (.func 103) #[] #[.pointer (some ⟨lk, 0, none⟩), .pointer (some ⟨dk, 0, none⟩), .pointer (some ⟨gq, 0, none⟩)]] (wr.alloc (.cells #[.string sn, .int .i64 si] 74)) cv c) := by
        have b := (Below.refl _ wr).alloc (Nat.le_refl _) (.cells #[.string sn, .int .i64 si] 74)
        exact ⟨HL.out.1, HL.out.2.1.below b, HL.out.2.2.below b⟩
      have hbox : AtC (wr.alloc (.cells #[.string sn, .int .i64 si] 74)) wr.heap.size 74 #[.string sn, .int .i64 si] := AtC.new _ _ _
      have HBX := hide hbox
      have z0 : (wr.alloc (.cells #[.string sn, .int .i64 si] 74)).cell? ⟨dk, 0, none⟩ = some (.slice a1 xs.length c1) := HL2.out.2.2.d.cell 0
      have z1 : (wr.alloc (.cells #[.string sn, .int .i64 si] 74)).cell? ⟨dk, 1, none⟩ = some (.slice a2 ys.length c2) := HL2.out.2.2.d.cell 1
      have z2 : (wr.alloc (.cells #[.string sn, .int .i64 si] 74)).cell? ⟨dk, 2, none⟩ = some (.slice a3 is.length c3) := HL2.out.2.2.d.cell 2
      have z3 : (wr.alloc (.cells #[.string sn, .int .i64 si] 74)).cell? ⟨dk, 3, none⟩ = some (.slice a4 bs.length c4) := HL2.out.2.2.d.cell 3
      have CN := hide (HNK.out si (wr.alloc (.cells #[.string sn, .int .i64 si] 74)) (H0.out.below HL2.out.2.2.b (Nat.le_refl _)))
      have hSN : ∃ s ∈ named is bs i, s.2 = si := ⟨NS[q], by rw [HNS.out]; exact List.getElem_mem hlt, by rw [hsn]⟩
      have HSN := hide hSN
      clear hSN hbox hsn HL HF0
      go_wp2_with fail
      refine CN.out.mono ?_
      rintro e w3 ⟨rfl, B3⟩
      have HL3 := hide (And.intro HL2.out.1 (And.intro (HL2.out.2.1.below B3) (HL2.out.2.2.below B3)))
      have p1 : w3.cell? ⟨wr.heap.size, 1, none⟩ = some (.int .i64 si) := (HBX.out.over B3).cell 1
      have g3 : w3.cell? ⟨gq, 0, none⟩ = some (.func (.func 103) #[] #[.pointer (some ⟨lk, 0, none⟩), .pointer (some ⟨dk, 0, none⟩), .pointer (some ⟨gq, 0, none⟩)]) := HL3.out.2.2.f.cell 0
      clear B3 HL2 ks0 ks1 z0 z1 z2 z3 CN HBX
      by_cases hk0 : kindAt is si = 0
      · have hd : decide (¬ kindAt is si = 0) = false := by simp [hk0]
        rw [hd]
        have HS := hide (HL3.out.1.skip (by rw [List.length_map]; exact hlt) (by rw [hsi]; exact fun ⟨_, _, _, h⟩ => h hk0))
        clear hd hk0 p1 g3
        go_wp2
        go_roundw
        case rel => exact ⟨q + 1, c, cv, by omega, by go_num, HS.out, HL3.out.2⟩
        case measure => simp [intOf]; omega
      have hd : decide (¬ kindAt is si = 0) = true := by simp [hk0]
      rw [hd]
      have hed : edge is bs i si := by
        obtain ⟨s, h1, h2⟩ := HSN.out
        exact ⟨s, h1, h2, hk0⟩
      have hlen := HL3.out.1.len HE.out
      have hsz : B ≤ w3.heap.size := Nat.le_trans HBW.out (Nat.le_trans HX2.out.1.c.size HL3.out.2.1.c.size)
      have CI := hide (IH.out si c cv w3 (by have := HN.out; omega) HL3.out.1.nd HL3.out.1.r (HRI.out.step hed) HL3.out.2.2 hsz)
      clear hd hk0 hed hlen hsz
      go_wp2_with fail
      refine CI.out.mono ?_
      rintro e w4 ⟨rfl, l4, lv4, D4, L4, X4⟩
      have HS : Hid (DfsL (edge is bs) l l4 i (NS.map (·.2)) (q + 1)) := HL3.out.1.call (by rw [List.length_map]; exact hlt) (by rw [hsi]; exact D4)
      have HL4 := hide (And.intro (HL3.out.2.1.trans L4) X4)
      clear D4 L4 X4 CI p1 g3
      go_wp2
      go_roundw
      case rel => exact ⟨q + 1, l4, lv4, by omega, by go_num, HS.out, HL4.out⟩
      case measure => simp [intOf]; omega
end Go.Proofs.YtbebgnknjoclkaaGreat
/- impl.Reached by its contract. -/
namespace Go.Proofs.YtbebgnknjoclkaaGreat
open Go.RowKit Kit
/-- All inodes of a disk that are reached, ascending. -/
def reachL (is : List Ino) (bs : List Blk) : List Int := rchL (edgeB is bs)
theorem sortL_any (v : Value) (xs : List Int) (base : Nat) (w : World) (h : ROwns w base 3 v (ic xs)) (hl : xs.length ≤ 1000000) :
    Calls Tryz.prog 106 #[v] w fun e w' => e = .returned (.tuple #[]) ∧ ROwns w' base 3 v (ic (xs.mergeSort fun x y => decide (x ≤ y))) ∧ w.grownBy w' v.ownBlock := by
  have hm : (xs.mergeSort fun x y => decide (x ≤ y)).length = xs.length := List.length_mergeSort _
  rcases h.2 with ⟨rfl, h0⟩ | ⟨g, cap, cur, rfl, h2, h3, h4, h5, h6, h7⟩
  · have e : xs = [] := List.length_eq_zero_iff.1 (by rw [← ic_length]; exact h0)
    subst e
    refine (Tryz.slices_Sort_int_none none 0 w).mono ?_
    rintro e w' ⟨rfl, rfl⟩
    exact ⟨rfl, by simpa [ic] using ROwns.nil w' base 3, ⟨rfl, rfl, rfl, Nat.le_refl _, fun _ _ _ => rfl⟩⟩
  · rw [ic_length] at h4 h7 ⊢
    have hH : Go.Sort.Holds (Value.int .i64) w g 0 xs.toArray := Go.holds_of_blockI h3 (by rw [Nat.mul_one] at h7; exact h7)
    have hg : g < w.heap.size := (Array.getElem?_eq_some_iff.1 h3).1
    refine (Tryz.slices_Sort_int g 0 cap xs w hH hg (by omega)).mono ?_
    rintro e w' ⟨rfl, n, os, rfl⟩
    refine ⟨rfl, ?_, Go.grownBy_sortedI _⟩
    have := Go.ownsRow_sortedI (n := n) (os := os) (ts := xs.mergeSort fun x y => decide (x ≤ y)) (ss := xs) hm h2 h3 h4 h5 h6
    unfold ROwns
    rw [ic_length, hm]
    exact this
set_option maxRecDepth 100000 in
set_option maxHeartbeats 3200000 in
theorem implReach_any (dx dy iv bv : Value) (xs ys : List Bool) (is : List Ino) (bs : List Blk) (w : World) (h : DR w dx dy iv bv xs ys is bs) (hR : RD is bs) :
    Calls Tryz.prog 84 #[.agg #[dx, dy, iv, bv]] w fun e w' => ∃ v, e = .returned v ∧ ROwns w' w.heap.size 3 v (ic (reachL is bs)) ∧ Below w.heap.size w w' := by
  obtain ⟨a1, c1, a2, c2, a3, c3, a4, c4, rfl, rfl, rfl, rfl⟩ := h.form
  have hmf : ∀ (fn : Fn) (first cap : Array Value) (w : World), (Instr.makeFunc fn first cap).run Tryz.prog w = .ok (.func fn first cap) w := fun _ _ _ _ => rfl
  have h8 := hR.hi
  have CH := hide (fun W => hasI_any 1 (.slice a1 xs.length c1) (.slice a2 ys.length c2) (.slice a4 bs.length c4) a3 c3 W)
  rw [show inB 1 1 8 = true from rfl, ← h8] at CH
  obtain ⟨W, hW⟩ : ∃ W, ((w.alloc (.cells #[.slice a1 xs.length c1, .slice a2 ys.length c2, .slice a3 is.length c3, .slice a4 bs.length c4] 34)).alloc (.cells #[.slice none 0 0] 56)).alloc (.cells #[(.func (.func 103) #[] #[.pointer (some ⟨w.heap.size + 1, 0, none⟩), .pointer (some ⟨w.heap.size, 0, none⟩), .pointer (some ⟨w.heap.size + 1 + 1, 0, none⟩)])] 133) = W := ⟨_, rfl⟩
  have hP : Pl w W.heap.size w.heap.size (w.heap.size + 1) (w.heap.size + 1 + 1) := by
    have : W.heap.size = w.heap.size + 3 := by rw [← hW]; simp
    exact ⟨by omega, by omega, by omega, by omega, by omega, by omega⟩
  have hX : Cx w W.heap.size w.heap.size (w.heap.size + 1) (w.heap.size + 1 + 1) #[.slice a1 xs.length c1, .slice a2 ys.length c2, .slice a3 is.length c3, .slice a4 bs.length c4] #[(.func (.func 103) #[] #[.pointer (some ⟨w.heap.size + 1, 0, none⟩), .pointer (some ⟨w.heap.size, 0, none⟩), .pointer (some ⟨w.heap.size + 1 + 1, 0, none⟩)])] W (.slice none 0 0) [] := by
    rw [← hW]
    have a := AtC.new (w.alloc (.cells #[.slice a1 xs.length c1, .slice a2 ys.length c2, .slice a3 is.length c3, .slice a4 bs.length c4] 34)) 56 #[.slice none 0 0]
    have b := AtC.new ((w.alloc (.cells #[.slice a1 xs.length c1, .slice a2 ys.length c2, .slice a3 is.length c3, .slice a4 bs.length c4] 34)).alloc (.cells #[.slice none 0 0] 56)) 133 #[(.func (.func 103) #[] #[.pointer (some ⟨w.heap.size + 1, 0, none⟩), .pointer (some ⟨w.heap.size, 0, none⟩), .pointer (some ⟨w.heap.size + 1 + 1, 0, none⟩)])]
    rw [World.size_alloc] at a
    rw [World.size_alloc, World.size_alloc] at b
    exact ⟨(((Below.refl _ w).alloc (Nat.le_refl _) _).alloc (by simp) _).alloc (by simp; omega) _, ((AtC.new w 34 _).alloc _).alloc _, b, a.alloc _, ROwns.nil _ _ _⟩
  have CR : Hid (∀ W', Below W.heap.size W W' → Calls Tryz.prog 103 #[.int .i64 1, .pointer (some ⟨w.heap.size + 1, 0, none⟩), .pointer (some ⟨w.heap.size, 0, none⟩), .pointer (some ⟨w.heap.size + 1 + 1, 0, none⟩)] W' fun e w' => e = .returned (.tuple #[]) ∧ ∃ l' lv', Dfs (edge is bs) [] l' 1 ∧ Lv W' w' (w.heap.size + 1) (.slice none 0 0) lv' ∧ Cx w W.heap.size w.heap.size (w.heap.size + 1) (w.heap.size + 1 + 1) #[.slice a1 xs.length c1, .slice a2 ys.length c2, .slice a3 is.length c3, .slice a4 bs.length c4] #[(.func (.func 103) #[] #[.pointer (some ⟨w.heap.size + 1, 0, none⟩), .pointer (some ⟨w.heap.size, 0, none⟩), .pointer (some ⟨w.heap.size + 1 + 1, 0, none⟩)])] w' lv' l') := fun W' hb =>
    reach_any a1 a2 a3 a4 c1 c2 c3 c4 xs ys is bs hR w h W.heap.size w.heap.size (w.heap.size + 1) (w.heap.size + 1 + 1) hP 8 1 [] _ W' (by simp) (by simp) (by simp) (Rch.root _) (hX.below hb) hb.size
  have HX := hide hX
  have HE := hide (edge_in hR)
  have HP := hide hP
  have z0 : W.cell? ⟨w.heap.size, 0, none⟩ = some (.slice a1 xs.length c1) := hX.d.cell 0
  have z1 : W.cell? ⟨w.heap.size, 1, none⟩ = some (.slice a2 ys.length c2) := hX.d.cell 1
  have z2 : W.cell? ⟨w.heap.size, 2, none⟩ = some (.slice a3 is.length c3) := hX.d.cell 2
  have z3 : W.cell? ⟨w.heap.size, 3, none⟩ = some (.slice a4 bs.length c4) := hX.d.cell 3
  have HG0 : Hid (∀ W', Below W.heap.size W W' → W'.cell? ⟨w.heap.size + 1 + 1, 0, none⟩ = some (.func (.func 103) #[] #[.pointer (some ⟨w.heap.size + 1, 0, none⟩), .pointer (some ⟨w.heap.size, 0, none⟩), .pointer (some ⟨w.heap.size + 1 + 1, 0, none⟩)])) := fun W' b => (hX.f.over b).cell 0
  clear h hR hX hP h8
  go_enter Tryz.func84, Tryz.ntmps84
  go_upto_region 4 with fail

  clear hW
  go_wp2_with fail
  refine (CH.out _).mono ?_
  rintro e w1 ⟨rfl, rfl⟩
  have HBA : Hid (Below W.heap.size W (W.alloc (.cells #[.slice a1 xs.length c1, .slice a2 ys.length c2, .slice a3 is.length c3, .slice a4 bs.length c4] 34))) := (Below.refl _ W).alloc (Nat.le_refl _) _
  have g0 := HG0.out _ HBA.out
  have CR1 := hide (CR.out _ HBA.out)
  clear CH CR HG0
  go_wp2_with fail
  refine CR1.out.mono ?_
  rintro e w2 ⟨rfl, l2, lv2, D2, L2, X2⟩
  have hl8 := nodup8 D2.nd fun j hj => (D2.r j hj).range HE.out
  have CS := hide (sortL_any lv2 l2 W.heap.size w2 X2.o (by omega))
  rw [sort_rchL (edge_iff is bs) HE.out D2.nd D2.r D2.me (fun j hj k hk => D2.cl j hj (by simp) k hk)] at CS
  have HX2 := hide X2
  obtain ⟨la, lc, rfl, -⟩ := X2.o.form
  have k0 : w2.cell? ⟨w.heap.size + 1, 0, none⟩ = some (.slice la (ic l2).length lc) := X2.l.cell 0
  obtain ⟨m, hm⟩ : ∃ m, (ic l2).length = m := ⟨_, rfl⟩
  rw [hm] at CS HX2 k0
  clear D2 L2 X2 CR1 g0 hm hl8 z0 z1 z2 z3
  go_wp2_with fail
  refine CS.out.mono ?_
  rintro e w3 ⟨rfl, R3, G3⟩
  have A3 : AtC w3 (w.heap.size + 1) 56 #[.slice la m lc] := HX2.out.l.grown G3 (fun e => by have := (HX2.out.o.lt _ e).1; have := HP.out.l; omega)
  have k3 : w3.cell? ⟨w.heap.size + 1, 0, none⟩ = some (.slice la m lc) := A3.cell 0
  have HF : Hid (ROwns w3 w.heap.size 3 (.slice la m lc) (ic (reachL is bs)) ∧ Below w.heap.size w w3) := by
    have hp := HP.out.d
    refine ⟨R3.base_le (by omega), HX2.out.b.grown G3 HX2.out.b.size (fun k hk => by have := (HX2.out.o.lt k hk).1; omega)⟩
  clear R3 G3 A3 CS k0 HX2
  go_wp2
  go_ret
  exact ⟨_, rfl, HF.out⟩
end Go.Proofs.YtbebgnknjoclkaaGreat
