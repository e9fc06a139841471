
/- Texts as cells; laws.markText, eqStringS, markStringS, heldStringS, toStringS, szStringS by their contracts. -/
import Derived.Test.YtkfcdpfkhbgfnaaRows
import Derived.Test.YtkfcdpfkhbgfnaaKitB
import Derived.Deep.QuietTactic
import Derived.BigQuiet
import Derived.Deep.RegionHeld3
import Derived.Deep.OwnRows
namespace Go.Proofs.Ytkfcdpfkhbgfnaa.Kit
open Go.RowKit
/-- The figures of a number, with fuel; none for 0. -/
def decF : Nat → Nat → List UInt8
  | 0, _ => []
  | f + 1, n => if n = 0 then [] else decF f (n / 10) ++ [figB (n % 10)]
theorem decF_zero (f : Nat) : decF f 0 = [] := by cases f <;> simp [decF]
theorem decF_pos (f n : Nat) (h : n ≠ 0) : decF (f + 1) n = decF f (n / 10) ++ [figB (n % 10)] := by simp [decF, h]
theorem dec_step {n f m : Nat} {acc : List UInt8} (h : decF 20 n = decF (f + 1) m ++ acc) (hm : m ≠ 0) : decF 20 n = decF f (m / 10) ++ (figB (m % 10) :: acc) := by
  rw [h, decF_pos f m hm]; simp
/-- One byte as a string. -/
def oneB (b : UInt8) : ByteArray := ⟨#[b]⟩
theorem oneB_size (b : UInt8) : (oneB b).size = 1 := rfl
/-- Figures as a string. -/
def accB (l : List UInt8) : ByteArray := ⟨l.toArray⟩
theorem accB_cons (b : UInt8) (l : List UInt8) : oneB b ++ accB l = accB (b :: l) := by
  unfold oneB accB
  rw [show (⟨#[b]⟩ : ByteArray) = ⟨[b].toArray⟩ from rfl, ByteArray.mk_append_mk]
  simp
theorem accB_size (l : List UInt8) : (accB l).size = l.length := by simp [accB, ByteArray.size]
/-- The mark of a number. -/
def mkT (k : Nat) : ByteArray := accB (109 :: decF 20 k)
/-- Texts as cells. -/
def sc (l : List ByteArray) : List Value := l.map fun z => Value.string z
theorem sc_length (l : List ByteArray) : (sc l).length = l.length := by simp [sc]
theorem sc_append (a b : List ByteArray) : sc (a ++ b) = sc a ++ sc b := by simp [sc]
theorem sc_at (l : List ByteArray) (j : Nat) (h : j < l.length) : (sc l)[j]? = some (.string l[j]) := by simp [sc, h]
theorem sc_set (l : List ByteArray) (j : Nat) (t : ByteArray) : (sc l).set j (.string t) = sc (l.set j t) := by simp [sc, List.map_set]
/-- The slice value v reads as the texts xs. -/
def RSt (w : World) (v : Value) (xs : List ByteArray) : Prop := ∃ a cap, v = .slice a xs.length cap ∧ ∀ (j : Nat) (h : j < xs.length), ∃ g off, a = some ⟨g, off, none⟩ ∧ g < w.heap.size ∧ w.cell? ⟨g, off + j, none⟩ = some (.string xs[j])
theorem RSt.below {w w' : World} {B : Nat} {v : Value} {xs : List ByteArray} (h : RSt w v xs) (hb : Below B w w') (hB : w.heap.size ≤ B) : RSt w' v xs := by
  obtain ⟨a, cap, rfl, h⟩ := h
  refine ⟨a, cap, rfl, fun j hj => ?_⟩
  obtain ⟨g, off, e, hg, hc⟩ := h j hj
  exact ⟨g, off, e, Nat.lt_of_lt_of_le hg hb.size, (hb.cell (p := ⟨g, off + j, none⟩) (Nat.lt_of_lt_of_le hg hB)).trans hc⟩
theorem ROwns.rst {w : World} {base : Nat} {e : TypeId} {v : Value} {xs : List ByteArray} (h : ROwns w base e v (sc xs)) : RSt w v xs := by
  obtain ⟨a, cap, rfl, _⟩ := h.form
  refine ⟨a, cap, by rw [sc_length], fun j hj => ?_⟩
  obtain ⟨g, c, e1, k1, _, _, k4, _⟩ := h.at j (by rw [sc_length]; exact hj)
  simp only [Value.slice.injEq] at e1
  refine ⟨g, 0, e1.1, k4, ?_⟩
  rw [Nat.zero_add, k1]
  simp [sc, hj]
theorem RSt.alloc {w : World} {v : Value} {xs : List ByteArray} (h : RSt w v xs) (o : Obj) : RSt (w.alloc o) v xs := h.below ((Below.refl _ w).alloc (Nat.le_refl _) o) (Nat.le_refl _)
theorem RSt.drew {w : World} {v : Value} {xs : List ByteArray} (h : RSt w v xs) : RSt w.drew v xs := h.below (Below.refl w.heap.size w).drew (Nat.le_refl _)
theorem RSt.form {w : World} {v : Value} {xs : List ByteArray} (h : RSt w v xs) : ∃ a c, v = .slice a xs.length c := by
  obtain ⟨a, c, h, _⟩ := h
  exact ⟨a, c, h⟩
/-- The marks from k on, n of them. -/
def marks (k n : Nat) : List ByteArray := (List.range n).map fun j => mkT (k + j)
theorem marks_length (k n : Nat) : (marks k n).length = n := by simp [marks]
theorem marks_at (k n j : Nat) (h : j < n) : (sc (marks k n))[j]? = some (.string (mkT (k + j))) := by simp [marks, sc, h]
/-- The first j cells are marks already. -/
def marked (k j : Nat) (l : List ByteArray) : List ByteArray := marks k j ++ l.drop j
theorem marked_length (k j : Nat) (l : List ByteArray) (h : j ≤ l.length) : (marked k j l).length = l.length := by simp [marked, marks_length]; omega
theorem marked_zero (k : Nat) (l : List ByteArray) : marked k 0 l = l := by simp [marked, marks]
theorem marked_all (k : Nat) (l : List ByteArray) : marked k l.length l = marks k l.length := by simp [marked]
theorem marked_set (k j : Nat) (l : List ByteArray) (h : j < l.length) : (sc (marked k j l)).set j (.string (mkT (k + j))) = sc (marked k (j + 1) l) := by
  rw [sc_set]
  congr 1
  unfold marked
  rw [List.set_append_right _ _ (by rw [marks_length]; omega), marks_length, Nat.sub_self, List.drop_eq_getElem_cons h, List.set_cons_zero]
  simp [marks, List.range_succ]
theorem marked_cell (k j : Nat) (l : List ByteArray) (h : j < l.length) : (sc (marked k j l))[j]? = some (.string l[j]) := by
  unfold sc marked
  rw [List.map_append, List.getElem?_append_right (by rw [List.length_map, marks_length]; omega), List.length_map, marks_length, Nat.sub_self, List.map_drop, List.getElem?_drop]
  simp [h]
/-- The first j texts are copied, the others are empty yet. -/
def copied (j : Nat) (xs : List ByteArray) : List ByteArray := xs.take j ++ List.replicate (xs.length - j) ByteArray.empty
theorem copied_length (j : Nat) (xs : List ByteArray) (h : j ≤ xs.length) : (copied j xs).length = xs.length := by simp [copied]; omega
theorem copied_zero (xs : List ByteArray) : copied 0 xs = List.replicate xs.length ByteArray.empty := by simp [copied]
theorem copied_all (xs : List ByteArray) : copied xs.length xs = xs := by simp [copied]
theorem copied_cell (j : Nat) (xs : List ByteArray) (h : j < xs.length) : (sc (copied j xs))[j]? = some (.string ByteArray.empty) := by
  unfold sc copied
  have e : (List.map (fun z => Value.string z) (xs.take j)).length = j := by simp; omega
  rw [List.map_append, List.getElem?_append_right (by omega), e, Nat.sub_self, List.map_replicate, List.getElem?_replicate, if_pos (by omega)]
theorem copied_set (j : Nat) (xs : List ByteArray) (h : j < xs.length) : (sc (copied j xs)).set j (.string xs[j]) = sc (copied (j + 1) xs) := by
  rw [sc_set]
  congr 1
  unfold copied
  rw [List.set_append_right _ _ (by simp; omega), List.take_succ_eq_append_getElem h, List.length_take, Nat.min_eq_left (by omega), Nat.sub_self, show xs.length - j = (xs.length - (j + 1)) + 1 by omega, List.replicate_succ, List.set_cons_zero, List.append_assoc]
  rfl
theorem made_texts (w : World) (xs : List ByteArray) (h : xs.length ≤ 8388608) (e : TypeId) : ROwns (w.alloc (.cells (madeCells #[.string ByteArray.empty] xs.length) e)) w.heap.size e (.slice (some ⟨w.heap.size, 0, none⟩) xs.length xs.length) (sc (copied 0 xs)) := by
  have e1 : (madeCells #[.string ByteArray.empty] xs.length).toList = sc (copied 0 xs) := by rw [toList_madeCells_one, copied_zero]; simp [sc]
  have e2 : (madeCells #[.string ByteArray.empty] xs.length).size = xs.length := by rw [← Array.length_toList, e1, sc_length, copied_length 0 xs (Nat.zero_le _)]
  have := ROwns.lit w w.heap.size e (madeCells #[.string ByteArray.empty] xs.length) (Nat.le_refl _) (by rw [e2]; unfold maxLen; omega)
  rwa [e1, e2] at this
/-- One more text copied. -/
theorem copied_next {wr : World} {base g n : Nat} {e : TypeId} {j : Nat} {xs : List ByteArray} (hn : xs.length = n) (hj : j < n) (h : ROwns wr base e (.slice (some ⟨g, 0, none⟩) n n) (sc (copied j xs))) :
    ROwns (wr.setCell ⟨g, j, none⟩ (.string (xs[j]'(by omega)))) base e (.slice (some ⟨g, 0, none⟩) n n) (sc (copied (j + 1) xs)) ∧ wr.cell? ⟨g, j, none⟩ = some (.string ByteArray.empty) ∧ wr.frozen? ⟨g, j, none⟩ = false ∧ g < wr.heap.size := by
  have hml : (sc (copied j xs)).length = n := by rw [sc_length, copied_length j xs (by omega), hn]
  obtain ⟨g2, c2, e1, q2, q3, -, q5, -⟩ := h.at j (by omega)
  rw [copied_cell j xs (by omega)] at q2
  simp only [Value.slice.injEq, Option.some.injEq, Addr.mk.injEq] at e1
  obtain ⟨⟨rfl, -, -⟩, -, rfl⟩ := e1
  have O1 : ROwns wr base e (.slice (some ⟨g, 0, none⟩) (sc (copied j xs)).length n) (sc (copied j xs)) := by rw [hml]; exact h
  have O2 := O1.stored j (.string (xs[j]'(by omega)))
  rw [copied_set j xs (by omega), hml] at O2
  exact ⟨O2.1, q2, q3, q5⟩
end Go.Proofs.Ytkfcdpfkhbgfnaa.Kit
namespace Go.Proofs.Ytkfcdpfkhbgfnaa
open Go.RowKit Kit
theorem conv_one (b : UInt8) (W : World) : (convert 34 9 (.slice (some ⟨W.heap.size, 0, none⟩) 1 1)).run Try.prog (W.alloc (.cells #[.int .u8 (b.toNat : Int)] 5)) = .ok (.string (oneB b)) (W.alloc (.cells #[.int .u8 (b.toNat : Int)] 5)) :=
  conv_own (P := Try.prog) 34 9 5 Try.underlying34 Try.underlying5 Try.underlying9 (base := 0) (l := [b]) (World.ownsRow_lit W #[.int .u8 (b.toNat : Int)] 1 (Nat.zero_le _) (by unfold maxLen; omega) rfl)
theorem Try.u22 : Try.prog.underlying 22 = some (.slice 9) := by kernel_rfl
theorem Try.i9 : (Try.prog.info? 9).map (fun i => (i.zero, i.size, i.bytes)) = some (some (.string ByteArray.empty), 1, 16) := by kernel_rfl
theorem make_st (n : Nat) (h : n ≤ 8388608) (w : World) : (Instr.makeSlice 22 (.int .i64 (n : Int)) (.int .i64 (n : Int))).run Try.prog w = .ok (.slice (some ⟨w.heap.size, 0, none⟩) n n) (w.alloc (.cells (madeCells #[.string ByteArray.empty] n) 9)) :=
  run_make_row' 22 9 (.string ByteArray.empty) 16 Try.u22 Try.i9 rfl .i64 .i64 n (by omega) (by omega) w

set_option maxRecDepth 100000 in
set_option maxHeartbeats 800000 in
theorem markText_any (n : Nat) (w : World) (h0 : n ≠ 0) (h1 : n ≤ 1000000000000) :
    Calls Try.prog 12 #[.int .i64 n] w fun e w' => e = .returned (.string (mkT n)) ∧ Below w.heap.size w w' := by
  have m109 : (⟨#[109]⟩ : ByteArray) = oneB 109 := rfl
  go_enter Try.func12, Try.ntmps12
  go_wp2
  go_loopw [0, 3] (fun x t wr => ∃ (f m : Nat) (acc : List UInt8), x = .int .i64 m ∧ m ≤ 1000000000000 ∧ m < 10 ^ f ∧ acc.length + f = 20 ∧ Hid (decF 20 n = decF f m ++ acc) ∧ t = .string (accB acc) ∧ Below w.heap.size w wr) (fun x _ _ => (intOf x).toNat)
  case atStart => exact ⟨20, n, [], rfl, h1, by omega, rfl, hide (by simp), rfl, Below.refl _ _⟩
  case round =>
    obtain ⟨f, m, acc, rfl, hm, hf, hl, HE, rfl, hb⟩ := hrel
    have hsz := hb.size
    have hz := accB_size acc
    have hz1 : (accB acc).size ≤ 20 := by omega
    clear hz
    by_cases hz : m = 0
    · have e : mkT n = accB (109 :: acc) := by unfold mkT; rw [HE.out, hz, decF_zero]; rfl
      have HF := hide e
      have HC := hide (accB_cons 109 acc)
      have hs1 := oneB_size 109
      clear e
      go_wp2
      go_ret
      exact ⟨by rw [HF.out, ← HC.out]; rfl, hb⟩
    · cases f with
      | zero => simp at hf; omega
      | succ f =>
      have HS := hide (dec_step HE.out hz)
      have HC := hide (accB_cons (figB (m % 10)) acc)
      obtain ⟨d, hd⟩ : ∃ d : Nat, (m : Int) % 10 = d := ⟨m % 10, by omega⟩
      have hd' : m % 10 = d := by omega
      rw [hd'] at HS HC
      have hd1 : d < 10 := by omega
      have hs1 := oneB_size (figB d)
      have hco := conv_one (figB d)
      have hfg := figB_lo d hd1
      rw [hfg] at hco
      clear hd' hfg
      go_wp2
      go_roundw
      case rel => exact ⟨f, m / 10, figB d :: acc, by go_num, by omega, by rw [Nat.pow_succ] at hf; omega, by simp; omega, HS, by rw [HC.out], hb.alloc hsz _⟩
      case measure => simp [intOf]; omega
theorem markText_int (x : Int) (w : World) (h0 : 0 < x) (h1 : x ≤ 1000000000000) :
    Calls Try.prog 12 #[.int .i64 x] w fun e w' => e = .returned (.string (mkT x.toNat)) ∧ Below w.heap.size w w' := by
  obtain ⟨n, rfl⟩ := Int.eq_ofNat_of_zero_le (show 0 ≤ x by omega)
  rw [Int.toNat_natCast]
  exact markText_any n w (by omega) (by omega)

set_option maxRecDepth 100000 in
set_option maxHeartbeats 800000 in
theorem eqS_same (va vb : Value) (l : List ByteArray) (w : World) (ha : RSt w va l) (hb : RSt w vb l) (hl : l.length ≤ 1000000000) :
    Calls Try.prog 6 #[va, vb] w fun e w' => e = .returned (.bool true) ∧ Below w.heap.size w w' := by
  obtain ⟨a1, c1, rfl, ha⟩ := ha
  obtain ⟨a2, c2, rfl, hb⟩ := hb
  have HA := hide ha
  have HB := hide hb
  clear ha hb
  go_enter Try.func6, Try.ntmps6
  go_wp2
  go_loopw [5] (fun i wr => ∃ j : Nat, j ≤ l.length ∧ i = .int .i64 j ∧ ∃ q, wr = w.drewN q) (fun i _ => l.length - (intOf i).toNat)
  case atStart => exact ⟨0, Nat.zero_le _, rfl, 0, rfl⟩
  case round =>
    obtain ⟨j, hj, rfl, q, rfl⟩ := hrel
    by_cases hlt : j < l.length
    · obtain ⟨g1, o1, rfl, _, k1⟩ := HA.out j hlt
      obtain ⟨g2, o2, rfl, _, k2⟩ := HB.out j hlt
      obtain ⟨t, ht⟩ : ∃ t, l[j] = t := ⟨_, rfl⟩
      rw [ht] at k1 k2
      clear ht
      have j0 : (0 : Int) ≤ (j : Int) := by omega
      have j1 : (j : Int) < (l.length : Int) := by omega
      go_wp2
      go_quiet (fail)
      go_wp2
      go_roundw
      case rel => exact ⟨j + 1, by omega, by go_num, _, rfl⟩
      case measure => simp [intOf]; omega
    · go_wp2
      go_ret
      exact ⟨rfl, below_drewN (Below.refl _ _) _⟩

set_option maxRecDepth 100000 in
set_option maxHeartbeats 800000 in
theorem markS_any (v : Value) (l : List ByteArray) (base k : Nat) (w : World) (ha : ROwns w base 9 v (sc l)) (hk : k ≠ 0) (hk1 : k ≤ 1000000000) (hl : l.length ≤ 1000000000) :
    Calls Try.prog 7 #[v, .int .i64 k] w fun e w' => e = .returned (.int .i64 (k + l.length : Nat)) ∧ ROwns w' base 9 v (sc (marks k l.length)) ∧ w.grownBy w' v.ownBlock := by
  obtain ⟨a1, c1, rfl, hnil⟩ := ha.form
  rw [sc_length] at *
  have HA := hide ha
  clear ha
  go_enter Try.func7, Try.ntmps7
  go_wp2
  go_loopw [1, 5] (fun x i wr => ∃ j : Nat, j ≤ l.length ∧ i = .int .i64 j ∧ x = .int .i64 (k + j : Nat) ∧ ROwns wr base 9 (.slice a1 l.length c1) (sc (marked k j l)) ∧ w.grownBy wr (Value.slice a1 l.length c1).ownBlock) (fun _ i _ => l.length - (intOf i).toNat)
  case atStart => exact ⟨0, Nat.zero_le _, rfl, rfl, by rw [marked_zero]; exact HA.out, grownBy_below (Below.refl _ _) _⟩
  case round =>
    obtain ⟨j, hj, rfl, rfl, hown, hg⟩ := hrel
    by_cases hlt : j < l.length
    · have hml : (sc (marked k j l)).length = l.length := by rw [sc_length, marked_length k j l hj]
      obtain ⟨g, c2, e1, k1, k2, k3, k4, k5⟩ := hown.at j (by omega)
      simp only [Value.slice.injEq] at e1
      obtain ⟨rfl, -, rfl⟩ := e1
      rw [marked_cell k j l hlt] at k1
      obtain ⟨t, ht⟩ : ∃ t, l[j] = t := ⟨_, rfl⟩
      rw [ht] at k1
      have HO := hide hown
      have HG := hide hg
      have HM := hide hml
      have HMS := hide (marked_set k j l hlt)
      have j0 : (0 : Int) ≤ (j : Int) := by omega
      have j1 : (j : Int) < (l.length : Int) := by omega
      clear hown hg hml hnil ht
      have tn : ((k : Int) + (j : Int)).toNat = k + j := by omega
      go_wp2_with (go_at_call 12; refine (markText_int _ _ ?_ ?_).mono ?_; omega; omega; rintro e w1 ⟨rfl, hb⟩; have q1 : w1.cell? ⟨g, j, none⟩ = some (.string t) := (hb.cell (p := ⟨g, j, none⟩) k4).trans k1; have q2 : w1.frozen? ⟨g, j, none⟩ = false := (hb.frozen (p := ⟨g, j, none⟩) k4).trans k2)
      have O1 : ROwns w1 base 9 (.slice (some ⟨g, 0, none⟩) (sc (marked k j l)).length c1) (sc (marked k j l)) := by rw [HM.out]; exact HO.out.below hb (Nat.le_refl _)
      have O2 := O1.stored j (.string (mkT (k + j)))
      rw [HMS.out, HM.out] at O2
      have O3 : w.grownBy (w1.setCell ⟨g, j, none⟩ (.string (mkT (k + j)))) (some g) := grownBy_trans (grownBy_trans HG.out (grownBy_below hb _)) O2.2
      go_roundw
      case rel => exact ⟨j + 1, by omega, by go_num, by go_num, O2.1, O3⟩
      case measure => simp [intOf]; omega
    · have hjl : j = l.length := by omega
      have HR := hide (And.intro hown hg)
      have HJ := hide hjl
      clear hown hg hjl
      go_wp2
      go_ret
      exact ⟨by rw [HJ.out]; rfl, by have := HR.out.1; rwa [HJ.out, marked_all] at this, HR.out.2⟩

set_option maxRecDepth 100000 in
set_option maxHeartbeats 800000 in
theorem heldS_any (v : Value) (n base k : Nat) (w : World) (ha : ROwns w base 9 v (sc (marks k n))) (hk : k ≠ 0) (hk1 : k ≤ 1000000000) (hl : n ≤ 1000000000) :
    Calls Try.prog 8 #[v, .int .i64 k] w fun e w' => e = .returned (.int .i64 (k + n : Nat)) ∧ Below w.heap.size w w' := by
  obtain ⟨a1, c1, rfl, -⟩ := ha.form
  rw [sc_length, marks_length] at *
  have HA := hide ha
  clear ha
  go_enter Try.func8, Try.ntmps8
  go_wp2
  go_loopw [1, 5] (fun x i wr => ∃ j : Nat, j ≤ n ∧ i = .int .i64 j ∧ x = .int .i64 (k + j : Nat) ∧ Below w.heap.size w wr) (fun _ i _ => n - (intOf i).toNat)
  case atStart => exact ⟨0, Nat.zero_le _, rfl, rfl, Below.refl _ _⟩
  case round =>
    obtain ⟨j, hj, rfl, rfl, hb⟩ := hrel
    by_cases hlt : j < n
    · obtain ⟨g, c2, e1, k1, -, -, k4, -⟩ := HA.out.at j (by rw [sc_length, marks_length]; exact hlt)
      simp only [Value.slice.injEq] at e1
      obtain ⟨rfl, -, rfl⟩ := e1
      have hct : wr.cell? ⟨g, j, none⟩ = some (.string (mkT (k + j))) := by
        rw [hb.cell (p := ⟨g, j, none⟩) k4, k1]; exact marks_at k n j hlt
      have k5 : g < wr.heap.size := by have := hb.size; omega
      have HB := hide hb
      have j0 : (0 : Int) ≤ (j : Int) := by omega
      have j1 : (j : Int) < (n : Int) := by omega
      have tn : ((k : Int) + (j : Int)).toNat = k + j := by omega
      clear hb k1
      go_wp2
      go_region_held3 (fun w' => w'.cell? ⟨g, j, none⟩ = some (.string (mkT (k + j)))) (first | go_keep | exact (hb2.cell (p := ⟨g, j, none⟩) k5).trans hct) ((go_at_call 12; refine (markText_int _ _ ?_ ?_).mono ?_; omega; omega; rintro e w1 ⟨rfl, hb2⟩))
      have R1 := hide (HB.out.trans ((of_drew hb2).mono HB.out.size))
      go_wp2
      go_roundw
      case rel => exact ⟨j + 1, by omega, by go_num, by go_num, R1.out⟩
      case measure => simp [intOf]; omega
    · have hjl : j = n := by omega
      have HR := hide hb
      have HJ := hide hjl
      clear hb hjl
      go_wp2
      go_ret
      exact ⟨by rw [HJ.out]; rfl, HR.out⟩

end Go.Proofs.Ytkfcdpfkhbgfnaa
