/- Texts of the proof, bundled: Dvi, Stm, Ndf, Wd, Ow, Sd, Wz, Dm, Td, Tmm, Wt, Qs, Qd, Qm, Wq, Tw, Okk, Rd, Ib, Shelf, Bo. -/
import Derived.Handy
import Derived.Deep.RegionHeld3
import Derived.Laws.StructEq
import Derived.BigQuiet
import Derived.BigRegion
import Derived.RegionTactic
import Derived.Deep.Upon
import Derived.Deep.DeepCutAuto
import Derived.Deep.CutRange
import Derived.Shelf.Small.Bits
import Derived.Shelf.Small.Wraps
import Derived.Shelf.Strconv.Itoa0
import Derived.Shelf.LaysM
import Derived.Shelf.Strconv.Clone
import Derived.Shelf.Sort.Plain
import Derived.Shelf.Bits.Mul64
import Derived.Shelf.Slices.Turned
import Derived.Ground.Names2Prog
import Derived.Shelf.Slices.SearchI
import Derived.Shelf.Slices.In.SortNone
import Derived.Ground.SlgnProg
import Derived.Shelf.SlicesE.Equal
import Derived.Test.YtmjhgfkplolelaaGreatProg
import Derived.Test.YtmjhgfkplolelaaGreatU01
import Derived.Test.YtmjhgfkplolelaaGreatU02
/- Devices: laws.szStringS, szDevice, toStringS, toDevice, eqStringS, eqDevice by their contracts. -/
namespace Go.Proofs.YtmjhgfkplolelaaGreat.Kit
open Go.RowKit
/-- Texts as cells. -/
def scT (l : List ByteArray) : List Value := l.map fun z => Value.string z
theorem scT_length (l : List ByteArray) : (scT l).length = l.length := by simp [scT]
theorem scT_at (l : List ByteArray) (j : Nat) (h : j < l.length) : (scT l)[j]? = some (.string l[j]) := by simp [scT, h]
theorem scT_set (l : List ByteArray) (j : Nat) (t : ByteArray) : (scT l).set j (.string t) = scT (l.set j t) := by simp [scT, List.map_set]
/-- The slice value v reads as the texts xs. -/
def RSt (w : World) (v : Value) (xs : List ByteArray) : Prop := ∃ a cap, v = .slice a xs.length cap ∧ ∀ (j : Nat) (h : j < xs.length), ∃ g off, a = some ⟨g, off, none⟩ ∧ g < w.heap.size ∧ w.cell? ⟨g, off + j, none⟩ = some (.string xs[j])
theorem RSt.below {w w' : World} {B : Nat} {v : Value} {xs : List ByteArray} (h : RSt w v xs) (hb : Below B w w') (hB : w.heap.size ≤ B) : RSt w' v xs := by
  obtain ⟨a, cap, rfl, h⟩ := h
  refine ⟨a, cap, rfl, fun j hj => ?_⟩
  obtain ⟨g, off, e, hg, hc⟩ := h j hj
  exact ⟨g, off, e, Nat.lt_of_lt_of_le hg hb.size, (hb.cell (p := ⟨g, off + j, none⟩) (Nat.lt_of_lt_of_le hg hB)).trans hc⟩
theorem ROwns.rst {w : World} {base : Nat} {e : TypeId} {v : Value} {xs : List ByteArray} (h : ROwns w base e v (scT xs)) : RSt w v xs := by
  obtain ⟨a, cap, rfl, _⟩ := h.form
  refine ⟨a, cap, by rw [scT_length], fun j hj => ?_⟩
  obtain ⟨g, c, e1, k1, _, _, k4, _⟩ := h.at j (by rw [scT_length]; exact hj)
  simp only [Value.slice.injEq] at e1
  refine ⟨g, 0, e1.1, k4, ?_⟩
  rw [Nat.zero_add, k1]
  simp [scT, hj]
theorem RSt.alloc {w : World} {v : Value} {xs : List ByteArray} (h : RSt w v xs) (o : Obj) : RSt (w.alloc o) v xs := h.below ((Below.refl _ w).alloc (Nat.le_refl _) o) (Nat.le_refl _)
theorem RSt.drew {w : World} {v : Value} {xs : List ByteArray} (h : RSt w v xs) : RSt w.drew v xs := h.below (Below.refl w.heap.size w).drew (Nat.le_refl _)
theorem RSt.form {w : World} {v : Value} {xs : List ByteArray} (h : RSt w v xs) : ∃ a c, v = .slice a xs.length c := by
  obtain ⟨a, c, h, _⟩ := h
  exact ⟨a, c, h⟩
/-- The first j texts are copT, the others are empty yet. -/
def copT (j : Nat) (xs : List ByteArray) : List ByteArray := xs.take j ++ List.replicate (xs.length - j) ByteArray.empty
theorem copT_length (j : Nat) (xs : List ByteArray) (h : j ≤ xs.length) : (copT j xs).length = xs.length := by simp [copT]; omega
theorem copT_zero (xs : List ByteArray) : copT 0 xs = List.replicate xs.length ByteArray.empty := by simp [copT]
theorem copT_all (xs : List ByteArray) : copT xs.length xs = xs := by simp [copT]
theorem copT_cell (j : Nat) (xs : List ByteArray) (h : j < xs.length) : (scT (copT j xs))[j]? = some (.string ByteArray.empty) := by
  unfold scT copT
  have e : (List.map (fun z => Value.string z) (xs.take j)).length = j := by simp; omega
  rw [List.map_append, List.getElem?_append_right (by omega), e, Nat.sub_self, List.map_replicate, List.getElem?_replicate, if_pos (by omega)]
theorem copT_set (j : Nat) (xs : List ByteArray) (h : j < xs.length) : (scT (copT j xs)).set j (.string xs[j]) = scT (copT (j + 1) xs) := by
  rw [scT_set]
  congr 1
  unfold copT
  rw [List.set_append_right _ _ (by simp; omega), List.take_succ_eq_append_getElem h, List.length_take, Nat.min_eq_left (by omega), Nat.sub_self, show xs.length - j = (xs.length - (j + 1)) + 1 by omega, List.replicate_succ, List.set_cons_zero, List.append_assoc]
  rfl
theorem made_texts (w : World) (xs : List ByteArray) (h : xs.length ≤ 8388608) (e : TypeId) : ROwns (w.alloc (.cells (madeCells #[.string ByteArray.empty] xs.length) e)) w.heap.size e (.slice (some ⟨w.heap.size, 0, none⟩) xs.length xs.length) (scT (copT 0 xs)) := by
  have e1 : (madeCells #[.string ByteArray.empty] xs.length).toList = scT (copT 0 xs) := by rw [toList_madeCells_one, copT_zero]; simp [scT]
  have e2 : (madeCells #[.string ByteArray.empty] xs.length).size = xs.length := by rw [← Array.length_toList, e1, scT_length, copT_length 0 xs (Nat.zero_le _)]
  have := ROwns.lit w w.heap.size e (madeCells #[.string ByteArray.empty] xs.length) (Nat.le_refl _) (by rw [e2]; unfold maxLen; omega)
  rwa [e1, e2] at this
/-- One more text copT. -/
theorem copT_next {wr : World} {base g n : Nat} {e : TypeId} {j : Nat} {xs : List ByteArray} (hn : xs.length = n) (hj : j < n) (h : ROwns wr base e (.slice (some ⟨g, 0, none⟩) n n) (scT (copT j xs))) :
    ROwns (wr.setCell ⟨g, j, none⟩ (.string (xs[j]'(by omega)))) base e (.slice (some ⟨g, 0, none⟩) n n) (scT (copT (j + 1) xs)) ∧ wr.cell? ⟨g, j, none⟩ = some (.string ByteArray.empty) ∧ wr.frozen? ⟨g, j, none⟩ = false ∧ g < wr.heap.size := by
  have hml : (scT (copT j xs)).length = n := by rw [scT_length, copT_length j xs (by omega), hn]
  obtain ⟨g2, c2, e1, q2, q3, -, q5, -⟩ := h.at j (by omega)
  rw [copT_cell j xs (by omega)] at q2
  simp only [Value.slice.injEq, Option.some.injEq, Addr.mk.injEq] at e1
  obtain ⟨⟨rfl, -, -⟩, -, rfl⟩ := e1
  have O1 : ROwns wr base e (.slice (some ⟨g, 0, none⟩) (scT (copT j xs)).length n) (scT (copT j xs)) := by rw [hml]; exact h
  have O2 := O1.stored j (.string (xs[j]'(by omega)))
  rw [copT_set j xs (by omega), hml] at O2
  exact ⟨O2.1, q2, q3, q5⟩
/-- A variable of one cell lies in block b. -/
def AtO (T : TypeId) (w : World) (b : Nat) (v : Value) : Prop := w.heap[b]? = some (.cells #[v] T (0, 0))
theorem AtO.lt {T : TypeId} {w : World} {b : Nat} {v : Value} (h : AtO T w b v) : b < w.heap.size := (Array.getElem?_eq_some_iff.1 h).1
theorem AtO.new (T : TypeId) (w : World) (v : Value) : AtO T (w.alloc (.cells #[v] T)) w.heap.size v := heap_new w _
theorem AtO.alloc {T : TypeId} {w : World} {b : Nat} {v : Value} (h : AtO T w b v) (o : Obj) : AtO T (w.alloc o) b v := (Below.heap_alloc _ _ _ h.lt).trans h
theorem AtO.below {T : TypeId} {w w' : World} {b B : Nat} {v : Value} (h : AtO T w b v) (hb : Below B w w') (hB : b < B) : AtO T w' b v := (hb.block b hB).trans h
theorem AtO.cell {T : TypeId} {w : World} {b : Nat} {v : Value} (h : AtO T w b v) : w.cell? ⟨b, 0, none⟩ = some v := by
  have h' : w.heap[b]? = some (.cells #[v] T (0, 0)) := h
  simp [World.cell?, h']
theorem AtO.frozen {T : TypeId} {w : World} {b : Nat} {v : Value} (h : AtO T w b v) : w.frozen? ⟨b, 0, none⟩ = false := by
  have h' : w.heap[b]? = some (.cells #[v] T (0, 0)) := h
  simp [World.frozen?, h']
theorem AtO.set_other {T : TypeId} {w : World} {b : Nat} {v : Value} (h : AtO T w b v) {B j : Nat} (hne : b ≠ B) (x : Value) : AtO T (w.setCell ⟨B, j, none⟩ x) b v := (heap_setCell_other w ⟨B, j, none⟩ b x hne).trans h
theorem AtO.set {T : TypeId} {w : World} {b : Nat} {v : Value} (h : AtO T w b v) (x : Value) : AtO T (w.setCell ⟨b, 0, none⟩ x) b x := heap_setCell_same w b 0 _ T x h
theorem AtO.drew {T : TypeId} {w : World} {b : Nat} {v : Value} (h : AtO T w b v) : AtO T w.drew b v := h
end Go.Proofs.YtmjhgfkplolelaaGreat.Kit
namespace Go.Proofs.YtmjhgfkplolelaaGreat
open Go.RowKit Kit
theorem Tryz.u32 : Tryz.prog.underlying 32 = some (.slice 9) := by kernel_rfl
theorem Tryz.i9 : (Tryz.prog.info? 9).map (fun i => (i.zero, i.size, i.bytes)) = some (some (.string ByteArray.empty), 1, 16) := by kernel_rfl
theorem make_st (n : Nat) (h : n ≤ 8388608) (w : World) : (Instr.makeSlice 32 (.int .i64 (n : Int)) (.int .i64 (n : Int))).run Tryz.prog w = .ok (.slice (some ⟨w.heap.size, 0, none⟩) n n) (w.alloc (.cells (madeCells #[.string ByteArray.empty] n) 9)) :=
  run_make_row' 32 9 (.string ByteArray.empty) 16 Tryz.u32 Tryz.i9 rfl .i64 .i64 n (by omega) (by omega) w
set_option maxRecDepth 100000 in
set_option maxHeartbeats 800000 in
theorem eqT_same (va vb : Value) (l : List ByteArray) (w : World) (ha : RSt w va l) (hb : RSt w vb l) (hl : l.length ≤ 1000000000) :
    Calls Tryz.prog 79 #[va, vb] w fun e w' => e = .returned (.bool true) ∧ Below w.heap.size w w' := by
  obtain ⟨a1, c1, rfl, ha⟩ := ha
  obtain ⟨a2, c2, rfl, hb⟩ := hb
  have HA := hide ha
  have HB := hide hb
  clear ha hb
  go_enter Tryz.func79, Tryz.ntmps79
  go_wp2
  go_loopw [5] (fun i wr => ∃ j : Nat, j ≤ l.length ∧ i = .int .i64 j ∧ ∃ q, wr = w.drewN q) (fun i _ => l.length - (intOf i).toNat)
  case atStart => exact ⟨0, Nat.zero_le _, rfl, 0, rfl⟩
  case round =>
    obtain ⟨j, hj, rfl, q, rfl⟩ := hrel
    by_cases hlt : j < l.length
    · obtain ⟨g1, o1, rfl, _, k1⟩ := HA.out j hlt
      obtain ⟨g2, o2, rfl, _, k2⟩ := HB.out j hlt
      obtain ⟨t, ht⟩ : ∃ t, l[j] = t := ⟨_, rfl⟩
      rw [ht] at k1 k2
      clear ht
      have j0 : (0 : Int) ≤ (j : Int) := by omega
      have j1 : (j : Int) < (l.length : Int) := by omega
      go_wp2
      go_quiet (fail)
      go_wp2
      go_roundw
      case rel => exact ⟨j + 1, by omega, by go_num, _, rfl⟩
      case measure => simp [intOf]; omega
    · go_wp2
      go_ret
      exact ⟨rfl, below_drewN (Below.refl _ _) _⟩
set_option maxRecDepth 100000 in
set_option maxHeartbeats 1600000 in
theorem toT_any (v : Value) (xs : List ByteArray) (w : World) (hv : RSt w v xs) (hl : xs.length ≤ 1048576) :
    Calls Tryz.prog 57 #[v] w fun e w' => ∃ u, e = .returned u ∧ ROwns w' w.heap.size 9 u (scT xs) ∧ Below w.heap.size w w' := by
  obtain ⟨a, c, rfl, hc⟩ := hv
  have HC := hide hc
  clear hc
  have mk := make_st xs.length (by omega)
  go_enter Tryz.func57, Tryz.ntmps57
  go_wp2
  go_loopw [4] (fun i wr => ∃ j : Nat, j ≤ xs.length ∧ i = .int .i64 j ∧ ROwns wr w.heap.size 9 (.slice (some ⟨w.heap.size, 0, none⟩) xs.length xs.length) (scT (copT j xs)) ∧ Below w.heap.size w wr) (fun i _ => xs.length - (intOf i).toNat)
  case atStart => exact ⟨0, Nat.zero_le _, rfl, made_texts w xs (by omega) 9, (Below.refl _ w).alloc (Nat.le_refl _) _⟩
  case round =>
    obtain ⟨j, hj, rfl, hown, hb⟩ := hrel
    by_cases hlt : j < xs.length
    · obtain ⟨g, off, rfl, hg, k1⟩ := HC.out j hlt
      have q1 : wr.cell? ⟨g, off + j, none⟩ = some (.string xs[j]) := (hb.cell (p := ⟨g, off + j, none⟩) hg).trans k1
      obtain ⟨O2, q2, q3, q4⟩ := copT_next rfl hlt hown
      have HO := hide (And.intro O2 (hb.setCell (p := ⟨w.heap.size, j, none⟩) (Nat.le_refl _) (.string xs[j])))
      obtain ⟨t, ht⟩ : ∃ t, xs[j] = t := ⟨_, rfl⟩
      rw [ht] at q1 HO
      have hne : ¬ g = w.heap.size := by omega
      have j0 : (0 : Int) ≤ (j : Int) := by omega
      have j1 : (j : Int) < (xs.length : Int) := by omega
      clear hown hb O2 ht k1 mk
      go_wp2
      go_roundw
      case rel => exact ⟨j + 1, by omega, by go_num, HO.out.1, HO.out.2⟩
      case measure => simp [intOf]; omega
    · have hjl : j = xs.length := by omega
      have HR := hide (And.intro hown hb)
      have HJ := hide hjl
      clear hown hb hjl mk
      go_wp2
      go_ret
      exact ⟨_, rfl, by have := HR.out.1; rwa [HJ.out, copT_all] at this, HR.out.2⟩
set_option maxRecDepth 100000 in
set_option maxHeartbeats 1600000 in
theorem szT_any (v : Value) (xs : List ByteArray) (L0 : Int) (w : World) (h0 : 0 ≤ L0) (h1 : L0 ≤ 1048576) (hv : RSt w v xs) (hlen : xs.length ≤ maxLen) (hbig : ∀ (j : Nat) (h : j < xs.length), xs[j].size ≤ maxLen) :
    Calls Tryz.prog 46 #[v, .int .i64 L0] w fun e w' => ∃ r, e = .returned (.int .i64 r) ∧ (r = -1 ∨ (0 ≤ r ∧ r ≤ 1048576 ∧ xs.length ≤ 1048576 ∧ ∀ (j : Nat) (h : j < xs.length), xs[j].size ≤ 1048576)) ∧ Below w.heap.size w w' := by
  obtain ⟨a, c, rfl, hc⟩ := hv
  have HC := hide hc
  have HG := hide hbig
  have hl' : xs.length ≤ 9223372036854775807 := hlen
  clear hc hbig hlen
  by_cases hn : L0 - (xs.length : Int) < 0
  · go_enter Tryz.func46, Tryz.ntmps46
    go_wp2
    go_ret
    exact ⟨-1, rfl, .inl rfl, Below.refl _ _⟩
  · have hn2 : decide (L0 - (xs.length : Int) < 0) = false := by simp; omega
    go_enter Tryz.func46, Tryz.ntmps46
    go_wp2
    go_loopw [1, 5] (fun x i wr => ∃ (j : Nat) (L : Int), j ≤ xs.length ∧ i = .int .i64 j ∧ x = .int .i64 L ∧ 0 ≤ L ∧ L ≤ 1048576 ∧ Hid (∀ (k : Nat) (h : k < xs.length), k < j → xs[k].size ≤ 1048576) ∧ w = wr) (fun _ i _ => xs.length - (intOf i).toNat)
    case atStart => exact ⟨0, _, Nat.zero_le _, rfl, rfl, by omega, by omega, fun _ _ h => absurd h (Nat.not_lt_zero _), rfl⟩
    case round =>
      obtain ⟨j, L, hj, rfl, rfl, hL0, hL1, HS, rfl⟩ := hrel
      by_cases hlt : j < xs.length
      · obtain ⟨g, off, rfl, hg, m1⟩ := HC.out j hlt
        have hgt : xs[j].size ≤ 9223372036854775807 := HG.out j hlt
        obtain ⟨t, ht⟩ : ∃ t, xs[j] = t := ⟨_, rfl⟩
        rw [ht] at m1 hgt
        have HT := hide ht
        have j0 : (0 : Int) ≤ (j : Int) := by omega
        have j1 : (j : Int) < (xs.length : Int) := by omega
        clear ht hn2
        by_cases hs : L - (t.size : Int) < 0
        · go_wp2
          go_ret
          exact ⟨-1, rfl, .inl rfl, Below.refl _ _⟩
        · go_wp2
          go_roundw
          case rel => exact ⟨j + 1, L - (t.size : Int), by omega, by go_num, rfl, by omega, by omega, fun k hk h => by
              by_cases hkj : k < j
              · exact HS.out k hk hkj
              · have : k = j := by omega
                subst this
                rw [HT.out]; omega, by trivial⟩
          case measure => simp [intOf]; omega
      · have HF := hide (fun (k : Nat) (h : k < xs.length) => HS.out k h (by omega))
        go_wp2
        go_ret
        exact ⟨L, rfl, .inr ⟨hL0, hL1, by omega, HF.out⟩, Below.refl _ _⟩
set_option maxHeartbeats 800000 in
theorem szD_any (v : Value) (xs : List ByteArray) (L0 : Int) (w : World) (h0 : 0 ≤ L0) (h1 : L0 ≤ 1048576) (hv : RSt w v xs) (hlen : xs.length ≤ maxLen) (hbig : ∀ (j : Nat) (h : j < xs.length), xs[j].size ≤ maxLen) :
    Calls Tryz.prog 22 #[.agg #[v], .int .i64 L0] w fun e w' => ∃ r, e = .returned (.int .i64 r) ∧ (r = -1 ∨ (0 ≤ r ∧ r ≤ 1048576 ∧ xs.length ≤ 1048576 ∧ ∀ (j : Nat) (h : j < xs.length), xs[j].size ≤ 1048576)) ∧ Below w.heap.size w w' := by
  have HV := hide hv
  have HG := hide (And.intro hlen hbig)
  obtain ⟨a, c, rfl⟩ := hv.form
  clear hv hlen hbig
  go_enter Tryz.func22, Tryz.ntmps22
  go_wp2_with fail
  refine (szT_any _ xs L0 _ h0 h1 (HV.out.alloc _) HG.out.1 HG.out.2).mono ?_
  rintro e w1 ⟨r, rfl, hr, B1⟩
  have HB := hide (((Below.refl _ w).alloc (Nat.le_refl _) (.cells #[.slice a xs.length c] 34)).trans (B1.mono (by simp)))
  clear B1
  rcases hr with rfl | hr
  · go_wp2
    go_ret
    exact ⟨-1, rfl, .inl rfl, HB.out⟩
  · have hr0 := hr.1
    have hr1 := hr.2.1
    have HR := hide hr
    clear hr
    go_wp2
    go_ret
    exact ⟨r, rfl, .inr HR.out, HB.out⟩
set_option maxHeartbeats 800000 in
theorem eqD_same (u v : Value) (xs : List ByteArray) (w : World) (h1 : RSt w u xs) (h2 : RSt w v xs) (hx : xs.length ≤ 1000000000) :
    Calls Tryz.prog 41 #[.agg #[u], .agg #[v]] w fun e w' => e = .returned (.bool true) ∧ Below w.heap.size w w' := by
  obtain ⟨a1, c1, rfl⟩ := h1.form
  obtain ⟨a2, c2, rfl⟩ := h2.form
  have H1 := hide h1
  have H2 := hide h2
  clear h1 h2
  go_enter Tryz.func41, Tryz.ntmps41
  go_wp2_with fail
  refine (eqT_same _ _ xs _ ((H1.out.alloc _).alloc _) ((H2.out.alloc _).alloc _) hx).mono ?_
  rintro e w1 ⟨rfl, B1⟩
  have b1 : Below w.heap.size w w1 := ((((Below.refl _ w).alloc (Nat.le_refl _) _).alloc (by simp) _).trans (B1.mono (by simp; omega)))
  have HB := hide b1
  clear B1 b1
  go_wp2
  go_ret
  exact ⟨rfl, HB.out⟩
set_option maxHeartbeats 1600000 in
theorem toD_any (v : Value) (xs : List ByteArray) (w : World) (hv : RSt w v xs) (hx : xs.length ≤ 1048576) :
    Calls Tryz.prog 28 #[.agg #[v]] w fun e w' => ∃ v', e = .returned (.agg #[v']) ∧ ROwns w' w.heap.size 9 v' (scT xs) ∧ Below w.heap.size w w' := by
  have HV := hide hv
  obtain ⟨a, c, rfl, -⟩ := hv
  go_enter Tryz.func28, Tryz.ntmps28
  go_wp2_with fail
  refine (toT_any _ xs _ (((HV.out.alloc _).alloc _).alloc _) hx).mono ?_
  rintro e w1 ⟨u1, rfl, O1, B1⟩
  obtain ⟨s1, t1, rfl⟩ := O1.rst.form
  have K1 : AtO 51 w1 (w.heap.size + 1) (.slice none 0 0) := by
    have := ((AtO.new 51 (w.alloc (Obj.cells #[.slice a xs.length c] 34)) (.slice none 0 0)).alloc (Obj.cells #[.slice none 0 0] 51)).below B1 (by simp)
    rwa [World.size_alloc] at this
  have K2 : AtO 51 w1 (w.heap.size + 1 + 1) (.slice none 0 0) := by
    have := (AtO.new 51 ((w.alloc (Obj.cells #[.slice a xs.length c] 34)).alloc (Obj.cells #[.slice none 0 0] 51)) (.slice none 0 0)).below B1 (by simp)
    rwa [World.size_alloc, World.size_alloc] at this
  have B2 : Below w.heap.size w w1 := ((((Below.refl _ w).alloc (Nat.le_refl _) _).alloc (by simp) _).alloc (by simp; omega) _).trans (B1.mono (by simp; omega))
  have O2 : ROwns w1 (w.heap.size + 1 + 1 + 1) 9 (.slice s1 xs.length t1) (scT xs) := O1.base_le (by simp)
  have p0 := K2.cell
  have f0 := K2.frozen
  have q0 := K1.cell
  have g0 := K1.frozen
  have m1 := K2.lt
  have m3 := K1.lt
  have H3 := hide (And.intro O2 B2)
  clear K1 K2 O1 O2 B1 B2 HV
  go_wp2
  refine bodyPost_ret (v := .agg #[.slice s1 xs.length t1]) (by simp [results, go_sem, q0]) rfl ⟨_, rfl, ?_, ?_⟩
  · exact ((H3.out.1.setCell_other (by omega) _).setCell_other (by omega) _).base_le (by omega)
  · exact ((H3.out.2.setCell (by simp; omega) _).setCell (by simp) _)
end Go.Proofs.YtmjhgfkplolelaaGreat
/- spec.SameTree, slices.Equal over nodes, impl.SameTree by their contracts. -/
namespace Go.Proofs.YtmjhgfkplolelaaGreat
open Go.RowKit Kit
/-- Two nodes are the same. -/
def sameNd (x y : Nd) : Bool := decide (x = y)
theorem Tryz.fieldsOf66 : Tryz.prog.underlying 78 = some (.struct (Tryz.prog.fieldsOf 78)) := by kernel_rfl
theorem Tryz.stood66 : Tryz.prog.stoodInHeld 78 = false := by kernel_rfl
theorem Tryz.guard66 : Tryz.prog.eqGuardType Tryz.prog.depth 78 = false := by kernel_rfl
theorem Tryz.fields66 : ∃ n0 n1 n2 n3 : String, (Tryz.prog.fieldsOf 78).toList.map (fun f => (f.name, f.type, f.offset)) = [(n0, 9, 0), (n1, 4, 1), (n2, 9, 2), (n3, 9, 3)] ∧ n0 ≠ "_" ∧ n1 ≠ "_" ∧ n2 ≠ "_" ∧ n3 ≠ "_" := ⟨ "Path", "Dir", "Head", "Tail", by kernel_rfl, by decide, by decide, by decide, by decide⟩
theorem u9 : Tryz.prog.underlying 9 = some .string := by kernel_rfl
theorem u4 : Tryz.prog.underlying 4 = some .bool := by kernel_rfl
theorem i9 : (Tryz.prog.info? 9).map (fun i => (i.zero, i.size, i.bytes)) = some (some (.string ByteArray.empty), 1, 16) := by kernel_rfl
theorem i4 : (Tryz.prog.info? 4).map (fun i => (i.zero, i.size, i.bytes)) = some (some (.bool false), 1, 1) := by kernel_rfl
theorem beq_bytes (a b : ByteArray) : (a.toList == b.toList) = decide (a = b) := by
  rw [ByteArray.toList_eq, ByteArray.toList_eq, Bool.eq_iff_iff]
  simp [ByteArray.ext_iff]
theorem eqNdD (d : Nat) (x0 : ByteArray) (x1 : Bool) (x2 x3 y0 : ByteArray) (y1 : Bool) (y2 y3 : ByteArray) (w : World) : (Op.equalIn (d + 1 + 1) 78 (.agg #[.string x0, .bool x1, .string x2, .string x3]) (.agg #[.string y0, .bool y1, .string y2, .string y3])).run Tryz.prog w = .ok (sameNd (x0, x1, x2, x3) (y0, y1, y2, y3)) w := by
  rw [run_equalIn_struct w (d + 1) 78 _ _ Tryz.fieldsOf66 Tryz.stood66]
  obtain ⟨n0, n1, n2, n3, hf, h0, h1, h2, h3⟩ := Tryz.fields66
  obtain ⟨z9, e9, a9, b9, c9⟩ := info_parts i9
  obtain ⟨z4, e4, a4, b4, c4⟩ := info_parts i4
  generalize (Tryz.prog.fieldsOf 78).toList = fs at hf
  have h4 : fs.length = 4 := by have := congrArg List.length hf; simpa using this
  rcases fs with _ | ⟨f0, _ | ⟨f1, _ | ⟨f2, _ | ⟨f3, _ | ⟨f4, fs⟩⟩⟩⟩⟩
  · simp at h4
  · simp at h4
  · simp at h4
  · simp at h4
  · simp only [List.map_cons, List.map_nil, List.cons.injEq, Prod.mk.injEq, and_true] at hf
    obtain ⟨⟨rfl, t0, o0⟩, ⟨rfl, t1, o1⟩, ⟨rfl, t2, o2⟩, rfl, t3, o3⟩ := hf
    simp only [Op.eqFields, ne_eq, h0, h1, h2, h3, not_false_eq_true, if_true, t0, t1, t2, t3, o0, o1, o2, o3]
    simp [part, sizeOf, typeInfo, e9, b9, e4, b4, go_sem, beq_bytes]
    simp only [sameNd, Prod.mk.injEq]
    by_cases q0 : x0 = y0 <;> by_cases q1 : x1 = y1 <;> by_cases q2 : x2 = y2 <;> by_cases q3 : x3 = y3 <;> simp [q0, q1, q2, q3]
  · simp at h4
theorem eqNd (x0 : ByteArray) (x1 : Bool) (x2 x3 y0 : ByteArray) (y1 : Bool) (y2 y3 : ByteArray) (w : World) : (Op.equalIn 10000 78 (.agg #[.string x0, .bool x1, .string x2, .string x3]) (.agg #[.string y0, .bool y1, .string y2, .string y3])).run Tryz.prog w = .ok (sameNd (x0, x1, x2, x3) (y0, y1, y2, y3)) w := eqNdD 9998 x0 x1 x2 x3 y0 y1 y2 y3 w

set_option maxRecDepth 100000 in
set_option maxHeartbeats 800000 in
theorem specSame_any (va vb : Value) (l m : List Nd) (w : World) (ha : RNd w va l) (hb : RNd w vb m) (hl : l.length ≤ 1000000000) (hm : m.length ≤ 1000000000) :
    Calls Tryz.prog 12 #[va, vb] w fun e w' => e = .returned (.bool (decide (l = m))) ∧ Below w.heap.size w w' := by
  obtain ⟨a1, c1, rfl, ha⟩ := ha
  obtain ⟨a2, c2, rfl, hb⟩ := hb
  have HA := hide ha
  have HB := hide hb
  clear ha hb
  by_cases hlen : l.length = m.length
  · go_enter Tryz.func12, Tryz.ntmps12
    rw [← hlen]
    have HL := hide hlen
    clear hlen
    go_wp2
    go_loopw [5] (fun i wr => ∃ j : Nat, j ≤ l.length ∧ i = .int .i64 j ∧ Hid (l.take j = m.take j) ∧ ∃ q, wr = w.drewN q) (fun i _ => l.length - (intOf i).toNat)
    case atStart => exact ⟨0, Nat.zero_le _, rfl, hide (by simp), 0, rfl⟩
    case round =>
      obtain ⟨j, hj, rfl, HJ, q, rfl⟩ := hrel
      by_cases hlt : j < l.length
      · obtain ⟨g1, o1, rfl, _, k0, k1, k2, k3⟩ := HA.out j hlt
        obtain ⟨g2, o2, rfl, _, m0, m1, m2, m3⟩ := HB.out j (by rw [← HL.out]; exact hlt)
        have j0 : (0 : Int) ≤ (j : Int) := by omega
        have j1 : (j : Int) < (l.length : Int) := by omega
        obtain ⟨⟨x0, x1, x2, x3⟩, hx⟩ : ∃ x, l[j] = x := ⟨_, rfl⟩
        obtain ⟨⟨y0, y1, y2, y3⟩, hy⟩ : ∃ y, m[j]'(by rw [← HL.out]; exact hlt) = y := ⟨_, rfl⟩
        rw [hx] at k0 k1 k2 k3
        rw [hy] at m0 m1 m2 m3
        have HX := hide hx
        have HY := hide hy
        clear hx hy
        simp only at k0 k1 k2 k3 m0 m1 m2 m3
        have eN := eqNd x0 x1 x2 x3 y0 y1 y2 y3
        have eG := Tryz.guard66
        cases hs : sameNd (x0, x1, x2, x3) (y0, y1, y2, y3) with
        | false =>
          rw [hs] at eN
          have HS := hide hs
          clear hs
          go_wp2
          go_quiet (fail)
          go_wp2
          go_ret
          refine ⟨ret_bool ?_, below_drewN (below_drewN (Below.refl _ _) _) _⟩
          have hne : ¬ l = m := by
            intro e
            subst e
            have := HS.out
            simp only [sameNd, decide_eq_false_iff_not] at this
            exact this (HX.out.symm.trans HY.out)
          simp [hne]
        | true =>
          rw [hs] at eN
          have HS := hide hs
          clear hs
          go_wp2
          go_quiet (fail)
          go_wp2
          go_roundw
          case rel =>
            refine ⟨j + 1, by omega, by go_num, hide ?_, _, rfl⟩
            have e := HS.out
            simp only [sameNd, decide_eq_true_eq] at e
            rw [List.take_succ_eq_append_getElem hlt, List.take_succ_eq_append_getElem (by rw [← HL.out]; exact hlt), HJ.out, HX.out, HY.out, e]
          case measure => simp [intOf]; omega
      · have HF := hide HJ.out
        clear HJ
        go_wp2
        go_ret
        refine ⟨ret_bool ?_, below_drewN (Below.refl _ _) _⟩
        have e := HF.out
        rw [List.take_of_length_le (by omega), List.take_of_length_le (by rw [← HL.out]; omega)] at e
        simp [e]
  · have hne : ¬ l = m := fun e => hlen (by rw [e])
    have hn : ((l.length : Int) == (m.length : Int)) = false := by simp; omega
    have HN := hide hne
    clear hne
    go_enter Tryz.func12, Tryz.ntmps12
    go_wp2
    go_ret
    exact ⟨ret_bool (by simp [HN.out]), Below.refl _ _⟩
set_option maxRecDepth 100000 in
set_option maxHeartbeats 800000 in
theorem equal_any (va vb : Value) (l m : List Nd) (w : World) (ha : RNd w va l) (hb : RNd w vb m) (hl : l.length ≤ 1000000000) (hm : m.length ≤ 1000000000) :
    Calls Tryz.prog 60 #[va, vb] w fun e w' => e = .returned (.bool (decide (l = m))) ∧ Below w.heap.size w w' := by
  obtain ⟨a1, c1, rfl, ha⟩ := ha
  obtain ⟨a2, c2, rfl, hb⟩ := hb
  have HA := hide ha
  have HB := hide hb
  clear ha hb
  by_cases hlen : l.length = m.length
  · go_enter Tryz.func60, Tryz.ntmps60
    rw [← hlen]
    have HL := hide hlen
    clear hlen
    go_wp2
    go_loopw [13] (fun i wr => ∃ j : Nat, j ≤ l.length ∧ i = .int .i64 j ∧ Hid (l.take j = m.take j) ∧ ∃ q, wr = w.drewN q) (fun i _ => l.length - (intOf i).toNat)
    case atStart => exact ⟨0, Nat.zero_le _, rfl, hide (by simp), 0, rfl⟩
    case round =>
      obtain ⟨j, hj, rfl, HJ, q, rfl⟩ := hrel
      by_cases hlt : j < l.length
      · obtain ⟨g1, o1, rfl, _, k0, k1, k2, k3⟩ := HA.out j hlt
        obtain ⟨g2, o2, rfl, _, m0, m1, m2, m3⟩ := HB.out j (by rw [← HL.out]; exact hlt)
        have j0 : (0 : Int) ≤ (j : Int) := by omega
        have j1 : (j : Int) < (l.length : Int) := by omega
        obtain ⟨⟨x0, x1, x2, x3⟩, hx⟩ : ∃ x, l[j] = x := ⟨_, rfl⟩
        obtain ⟨⟨y0, y1, y2, y3⟩, hy⟩ : ∃ y, m[j]'(by rw [← HL.out]; exact hlt) = y := ⟨_, rfl⟩
        rw [hx] at k0 k1 k2 k3
        rw [hy] at m0 m1 m2 m3
        have HX := hide hx
        have HY := hide hy
        clear hx hy
        simp only at k0 k1 k2 k3 m0 m1 m2 m3
        have eN := eqNd x0 x1 x2 x3 y0 y1 y2 y3
        have eG := Tryz.guard66
        cases hs : sameNd (x0, x1, x2, x3) (y0, y1, y2, y3) with
        | false =>
          rw [hs] at eN
          have HS := hide hs
          clear hs
          go_wp2
          go_quiet (fail)
          go_wp2
          go_ret
          refine ⟨ret_bool ?_, below_drewN (below_drewN (Below.refl _ _) _) _⟩
          have hne : ¬ l = m := by
            intro e
            subst e
            have := HS.out
            simp only [sameNd, decide_eq_false_iff_not] at this
            exact this (HX.out.symm.trans HY.out)
          simp [hne]
        | true =>
          rw [hs] at eN
          have HS := hide hs
          clear hs
          go_wp2
          go_quiet (fail)
          go_wp2
          go_roundw
          case rel =>
            refine ⟨j + 1, by omega, by go_num, hide ?_, _, rfl⟩
            have e := HS.out
            simp only [sameNd, decide_eq_true_eq] at e
            rw [List.take_succ_eq_append_getElem hlt, List.take_succ_eq_append_getElem (by rw [← HL.out]; exact hlt), HJ.out, HX.out, HY.out, e]
          case measure => simp [intOf]; omega
      · have HF := hide HJ.out
        clear HJ
        go_wp2
        go_ret
        refine ⟨ret_bool ?_, below_drewN (Below.refl _ _) _⟩
        have e := HF.out
        rw [List.take_of_length_le (by omega), List.take_of_length_le (by rw [← HL.out]; omega)] at e
        simp [e]
  · have hne : ¬ l = m := fun e => hlen (by rw [e])
    have hn : ((l.length : Int) == (m.length : Int)) = false := by simp; omega
    have HN := hide hne
    clear hne
    go_enter Tryz.func60, Tryz.ntmps60
    go_wp2
    go_ret
    exact ⟨ret_bool (by simp [HN.out]), Below.refl _ _⟩

set_option maxHeartbeats 800000 in
theorem implSame_any (va vb : Value) (l m : List Nd) (w : World) (ha : RNd w va l) (hb : RNd w vb m) (hl : l.length ≤ 1000000000) (hm : m.length ≤ 1000000000) :
    Calls Tryz.prog 33 #[va, vb] w fun e w' => e = .returned (.bool (decide (l = m))) ∧ Below w.heap.size w w' := by
  have HC := hide (equal_any va vb l m w ha hb hl hm)
  clear ha hb
  generalize decide (l = m) = r at *
  go_enter Tryz.func33, Tryz.ntmps33
  go_wp2_with fail
  refine HC.out.mono ?_
  rintro e w1 ⟨rfl, B1⟩
  have HB := hide B1
  clear B1
  go_wp2
  go_ret
  exact ⟨rfl, HB.out⟩
end Go.Proofs.YtmjhgfkplolelaaGreat
/- laws.szNode, szNodeS, toNode, toNodeS, eqNode, eqNodeS by their contracts. -/
namespace Go.Proofs.YtmjhgfkplolelaaGreat
open Go.RowKit Kit
/-- A list of nodes of its own, from B on. -/
def NdB (w : World) (B : Nat) (v : Value) (ns : List Nd) : Prop := ∃ g c, v = .slice (some ⟨g, 0, none⟩) ns.length c ∧ At w g 78 (ndcs ns) ∧ B ≤ g

set_option maxRecDepth 100000 in
set_option maxHeartbeats 800000 in
theorem szNode_any (x0 : ByteArray) (x1 : Bool) (x2 x3 : ByteArray) (L : Int) (w : World) (h0 : 0 ≤ L) (h1 : L ≤ 1048576) (b0 : x0.size ≤ maxLen) (b2 : x2.size ≤ maxLen) (b3 : x3.size ≤ maxLen) :
    Calls Tryz.prog 23 #[.agg #[.string x0, .bool x1, .string x2, .string x3], .int .i64 L] w fun e w' => ∃ r, e = .returned (.int .i64 r) ∧ -1 ≤ r ∧ r ≤ L ∧ Below w.heap.size w w' := by
  have hB := (Below.refl w.heap.size w).alloc (Nat.le_refl _) (.cells #[.string x0, .bool x1, .string x2, .string x3] 77)
  have a0 : x0.size ≤ 9223372036854775807 := b0
  have a2 : x2.size ≤ 9223372036854775807 := b2
  have a3 : x3.size ≤ 9223372036854775807 := b3
  clear b0 b2 b3
  go_enter Tryz.func23, Tryz.ntmps23
  by_cases q0 : L - (x0.size : Int) < 0
  · go_wp2
    go_ret
    exact ⟨-1, rfl, by omega, by omega, hB⟩
  · have n0 : decide (L - (x0.size : Int) < 0) = false := by simp; omega
    by_cases q2 : L - (x0.size : Int) - (x2.size : Int) < 0
    · go_wp2
      go_ret
      exact ⟨-1, rfl, by omega, by omega, hB⟩
    · have n2 : decide (L - (x0.size : Int) - (x2.size : Int) < 0) = false := by simp; omega
      by_cases q3 : L - (x0.size : Int) - (x2.size : Int) - (x3.size : Int) < 0
      · go_wp2
        go_ret
        exact ⟨-1, rfl, by omega, by omega, hB⟩
      · have n3 : decide (L - (x0.size : Int) - (x2.size : Int) - (x3.size : Int) < 0) = false := by simp; omega
        go_wp2
        go_ret
        exact ⟨_, rfl, by omega, by omega, hB⟩

set_option maxRecDepth 100000 in
set_option maxHeartbeats 1600000 in
theorem szNodeS_any (v : Value) (xs : List Nd) (L0 : Int) (w : World) (hv : RNd w v xs) (hL0 : 0 ≤ L0) (hL1 : L0 ≤ 1048576) (hlen : xs.length ≤ maxLen) (hbig : ∀ (j : Nat) (h : j < xs.length), xs[j].1.size ≤ maxLen ∧ xs[j].2.2.1.size ≤ maxLen ∧ xs[j].2.2.2.size ≤ maxLen) :
    Calls Tryz.prog 10 #[v, .int .i64 L0] w fun e w' => ∃ r, e = .returned (.int .i64 r) ∧ (r = -1 ∨ (0 ≤ r ∧ r ≤ 1048576 ∧ xs.length ≤ 1048576)) ∧ Below w.heap.size w w' := by
  obtain ⟨a, c, rfl, hc⟩ := hv
  have HC := hide hc
  have HG := hide hbig
  have hl' : xs.length ≤ 9223372036854775807 := hlen
  clear hc hbig hlen
  by_cases hn : L0 - (xs.length : Int) < 0
  · go_enter Tryz.func10, Tryz.ntmps10
    go_wp2
    go_ret
    exact ⟨-1, rfl, .inl rfl, Below.refl _ _⟩
  · have hn2 : decide (L0 - (xs.length : Int) < 0) = false := by simp; omega
    go_enter Tryz.func10, Tryz.ntmps10
    go_wp2
    go_loopw [1, 5] (fun x i wr => ∃ (j : Nat) (L : Int), j ≤ xs.length ∧ i = .int .i64 j ∧ x = .int .i64 L ∧ 0 ≤ L ∧ L ≤ 1048576 ∧ Below w.heap.size w wr) (fun _ i _ => xs.length - (intOf i).toNat)
    case atStart => exact ⟨0, _, Nat.zero_le _, rfl, rfl, by omega, by omega, Below.refl _ _⟩
    case round =>
      obtain ⟨j, L, hj, rfl, rfl, hL0, hL1, hb⟩ := hrel
      have hsz := hb.size
      by_cases hlt : j < xs.length
      · obtain ⟨g, off, rfl, hg, m0, m1, m2, m3⟩ := HC.out j hlt
        have k0 := (hb.cell (p := ⟨g, off + j * 4, none⟩) hg).trans m0
        have k1 := (hb.cell (p := ⟨g, off + j * 4 + 1, none⟩) hg).trans m1
        have k2 := (hb.cell (p := ⟨g, off + j * 4 + 2, none⟩) hg).trans m2
        have k3 := (hb.cell (p := ⟨g, off + j * 4 + 3, none⟩) hg).trans m3
        have hgt := HG.out j hlt
        obtain ⟨⟨x0, x1, x2, x3⟩, hx⟩ : ∃ x, xs[j] = x := ⟨_, rfl⟩
        rw [hx] at k0 k1 k2 k3 hgt
        have HT := hide hgt
        have HB := hide hb
        have j0 : (0 : Int) ≤ (j : Int) := by omega
        have j1 : (j : Int) < (xs.length : Int) := by omega
        clear hx m0 m1 m2 m3 hn2 hgt hb
        simp only at k0 k1 k2 k3
        go_wp2_with fail
        refine (szNode_any x0 x1 x2 x3 L _ hL0 hL1 HT.out.1 HT.out.2.1 HT.out.2.2).mono ?_
        rintro e w1 ⟨r, rfl, r0, r1, B1⟩
        have HB1 := hide (HB.out.trans (B1.mono hsz))
        clear B1 k0 k1 k2 k3
        by_cases hr : r < 0
        · go_wp2
          go_ret
          exact ⟨-1, rfl, .inl rfl, HB1.out⟩
        · have hr2 : decide (r < 0) = false := by simp; omega
          go_wp2
          go_roundw
          case rel => exact ⟨j + 1, r, by omega, by go_num, rfl, by omega, by omega, HB1.out⟩
          case measure => simp [intOf]; omega
      · go_wp2
        go_ret
        exact ⟨L, rfl, .inr ⟨hL0, hL1, by omega⟩, hb⟩

set_option maxRecDepth 100000 in
set_option maxHeartbeats 800000 in
theorem toNode_any (x0 : ByteArray) (x1 : Bool) (x2 x3 : ByteArray) (w : World) :
    Calls Tryz.prog 29 #[.agg #[.string x0, .bool x1, .string x2, .string x3]] w fun e w' => e = .returned (.agg #[.string x0, .bool x1, .string x2, .string x3]) ∧ Below w.heap.size w w' := by
  go_enter Tryz.func29, Tryz.ntmps29
  go_wp2
  refine bodyPost_ret (v := .agg #[.string x0, .bool x1, .string x2, .string x3]) (by simp [results, go_sem]) rfl ⟨rfl, ?_⟩
  go_grown

/-- The first j nodes are copied, the others are without anything yet. -/
def copiedN (j : Nat) (xs : List Nd) : List Nd := xs.take j ++ List.replicate (xs.length - j) (ByteArray.empty, false, ByteArray.empty, ByteArray.empty)
theorem copiedN_length (j : Nat) (xs : List Nd) (h : j ≤ xs.length) : (copiedN j xs).length = xs.length := by simp [copiedN]; omega
theorem copiedN_all (xs : List Nd) : copiedN xs.length xs = xs := by simp [copiedN]
theorem copiedN_at (j : Nat) (xs : List Nd) (h : j < xs.length) : (copiedN j xs)[j]'(by rw [copiedN_length j xs (by omega)]; exact h) = (ByteArray.empty, false, ByteArray.empty, ByteArray.empty) := by
  simp only [copiedN]
  rw [List.getElem_append_right (by simp; omega), List.getElem_replicate]
theorem copiedN_set (j : Nat) (xs : List Nd) (h : j < xs.length) : (copiedN j xs).set j xs[j] = copiedN (j + 1) xs := by
  unfold copiedN
  rw [List.set_append_right _ _ (by simp; omega), List.take_succ_eq_append_getElem h, List.length_take, Nat.min_eq_left (by omega), Nat.sub_self, show xs.length - j = (xs.length - (j + 1)) + 1 by omega, List.replicate_succ, List.set_cons_zero, List.append_assoc]
  rfl
theorem ndcs_cons (x : Nd) (r : List Nd) : ndcs (x :: r) = .string x.1 :: .bool x.2.1 :: .string x.2.2.1 :: .string x.2.2.2 :: ndcs r := by simp [ndcs, ndc]
theorem ndcs_set (ns : List Nd) (j : Nat) (hj : j < ns.length) (x : Nd) : ((((ndcs ns).set (j * 4) (.string x.1)).set (j * 4 + 1) (.bool x.2.1)).set (j * 4 + 2) (.string x.2.2.1)).set (j * 4 + 3) (.string x.2.2.2) = ndcs (ns.set j x) := by
  induction ns generalizing j with
  | nil => simp at hj
  | cons y r ih =>
    cases j with
    | zero => simp [ndcs_cons]
    | succ j =>
      have := ih j (by simpa using hj)
      rw [List.set_cons_succ, ndcs_cons, ndcs_cons, ← this]
      rw [show (j + 1) * 4 = j * 4 + 1 + 1 + 1 + 1 by omega]
      simp only [List.set_cons_succ, Nat.add_assoc]
theorem Tryz.n54 : Tryz.prog.underlying 54 = some (.slice 78) := by kernel_rfl
theorem Tryz.n78 : (Tryz.prog.info? 78).map (fun i => (i.zero, i.size, i.bytes)) = some (some (.agg #[.string ByteArray.empty, .bool false, .string ByteArray.empty, .string ByteArray.empty]), 4, 56) := by kernel_rfl
theorem make_nd (n : Nat) (h : n ≤ 1048576) (w : World) : (Instr.makeSlice 54 (.int .i64 (n : Int)) (.int .i64 (n : Int))).run Tryz.prog w = .ok (.slice (some ⟨w.heap.size, 0, none⟩) n n) (w.alloc (.cells (madeCells #[.string ByteArray.empty, .bool false, .string ByteArray.empty, .string ByteArray.empty] (n * 4)) 78)) := by
  obtain ⟨i0, hi, hz0, hz1, hz2⟩ := info_parts Tryz.n78
  rw [run_make w 54 78 i0 _ Tryz.n54 hi hz0 .i64 .i64 n n (by omega) (by omega) (by rw [hz2]; omega) (by omega), hz1]
  rfl
theorem made_nd (xs : List Nd) : madeCells #[.string ByteArray.empty, .bool false, .string ByteArray.empty, .string ByteArray.empty] (xs.length * 4) = (ndcs (copiedN 0 xs)).toArray := by
  apply Array.toList_inj.1
  apply List.ext_getElem?
  intro j
  have hlen : (copiedN 0 xs).length = xs.length := copiedN_length 0 xs (Nat.zero_le _)
  by_cases hj : j < xs.length * 4
  · have e : (madeCells #[.string ByteArray.empty, .bool false, .string ByteArray.empty, .string ByteArray.empty] (xs.length * 4)).toList[j]? = some (#[.string ByteArray.empty, .bool false, .string ByteArray.empty, .string ByteArray.empty][j % 4]!) := by simp [madeCells, hj]
    rw [e]
    have hq : j / 4 < (copiedN 0 xs).length := by omega
    have k := ndcs_at (copiedN 0 xs) (j / 4) (j % 4) hq (by omega)
    have hz : (copiedN 0 xs)[j / 4] = (ByteArray.empty, false, ByteArray.empty, ByteArray.empty) := by simp [copiedN]
    rw [show j / 4 * 4 + j % 4 = j by omega, hz] at k
    simp only at k ⊢
    rw [k]
    have hm : j % 4 = 0 ∨ j % 4 = 1 ∨ j % 4 = 2 ∨ j % 4 = 3 := by omega
    rcases hm with h | h | h | h <;> simp [h, ndc]
  · rw [List.getElem?_eq_none (by simp [madeCells]; omega), List.getElem?_eq_none (by simp only [ndcs_length]; omega)]
theorem At.rnd {w : World} {g : Nat} {ns : List Nd} (h : At w g 78 (ndcs ns)) (c : Nat) : RNd w (.slice (some ⟨g, 0, none⟩) ns.length c) ns := by
  refine ⟨some ⟨g, 0, none⟩, c, rfl, fun j hj => ⟨g, 0, rfl, h.lt, ?_, ?_, ?_, ?_⟩⟩ <;> rw [Nat.zero_add, h.cell]
  · have := ndcs_at ns j 0 hj (by decide); simpa [ndc] using this
  · have := ndcs_at ns j 1 hj (by decide); simpa [ndc] using this
  · have := ndcs_at ns j 2 hj (by decide); simpa [ndc] using this
  · have := ndcs_at ns j 3 hj (by decide); simpa [ndc] using this

set_option maxRecDepth 100000 in
set_option maxHeartbeats 1600000 in
theorem toNodeS_any (v : Value) (xs : List Nd) (w : World) (hv : RNd w v xs) (hl : xs.length ≤ 1048576) :
    Calls Tryz.prog 15 #[v] w fun e w' => ∃ u, e = .returned u ∧ NdB w' w.heap.size u xs ∧ Below w.heap.size w w' := by
  obtain ⟨a, c, rfl, hc⟩ := hv
  have HC := hide hc
  clear hc
  have mk := make_nd xs.length hl
  rw [made_nd] at mk
  have HN := hide (At.new w 78 (ndcs (copiedN 0 xs)))
  go_enter Tryz.func15, Tryz.ntmps15
  go_wp2
  go_loopw [4] (fun i wr => ∃ (j : Nat), j ≤ xs.length ∧ i = .int .i64 j ∧ At wr w.heap.size 78 (ndcs (copiedN j xs)) ∧ Below w.heap.size w wr) (fun i _ => xs.length - (intOf i).toNat)
  case atStart => exact ⟨0, Nat.zero_le _, rfl, HN.out, (Below.refl _ w).alloc (Nat.le_refl _) _⟩
  case round =>
    obtain ⟨j, hj, rfl, hown, hb⟩ := hrel
    clear mk HN
    have hsz := hown.lt
    by_cases hlt : j < xs.length
    · obtain ⟨g, off, rfl, hg, m0, m1, m2, m3⟩ := HC.out j hlt
      have k0 := (hb.cell (p := ⟨g, off + j * 4, none⟩) hg).trans m0
      have k1 := (hb.cell (p := ⟨g, off + j * 4 + 1, none⟩) hg).trans m1
      have k2 := (hb.cell (p := ⟨g, off + j * 4 + 2, none⟩) hg).trans m2
      have k3 := (hb.cell (p := ⟨g, off + j * 4 + 3, none⟩) hg).trans m3
      obtain ⟨⟨x0, x1, x2, x3⟩, hx⟩ : ∃ x, xs[j] = x := ⟨_, rfl⟩
      rw [hx] at k0 k1 k2 k3
      have HS := hide (copiedN_set j xs hlt)
      rw [hx] at HS
      have hcl : j < (copiedN j xs).length := by rw [copiedN_length j xs hj]; exact hlt
      have HST := hide (ndcs_set (copiedN j xs) j hcl (x0, x1, x2, x3))
      rw [HS.out] at HST
      have HCELL : Hid (∀ w1, Below wr.heap.size wr w1 → w1.cell? ⟨w.heap.size, j * 4, none⟩ = some (.string ByteArray.empty) ∧ w1.cell? ⟨w.heap.size, j * 4 + 1, none⟩ = some (.bool false) ∧ w1.cell? ⟨w.heap.size, j * 4 + 2, none⟩ = some (.string ByteArray.empty) ∧ w1.cell? ⟨w.heap.size, j * 4 + 3, none⟩ = some (.string ByteArray.empty) ∧ (∀ i, w1.frozen? ⟨w.heap.size, i, none⟩ = false) ∧ At w1 w.heap.size 78 (ndcs (copiedN j xs)) ∧ Below w.heap.size w w1) := fun w1 b => by
        have h1 := hown.below b hsz
        have hz := copiedN_at j xs hlt
        refine ⟨?_, ?_, ?_, ?_, fun i => h1.frozen i, h1, hb.trans (b.mono (by omega))⟩ <;> rw [h1.cell]
        · have := ndcs_at (copiedN j xs) j 0 hcl (by decide); rw [hz] at this; exact this
        · have := ndcs_at (copiedN j xs) j 1 hcl (by decide); rw [hz] at this; exact this
        · have := ndcs_at (copiedN j xs) j 2 hcl (by decide); rw [hz] at this; exact this
        · have := ndcs_at (copiedN j xs) j 3 hcl (by decide); rw [hz] at this; exact this
      have hgw : ¬ g = w.heap.size := by omega
      have j0 : (0 : Int) ≤ (j : Int) := by omega
      have j1 : (j : Int) < (xs.length : Int) := by omega
      clear hown hb m0 m1 m2 m3 hx hcl
      simp only at k0 k1 k2 k3
      go_wp2_with fail
      refine (toNode_any x0 x1 x2 x3 _).mono ?_
      rintro e w1 ⟨rfl, B1⟩
      obtain ⟨c0, c1, c2, c3, f, h1, b1⟩ := HCELL.out w1 B1
      have f0 := f (j * 4)
      have f1 := f (j * 4 + 1)
      have f2 := f (j * 4 + 2)
      have f3 := f (j * 4 + 3)
      have h5 := (((h1.set (j * 4) (.string x0)).set (j * 4 + 1) (.bool x1)).set (j * 4 + 2) (.string x2)).set (j * 4 + 3) (.string x3)
      rw [HST.out] at h5
      have b5 := (((b1.setCell (p := ⟨w.heap.size, j * 4, none⟩) (Nat.le_refl _) (.string x0)).setCell (p := ⟨w.heap.size, j * 4 + 1, none⟩) (Nat.le_refl _) (.bool x1)).setCell (p := ⟨w.heap.size, j * 4 + 2, none⟩) (Nat.le_refl _) (.string x2)).setCell (p := ⟨w.heap.size, j * 4 + 3, none⟩) (Nat.le_refl _) (.string x3)
      have HF := hide (And.intro h5 b5)
      have l1 := B1.size
      clear h5 b5 B1 h1 b1 HCELL k0 k1 k2 k3 f
      go_wp2
      go_roundw
      case rel => exact ⟨j + 1, by omega, by go_num, HF.out.1, HF.out.2⟩
      case measure => simp [intOf]; omega
    · have hjl : j = xs.length := by omega
      have HR := hide (And.intro hown hb)
      have HJ := hide hjl
      clear hown hb hjl
      go_wp2
      go_ret
      refine ⟨_, rfl, ?_, HR.out.2⟩
      have := HR.out.1
      rw [HJ.out, copiedN_all] at this
      exact ⟨_, _, rfl, this, Nat.le_refl _⟩

set_option maxRecDepth 100000 in
set_option maxHeartbeats 800000 in
theorem eqNode_same (x0 : ByteArray) (x1 : Bool) (x2 x3 : ByteArray) (w : World) :
    Calls Tryz.prog 42 #[.agg #[.string x0, .bool x1, .string x2, .string x3], .agg #[.string x0, .bool x1, .string x2, .string x3]] w fun e w' => e = .returned (.bool true) ∧ Below w.heap.size w w' := by
  go_enter Tryz.func42, Tryz.ntmps42
  go_wp2
  go_ret
  refine ⟨rfl, ?_⟩
  go_grown

set_option maxRecDepth 100000 in
set_option maxHeartbeats 800000 in
theorem eqNodeS_same (va vb : Value) (l : List Nd) (w : World) (ha : RNd w va l) (hb : RNd w vb l) (hl : l.length ≤ 1000000000) :
    Calls Tryz.prog 19 #[va, vb] w fun e w' => e = .returned (.bool true) ∧ Below w.heap.size w w' := by
  obtain ⟨a1, c1, rfl, ha⟩ := ha
  obtain ⟨a2, c2, rfl, hb⟩ := hb
  have HA := hide ha
  have HB := hide hb
  clear ha hb
  go_enter Tryz.func19, Tryz.ntmps19
  go_wp2
  go_loopw [5] (fun i wr => ∃ j : Nat, j ≤ l.length ∧ i = .int .i64 j ∧ Below w.heap.size w wr) (fun i _ => l.length - (intOf i).toNat)
  case atStart => exact ⟨0, Nat.zero_le _, rfl, Below.refl _ _⟩
  case round =>
    obtain ⟨j, hj, rfl, hb⟩ := hrel
    have hsz := hb.size
    by_cases hlt : j < l.length
    · obtain ⟨g1, o1, rfl, hg1, m0, m1, m2, m3⟩ := HA.out j hlt
      obtain ⟨g2, o2, rfl, hg2, n0, n1, n2, n3⟩ := HB.out j hlt
      obtain ⟨⟨x0, x1, x2, x3⟩, hx⟩ : ∃ x, l[j] = x := ⟨_, rfl⟩
      rw [hx] at m0 m1 m2 m3 n0 n1 n2 n3
      have HK : Hid (∀ w1, Below w.heap.size w w1 → w1.cell? ⟨g1, o1 + j * 4, none⟩ = some (.string x0) ∧ w1.cell? ⟨g1, o1 + j * 4 + 1, none⟩ = some (.bool x1) ∧ w1.cell? ⟨g1, o1 + j * 4 + 2, none⟩ = some (.string x2) ∧ w1.cell? ⟨g1, o1 + j * 4 + 3, none⟩ = some (.string x3) ∧ w1.cell? ⟨g2, o2 + j * 4, none⟩ = some (.string x0) ∧ w1.cell? ⟨g2, o2 + j * 4 + 1, none⟩ = some (.bool x1) ∧ w1.cell? ⟨g2, o2 + j * 4 + 2, none⟩ = some (.string x2) ∧ w1.cell? ⟨g2, o2 + j * 4 + 3, none⟩ = some (.string x3)) := fun w1 b =>
        ⟨(b.cell (p := ⟨g1, o1 + j * 4, none⟩) hg1).trans m0, (b.cell (p := ⟨g1, o1 + j * 4 + 1, none⟩) hg1).trans m1, (b.cell (p := ⟨g1, o1 + j * 4 + 2, none⟩) hg1).trans m2, (b.cell (p := ⟨g1, o1 + j * 4 + 3, none⟩) hg1).trans m3, (b.cell (p := ⟨g2, o2 + j * 4, none⟩) hg2).trans n0, (b.cell (p := ⟨g2, o2 + j * 4 + 1, none⟩) hg2).trans n1, (b.cell (p := ⟨g2, o2 + j * 4 + 2, none⟩) hg2).trans n2, (b.cell (p := ⟨g2, o2 + j * 4 + 3, none⟩) hg2).trans n3⟩
      obtain ⟨k0, k1, k2, k3, p0, p1, p2, p3⟩ := HK.out wr hb
      have BB := hb.drew
      have j0 : (0 : Int) ≤ (j : Int) := by omega
      have j1 : (j : Int) < (l.length : Int) := by omega
      clear m0 m1 m2 m3 n0 n1 n2 n3 hx hb
      go_wp2
      go_region_held3 (fun w' => w'.cell? ⟨g1, o1 + j * 4, none⟩ = some (.string x0) ∧ w'.cell? ⟨g1, o1 + j * 4 + 1, none⟩ = some (.bool x1) ∧ w'.cell? ⟨g1, o1 + j * 4 + 2, none⟩ = some (.string x2) ∧ w'.cell? ⟨g1, o1 + j * 4 + 3, none⟩ = some (.string x3) ∧ w'.cell? ⟨g2, o2 + j * 4, none⟩ = some (.string x0) ∧ w'.cell? ⟨g2, o2 + j * 4 + 1, none⟩ = some (.bool x1) ∧ w'.cell? ⟨g2, o2 + j * 4 + 2, none⟩ = some (.string x2) ∧ w'.cell? ⟨g2, o2 + j * 4 + 3, none⟩ = some (.string x3)) (exact HK.out _ BB) ((go_at_call 42; refine (eqNode_same x0 x1 x2 x3 _).mono ?_; rintro e w3 ⟨rfl, B3⟩; replace BB := BB.trans (B3.mono BB.size)))
      have HBB := hide BB
      clear BB B3 k0 k1 k2 k3 p0 p1 p2 p3
      go_wp2
      go_roundw
      case rel => exact ⟨j + 1, by omega, by go_num, HBB.out⟩
      case measure => simp [intOf]; omega
    · go_wp2
      go_ret
      exact ⟨rfl, hb⟩
end Go.Proofs.YtmjhgfkplolelaaGreat
/- A world that comes in as an argument: how its parts are read. No Go function is spoken of. -/
namespace Go.Proofs.YtmjhgfkplolelaaGreat.Kit
open Go.RowKit
/-- What a world holds: a memory, units, a model, codes, what was kept. -/
structure WD where
  m : MD
  us : List ByteArray
  md : List Nd
  cs : List Int
  kp : List Nd
/-- The parts of a world are read so. -/
structure WR (w : World) (u v iv bv dv pv ov mv cv kv : Value) (D : WD) : Prop where
  m : MR w u v iv bv dv pv D.m
  o : RSt w ov D.us
  a : RNd w mv D.md
  c : RInts w cv D.cs
  k : RNd w kv D.kp
namespace WR
variable {w w' : World} {u v iv bv dv pv ov mv cv kv : Value} {D : WD}
theorem below {B : Nat} (h : WR w u v iv bv dv pv ov mv cv kv D) (hb : Below B w w') (hB : w.heap.size ≤ B) : WR w' u v iv bv dv pv ov mv cv kv D := ⟨h.m.below hb hB, h.o.below hb hB, h.a.below hb hB, h.c.below hb hB, h.k.below hb hB⟩
theorem alloc (h : WR w u v iv bv dv pv ov mv cv kv D) (o : Obj) : WR (w.alloc o) u v iv bv dv pv ov mv cv kv D := h.below ((Below.refl _ w).alloc (Nat.le_refl _) o) (Nat.le_refl _)
theorem form (h : WR w u v iv bv dv pv ov mv cv kv D) : ∃ a1 c1 a2 c2 a3 c3 a4 c4 a5 c5 a6 c6 a7 c7 a8 c8 a9 c9 a10 c10, u = .slice a1 D.m.xs.length c1 ∧ v = .slice a2 D.m.ys.length c2 ∧ iv = .slice a3 D.m.is.length c3 ∧ bv = .slice a4 D.m.bs.length c4 ∧ dv = .slice a5 D.m.fs.length c5 ∧ pv = .slice a6 D.m.ds.length c6 ∧ ov = .slice a7 D.us.length c7 ∧ mv = .slice a8 D.md.length c8 ∧ cv = .slice a9 D.cs.length c9 ∧ kv = .slice a10 D.kp.length c10 := by
  obtain ⟨a1, c1, a2, c2, a3, c3, a4, c4, a5, c5, a6, c6, e1, e2, e3, e4, e5, e6⟩ := h.m.form
  obtain ⟨a7, c7, e7⟩ := h.o.form
  obtain ⟨a8, c8, e8⟩ := h.a.form
  obtain ⟨a9, c9, e9⟩ := h.c.form
  obtain ⟨a10, c10, e10⟩ := h.k.form
  exact ⟨a1, c1, a2, c2, a3, c3, a4, c4, a5, c5, a6, c6, a7, c7, a8, c8, a9, c9, a10, c10, e1, e2, e3, e4, e5, e6, e7, e8, e9, e10⟩
end WR
/-- No list of a world, and no text, is longer than n. -/
structure BigW (n : Nat) (D : WD) : Prop where
  m : BigM n D.m
  u : D.us.length ≤ n
  t : ∀ (j : Nat) (h : j < D.us.length), D.us[j].size ≤ n
  a : D.md.length ≤ n
  an : ∀ (j : Nat) (h : j < D.md.length), D.md[j].1.size ≤ n ∧ D.md[j].2.2.1.size ≤ n ∧ D.md[j].2.2.2.size ≤ n
  c : D.cs.length ≤ n
  k : D.kp.length ≤ n
  kn : ∀ (j : Nat) (h : j < D.kp.length), D.kp[j].1.size ≤ n ∧ D.kp[j].2.2.1.size ≤ n ∧ D.kp[j].2.2.2.size ≤ n
/-- What the law's own limit leaves. -/
structure LimW (D : WD) : Prop where
  m : BigM 1048576 D.m
  u : D.us.length ≤ 1048576
  a : D.md.length ≤ 1048576
  c : D.cs.length ≤ 1048576
  k : D.kp.length ≤ 1048576
/-- What lies from B on stays. -/
def Stay (B : Nat) (w w' : World) : Prop := w.heap.size ≤ w'.heap.size ∧ ∀ k, B ≤ k → k < w.heap.size → w'.heap[k]? = w.heap[k]?
theorem Stay.refl (B : Nat) (w : World) : Stay B w w := ⟨Nat.le_refl _, fun _ _ _ => rfl⟩
theorem Stay.set {B b : Nat} {w w' : World} (h : Stay B w w') (hb : b < B) (j : Nat) (x : Value) : Stay B w (w'.setCell ⟨b, j, none⟩ x) := ⟨Nat.le_trans h.1 (by simp), fun k h1 h2 => (heap_setCell_other _ ⟨b, j, none⟩ k _ (by show k ≠ b; omega)).trans (h.2 k h1 h2)⟩
theorem Stay.of_below (B : Nat) {w w' : World} (h : Below w.heap.size w w') : Stay B w w' := ⟨h.size, fun k _ h2 => h.block k h2⟩
theorem MO.stay {w w' : World} {B : Nat} {u v iv bv dv pv : Value} {m : MD} (h : MO w (fun k => B ≤ k) u v iv bv dv pv m) (hs : Stay B w w') : MO w' (fun k => B ≤ k) u v iv bv dv pv m := h.of_heap hs.2
theorem rowStay {w w' : World} {B : Nat} {e : TypeId} {v : Value} {l : List Value} (h : ROwns w B e v l) (hs : Stay B w w') : ROwns w' B e v l := h.of_heap fun k hk => hs.2 k (h.lt k hk).1 (h.lt k hk).2
end Go.Proofs.YtmjhgfkplolelaaGreat.Kit
namespace Go.Proofs.YtmjhgfkplolelaaGreat
open Go.RowKit Kit
theorem NdB.stay {w w' : World} {B : Nat} {v : Value} {ns : List Nd} (h : NdB w B v ns) (hs : Stay B w w') : NdB w' B v ns := by
  obtain ⟨g, c, e, h1, h2⟩ := h
  exact ⟨g, c, e, (hs.2 g h2 h1.lt).trans h1, h2⟩
theorem NdB.rnd {w : World} {B : Nat} {v : Value} {ns : List Nd} (h : NdB w B v ns) : RNd w v ns := by
  obtain ⟨g, c, rfl, h1, h2⟩ := h
  exact At.rnd h1 c
theorem NdB.base_le {w : World} {B B' : Nat} {v : Value} {ns : List Nd} (h : NdB w B v ns) (hb : B' ≤ B) : NdB w B' v ns := by
  obtain ⟨g, c, e, h1, h2⟩ := h
  exact ⟨g, c, e, h1, Nat.le_trans hb h2⟩
end Go.Proofs.YtmjhgfkplolelaaGreat
/- A world that comes in as an argument, opened. -/
namespace Go.Proofs.YtmjhgfkplolelaaGreat.open_
open Go.ChangeShapes Go.WideShapes Go.ChangeAt Go.RowKit Kit Go.Joins
set_option linter.unusedVariables false
variable {H : Type} {enc : TypeId × Value → H} {W : World}
theorem row_of {w : World} {a : Addr} {len cap : Nat} {ss : List ByteArray} (h1 : len ≤ ss.length) (h : ∀ i, i < ss.length → w.cell? (a.add i) = some (.string (ss.getD i ByteArray.empty))) : RSt w (.slice (some a) len cap) (ss.take len) := by
  refine ⟨some a, cap, by simp; omega, fun j hj => ?_⟩
  have hj' : j < len := by simp at hj; omega
  obtain ⟨b, off, spot⟩ := a
  have hspot : spot = none := by simpa [Addr.add] using World.cell?_spot (h 0 (by omega))
  subst hspot
  have ha : (⟨b, off, none⟩ : Addr).add j = ⟨b, off + j, none⟩ := by cases j <;> simp [Addr.add]
  have hc := h j (by omega)
  rw [ha] at hc
  refine ⟨b, off, rfl, block_lt_of_cell hc, ?_⟩
  rw [hc, List.getD_eq_getElem?_getD, List.getElem?_eq_getElem (by omega)]
  simp
theorem row_open {n : Nat} {v : Value} {y : DataW H × List MemPlace} (h : DataW.trod enc Tryz.prog W 0 (fun _ => true) true n 32 [v] = some y) : ∃ xs : List ByteArray, RSt W v xs ∧ xs.length ≤ maxLen ∧ ∀ (j : Nat) (h : j < xs.length), xs[j].size ≤ maxLen := by
  rcases open_strings Tryz.underlying32 Tryz.underlying9 (by kernel_rfl) h with ⟨hcs, _⟩ | ⟨x, l, c, ss, hcs, _, hl, hm, hn, _, hcell, hsz⟩
  · simp at hcs
    subst hcs
    exact ⟨[], ⟨none, 0, rfl, fun j hj => by simp at hj⟩, by simp, fun j hj => by simp at hj⟩
  · simp at hcs hn
    subst hcs
    exact ⟨_, row_of (by omega) hcell, by simp; omega, fun j hj => hsz _ (List.mem_of_mem_take (List.getElem_mem hj))⟩
set_option maxRecDepth 100000 in
/-- A world, opened. -/
theorem world_open {r : Reach} {b0 : Nat} {v : Value} {d : DataW H} {p : List MemPlace} (hv : Value.okWide Tryz.prog W r b0 40 v) (h : DataW.Trod enc Tryz.prog W 0 (fun _ => true) true 40 v d p) :
    ∃ (u v' iv bv dv pv ov mv cv kv : Value) (D : WD), v = .agg #[u, v', iv, bv, dv, pv, .int .i64 D.m.nx, ov, mv, cv, kv] ∧ WR W u v' iv bv dv pv ov mv cv kv D ∧ BigW maxLen D := by
  obtain ⟨cs, rfl, hsz⟩ := okWide_struct Tryz.underlying40 hv
  have hC : Tryz.prog.cellsOf 40 = 11 := by kernel_rfl
  rw [hC] at hsz
  obtain ⟨l, hl⟩ : ∃ l, cs = List.toArray l := ⟨cs.toList, rfl⟩
  subst hl
  match l, hsz with
  | [c0, c1, c2, c3, c4, c5, c6, c7, c8, c9, c10], _ =>
    obtain ⟨fuel, hf⟩ := h
    obtain ⟨xs, k, hk, hxy, _, hxl, hg⟩ := DataW.trod_struct Tryz.underlying40 hf
    match xs, hxl with
    | [y0, y1, y2, y3], _ =>
      have k36 : Tryz.prog.cellsOf 36 = 8 := by kernel_rfl
      have k37 : Tryz.prog.cellsOf 37 = 1 := by kernel_rfl
      have k38 : Tryz.prog.cellsOf 38 = 1 := by kernel_rfl
      have k31 : Tryz.prog.cellsOf 31 = 7 := by kernel_rfl
      have k34 : Tryz.prog.cellsOf 34 = 1 := by kernel_rfl
      have k32 : Tryz.prog.cellsOf 32 = 1 := by kernel_rfl
      have k28 : Tryz.prog.cellsOf 28 = 4 := by kernel_rfl
      have k22 : Tryz.prog.cellsOf 22 = 1 := by kernel_rfl
      have k29 : Tryz.prog.cellsOf 29 = 1 := by kernel_rfl
      have k3 : Tryz.prog.cellsOf 3 = 1 := by kernel_rfl
      have w0 := hg 0 _ rfl
      have w1 := hg 1 _ rfl
      have w2 := hg 2 _ rfl
      have w3 := hg 3 _ rfl
      simp [Value.cells, k36, k37, k38] at w0 w1 w2 w3
      obtain ⟨f0, f1, fn, hfx, _, v0, v1⟩ := trod_struct2 Tryz.underlying36 w0
      simp [k31, k34] at v0 v1
      obtain ⟨xd, kd, hkd, hxd, _, hxdl, hgd⟩ := DataW.trod_struct Tryz.underlying34 v1
      match xd, hxdl with
      | [yd], _ =>
        have v2 := hgd 0 _ rfl
        simp [k32] at v2
        obtain ⟨xm, km, hkm, hxm, _, hxml, hgm⟩ := DataW.trod_struct Tryz.underlying31 v0
        match xm, hxml with
        | [z0, z1, z2, z3], _ =>
          have g0 := hgm 0 _ rfl
          have g1 := hgm 1 _ rfl
          have g2 := hgm 2 _ rfl
          have g3 := hgm 3 _ rfl
          simp [k28, k22, k29, k3] at g0 g1 g2 g3
          obtain ⟨n0, n1, n2, n, hx, _, h0, h1, h2⟩ := Go.Deep.trod_struct3 Tryz.underlying28 g0
          have q0 : Tryz.prog.cellsOf 24 = 2 := by kernel_rfl
          have q1 : Tryz.prog.cellsOf 25 = 1 := by kernel_rfl
          have q2 : Tryz.prog.cellsOf 26 = 1 := by kernel_rfl
          simp [q0, q1, q2] at h0 h1 h2
          obtain ⟨t0, t1, mm, hz, _, s0, s1⟩ := trod_struct2 Tryz.underlying24 h0
          simp [k22] at s0 s1
          obtain ⟨xl, hx1, hx2⟩ := flags_open s0
          obtain ⟨yl, hy1, hy2⟩ := flags_open s1
          obtain ⟨il, hi1, hi2, hi3⟩ := inos_open h1
          obtain ⟨bl, hb1, hb2, hb3⟩ := blks_open h2
          obtain ⟨fl, hf1, hf2⟩ := flags_open g1
          obtain ⟨dl, hd1, hd2, hd3⟩ := deps_open g2
          obtain ⟨nx, e3, -, fx⟩ := DataW.trod_int Tryz.underlying3 g3
          simp at e3
          obtain ⟨ul, hu1, hu2, hu3⟩ := row_open v2
          obtain ⟨ml, hm1, hm2, hm3⟩ := nodes_open w1
          obtain ⟨cl, hc1, hc2⟩ := ints_open w2
          obtain ⟨kl, hk1, hk2, hk3⟩ := nodes_open w3
          exact ⟨c0, c1, c2, c3, c4, c5, c7, c8, c9, c10, ⟨⟨xl, yl, il, bl, fl, dl, nx⟩, ul, ml, cl, kl⟩, by rw [e3], ⟨⟨⟨hx1, hy1, hi1, hb1⟩, hf1, hd1⟩, hu1, hm1, hc1, hk1⟩, ⟨⟨⟨hx2, hy2, hi2, hi3, hb2, hb3⟩, hf2, hd2, fun j hj => (hd3 j hj).1, fun j hj => (hd3 j hj).2.1⟩, hu2, hu3, hm2, hm3, hc2, hk2, hk3⟩⟩
end Go.Proofs.YtmjhgfkplolelaaGreat.open_
/- laws.szDep, laws.szDepS and laws.szMem by their contracts. -/
namespace Go.Proofs.YtmjhgfkplolelaaGreat
open Go.RowKit Kit
set_option maxRecDepth 100000 in
set_option maxHeartbeats 800000 in
theorem szDep_L (id kd io pt bk sl : Int) (nm : ByteArray) (bt ot : Bool) (af : Int) (a : Option Addr) (n c : Nat) (L : Int) (w : World) (h0 : 0 ≤ L) (hL : L ≤ 1048576) (h1 : n ≤ maxLen) (h2 : nm.size ≤ maxLen) :
    Calls Tryz.prog 83 #[.agg #[.int .i64 id, .int .i64 kd, .int .i64 io, .int .i64 pt, .int .i64 bk, .int .i64 sl, .string nm, .bool bt, .bool ot, .int .i64 af, .slice a n c], .int .i64 L] w fun e w' => ∃ r, e = .returned (.int .i64 r) ∧ (r = -1 ∨ (0 ≤ r ∧ r ≤ L ∧ n ≤ 1048576 ∧ nm.size ≤ 1048576)) ∧ Below w.heap.size w w' := by
  have h3 : n ≤ 9223372036854775807 := h1
  have h4 : nm.size ≤ 9223372036854775807 := h2
  clear h1 h2
  by_cases hn : L - (nm.size : Int) < 0
  · go_enter Tryz.func83, Tryz.ntmps83
    go_wp2
    go_ret
    exact ⟨_, rfl, .inl rfl, by go_grown⟩
  · by_cases hm : L - (nm.size : Int) - (n : Int) < 0
    · go_enter Tryz.func83, Tryz.ntmps83
      go_wp2
      go_ret
      exact ⟨_, rfl, .inl rfl, by go_grown⟩
    · go_enter Tryz.func83, Tryz.ntmps83
      go_wp2
      go_ret
      exact ⟨_, rfl, .inr ⟨by omega, by omega, by omega, by omega⟩, by go_grown⟩
set_option maxRecDepth 100000 in
set_option maxHeartbeats 1600000 in
theorem szDepS_L (v : Value) (xs : List Dp) (L0 : Int) (w : World) (hv : RN KDep w v xs) (h0 : 0 ≤ L0) (h1 : L0 ≤ 1048576) (hlen : xs.length ≤ maxLen) (hbig : ∀ (j : Nat) (h : j < xs.length), xs[j].bl.length ≤ maxLen ∧ xs[j].nm.size ≤ maxLen) :
    Calls Tryz.prog 45 #[v, .int .i64 L0] w fun e w' => ∃ r, e = .returned (.int .i64 r) ∧ (r = -1 ∨ (0 ≤ r ∧ r ≤ L0 ∧ xs.length ≤ 1048576 ∧ ∀ (j : Nat) (h : j < xs.length), xs[j].bl.length ≤ 1048576 ∧ xs[j].nm.size ≤ 1048576)) ∧ Below w.heap.size w w' := by
  obtain ⟨a, c, rfl, -, hc⟩ := hv.dep
  have HC := hide hc
  have HG := hide hbig
  have hl' : xs.length ≤ 9223372036854775807 := hlen
  clear hc hbig hlen hv
  by_cases hn : L0 - (xs.length : Int) < 0
  · go_enter Tryz.func45, Tryz.ntmps45
    go_wp2
    go_ret
    exact ⟨-1, rfl, .inl rfl, Below.refl _ _⟩
  · have hn2 : decide (L0 - (xs.length : Int) < 0) = false := by simp; omega
    go_enter Tryz.func45, Tryz.ntmps45
    go_wp2
    go_loopw [1, 5] (fun x i wr => ∃ (j : Nat) (L : Int), j ≤ xs.length ∧ i = .int .i64 j ∧ x = .int .i64 L ∧ 0 ≤ L ∧ L ≤ L0 ∧ Hid (∀ (k : Nat) (h : k < xs.length), k < j → xs[k].bl.length ≤ 1048576 ∧ xs[k].nm.size ≤ 1048576) ∧ Below w.heap.size w wr) (fun _ i _ => xs.length - (intOf i).toNat)
    case atStart => exact ⟨0, _, Nat.zero_le _, rfl, rfl, by omega, by omega, fun _ _ h => absurd h (Nat.not_lt_zero _), Below.refl _ _⟩
    case round =>
      obtain ⟨j, L, hj, rfl, rfl, hL0, hL1, HS, hb⟩ := hrel
      by_cases hlt : j < xs.length
      · obtain ⟨g, off, p, rfl, hg, m, hp⟩ := HC.out j hlt
        have hgt := HG.out j hlt
        have HS2 : Hid (∀ (n : Nat) (t : ByteArray), xs[j].bl.length = n → xs[j].nm = t → n ≤ 1048576 → t.size ≤ 1048576 → ∀ (k : Nat) (h : k < xs.length), k < j + 1 → xs[k].bl.length ≤ 1048576 ∧ xs[k].nm.size ≤ 1048576) := fun n t e1 e2 h1 h2 k hk hkj => by
          by_cases hkk : k = j
          · subst hkk; rw [e1, e2]; exact ⟨h1, h2⟩
          · exact HS.out k hk (by omega)
        obtain ⟨X, hX⟩ : ∃ X, xs[j] = X := ⟨_, rfl⟩
        rw [hX] at m hp hgt HS2
        obtain ⟨id, kd, io, pt, bk, sl, nm, bt, ot, af, bl⟩ := X
        simp only at hp hgt HS2
        obtain ⟨pa, pc, rfl⟩ := hp.form
        obtain ⟨n, hnl⟩ : ∃ n, bl.length = n := ⟨_, rfl⟩
        rw [hnl] at m hgt HS2
        simp only [DCells] at m
        obtain ⟨m0, m1, m2, m3, m4, m5, m6, m7, m8, m9, m10⟩ := m
        have q0 : wr.cell? ⟨g, off + j * 11, none⟩ = some (.int .i64 id) := (hb.cell (p := ⟨g, off + j * 11, none⟩) hg).trans m0
        have q1 : wr.cell? ⟨g, off + j * 11 + 1, none⟩ = some (.int .i64 kd) := (hb.cell (p := ⟨g, off + j * 11 + 1, none⟩) hg).trans m1
        have q2 : wr.cell? ⟨g, off + j * 11 + 2, none⟩ = some (.int .i64 io) := (hb.cell (p := ⟨g, off + j * 11 + 2, none⟩) hg).trans m2
        have q3 : wr.cell? ⟨g, off + j * 11 + 3, none⟩ = some (.int .i64 pt) := (hb.cell (p := ⟨g, off + j * 11 + 3, none⟩) hg).trans m3
        have q4 : wr.cell? ⟨g, off + j * 11 + 4, none⟩ = some (.int .i64 bk) := (hb.cell (p := ⟨g, off + j * 11 + 4, none⟩) hg).trans m4
        have q5 : wr.cell? ⟨g, off + j * 11 + 5, none⟩ = some (.int .i64 sl) := (hb.cell (p := ⟨g, off + j * 11 + 5, none⟩) hg).trans m5
        have q6 : wr.cell? ⟨g, off + j * 11 + 6, none⟩ = some (.string nm) := (hb.cell (p := ⟨g, off + j * 11 + 6, none⟩) hg).trans m6
        have q7 : wr.cell? ⟨g, off + j * 11 + 7, none⟩ = some (.bool bt) := (hb.cell (p := ⟨g, off + j * 11 + 7, none⟩) hg).trans m7
        have q8 : wr.cell? ⟨g, off + j * 11 + 8, none⟩ = some (.bool ot) := (hb.cell (p := ⟨g, off + j * 11 + 8, none⟩) hg).trans m8
        have q9 : wr.cell? ⟨g, off + j * 11 + 9, none⟩ = some (.int .i64 af) := (hb.cell (p := ⟨g, off + j * 11 + 9, none⟩) hg).trans m9
        have q10 : wr.cell? ⟨g, off + j * 11 + 10, none⟩ = some (.slice pa n pc) := (hb.cell (p := ⟨g, off + j * 11 + 10, none⟩) hg).trans m10
        have HGT := hide hgt
        have HB := hide hb
        have hsz := hb.size
        have j0 : (0 : Int) ≤ (j : Int) := by omega
        have j1 : (j : Int) < (xs.length : Int) := by omega
        clear m0 m1 m2 m3 m4 m5 m6 m7 m8 m9 m10 hb hgt hp hX hnl
        go_wp2_with (go_at_call 83; refine (szDep_L id kd io pt bk sl nm bt ot af _ n _ _ _ hL0 (by omega) HGT.out.1 HGT.out.2).mono ?_; rintro e w1 ⟨r, rfl, hr, B1⟩; have HB1 := hide (HB.out.trans (B1.mono hsz)); have HRR := hide hr; have hr1 : -1 ≤ r := (by { rcases hr with h | h <;> omega }); clear hr B1)
        · go_ret
          exact ⟨-1, rfl, .inl rfl, HB1.out⟩
        · have hr0 : 0 ≤ r := by omega
          have hrr : r ≤ L ∧ n ≤ 1048576 ∧ nm.size ≤ 1048576 := by rcases HRR.out with h | h <;> omega
          go_roundw
          case rel => exact ⟨j + 1, r, by omega, by go_num, rfl, hr0, by omega, HS2.out n nm rfl rfl hrr.2.1 hrr.2.2, HB1.out⟩
          case measure => simp [intOf]; omega
      · have HB := hide hb
        clear hb
        go_wp2
        go_ret
        exact ⟨L, rfl, .inr ⟨hL0, hL1, by omega, fun k hk => HS.out k hk (by omega)⟩, HB.out⟩
theorem szBoolS_L (a : Option Addr) (n c : Nat) (L : Int) (w : World) (h0 : 0 ≤ L) (hL : L ≤ 1048576) (h1 : n ≤ maxLen) :
    Calls Tryz.prog 44 #[.slice a n c, .int .i64 L] w fun e w' => ∃ r, e = .returned (.int .i64 r) ∧ (r = -1 ∨ (0 ≤ r ∧ r ≤ L ∧ n ≤ 1048576)) ∧ Below w.heap.size w w' := by
  have h3 : n ≤ 9223372036854775807 := h1
  clear h1
  by_cases hn : L - (n : Int) < 0
  · go_enter Tryz.func44, Tryz.ntmps44
    go_wp2
    go_ret
    exact ⟨_, rfl, .inl rfl, by go_grown⟩
  · go_enter Tryz.func44, Tryz.ntmps44
    go_wp2
    go_ret
    exact ⟨_, rfl, .inr ⟨by omega, by omega, by omega⟩, by go_grown⟩
set_option maxRecDepth 100000 in
set_option maxHeartbeats 1600000 in
theorem szMem_L (u v iv bv dv pv : Value) (m : MD) (L0 : Int) (w : World) (h : MR w u v iv bv dv pv m) (hL : 0 ≤ L0) (hL1 : L0 ≤ 1048576) (hB : BigM maxLen m) :
    Calls Tryz.prog 21 #[.agg #[u, v, iv, bv, dv, pv, .int .i64 m.nx], .int .i64 L0] w fun e w' => ∃ r, e = .returned (.int .i64 r) ∧ (r = -1 ∨ (0 ≤ r ∧ r ≤ L0 ∧ BigM 1048576 m)) ∧ Below w.heap.size w w' := by
  have H := hide h
  have HG := hide hB
  have hfl : m.fs.length ≤ 9223372036854775807 := hB.f
  obtain ⟨a1, c1, a2, c2, a3, c3, a4, c4, a5, c5, a6, c6, rfl, rfl, rfl, rfl, rfl, rfl⟩ := h.form
  clear h hB
  go_enter Tryz.func21, Tryz.ntmps21
  go_wp2_with fail
  refine (szDisk_L _ _ _ _ m.xs m.ys m.is m.bs _ _ (H.out.d.alloc _).a (H.out.d.alloc _).b (H.out.d.alloc _).i (H.out.d.alloc _).k hL hL1 HG.out.d).mono ?_
  rintro e w1 ⟨r, rfl, hr, B1⟩
  have K0 : AtC w1 w.heap.size 31 #[.slice a1 m.xs.length c1, .slice a2 m.ys.length c2, .slice a3 m.is.length c3, .slice a4 m.bs.length c4, .slice a5 m.fs.length c5, .slice a6 m.ds.length c6, .int .i64 m.nx] := (AtC.new w 31 _).over B1
  have BW : Below w.heap.size w w1 := ((Below.refl _ w).alloc (Nat.le_refl _) _).trans (B1.mono (by simp))
  have p4 : w1.cell? ⟨w.heap.size, 4, none⟩ = some (.slice a5 m.fs.length c5) := K0.cell 4
  have p5 : w1.cell? ⟨w.heap.size, 5, none⟩ = some (.slice a6 m.ds.length c6) := K0.cell 5
  have HR := hide hr
  have HBW := hide BW
  have HKL := hide K0.lt
  have hr1 : -1 ≤ r := by rcases hr with h | h <;> omega
  have hr2 : r ≤ 1048576 := by rcases hr with h | h <;> omega
  clear hr B1 K0 BW
  by_cases hneg : r < 0
  · go_wp2
    go_ret
    exact ⟨_, rfl, .inl rfl, HBW.out⟩
  · have HD := hide (HR.out.resolve_left (by omega))
    have n1 : decide (r < 0) = false := by simp; omega
    go_wp2_with fail
    refine (szBoolS_L _ m.fs.length _ _ w1 (by omega) (by omega) HG.out.f).mono ?_
    rintro e w1b ⟨r2, rfl, hr2', B1b⟩
    have HBW2 := hide (HBW.out.trans (B1b.mono HBW.out.size))
    have p5b : w1b.cell? ⟨w.heap.size, 5, none⟩ = some (.slice a6 m.ds.length c6) := (B1b.cell (p := ⟨w.heap.size, 5, none⟩) (by have := HBW.out.size; have := HKL.out; simpa using this)).trans p5
    have HR2 := hide hr2'
    have hr2a : -1 ≤ r2 := by rcases hr2' with h | h <;> omega
    have hr2b : r2 ≤ 1048576 := by rcases hr2' with h | h <;> omega
    clear hr2' B1b p4 p5 n1
    by_cases hf : r2 < 0
    · go_wp2
      go_ret
      exact ⟨_, rfl, .inl rfl, HBW2.out⟩
    · have hf2 := HR2.out.resolve_left (by omega)
      have HF2 := hide hf2
      have n2 : decide (r2 < 0) = false := by simp; omega
      clear hf2
      go_wp2_with fail
      refine (szDepS_L _ m.ds _ _ (H.out.p.below HBW2.out (Nat.le_refl _)) (by omega) (by omega) HG.out.l (fun j hj => ⟨HG.out.b j hj, HG.out.t j hj⟩)).mono ?_
      rintro e w2 ⟨r3, rfl, hr3, B2⟩
      have HB2 := hide (HBW2.out.trans (B2.mono HBW2.out.size))
      have HR3 := hide hr3
      have hr4 : -1 ≤ r3 := by rcases hr3 with h | h <;> omega
      clear hr3 B2 p5b n2
      by_cases hn3 : r3 < 0
      · go_wp2
        go_ret
        exact ⟨_, rfl, .inl rfl, HB2.out⟩
      · have hh := HR3.out.resolve_left (by omega)
        have hd := HD.out
        have hf3 := HF2.out
        have HF : Hid (0 ≤ r3 ∧ r3 ≤ L0 ∧ BigM 1048576 m) := ⟨by omega, by omega, hd.2.2, hf3.2.2, hh.2.2.1, fun j hj => (hh.2.2.2 j hj).1, fun j hj => (hh.2.2.2 j hj).2⟩
        clear hh hd hf3
        go_wp2
        go_ret
        exact ⟨_, rfl, .inr HF.out, HB2.out⟩
end Go.Proofs.YtmjhgfkplolelaaGreat
/- laws.szIntS, szFs and szWorld by their contracts. -/
namespace Go.Proofs.YtmjhgfkplolelaaGreat
open Go.RowKit Kit
set_option maxHeartbeats 800000 in
theorem szInts_L (a : Option Addr) (n c : Nat) (L : Int) (w : World) (h0 : 0 ≤ L) (hL : L ≤ 1048576) (h1 : n ≤ maxLen) :
    Calls Tryz.prog 11 #[.slice a n c, .int .i64 L] w fun e w' => ∃ r, e = .returned (.int .i64 r) ∧ (r = -1 ∨ (0 ≤ r ∧ r ≤ 1048576 ∧ n ≤ 1048576)) ∧ Below w.heap.size w w' := by
  have h3 : n ≤ 9223372036854775807 := h1
  clear h1
  go_enter Tryz.func11, Tryz.ntmps11
  by_cases q0 : L - (n : Int) < 0
  · go_wp2
    go_ret
    exact ⟨-1, rfl, .inl rfl, Below.refl _ _⟩
  · have n0 : decide (L - (n : Int) < 0) = false := by simp; omega
    go_wp2
    go_ret
    exact ⟨_, rfl, .inr ⟨by omega, by omega, by omega⟩, Below.refl _ _⟩
set_option maxRecDepth 100000 in
set_option maxHeartbeats 3200000 in
theorem szFs_L (u v iv bv dv pv ov : Value) (D : WD) (L0 : Int) (w : World) (h : MR w u v iv bv dv pv D.m) (h2 : RSt w ov D.us) (hL : 0 ≤ L0) (hL1 : L0 ≤ 1048576) (hB : BigW maxLen D) :
    Calls Tryz.prog 9 #[.agg #[u, v, iv, bv, dv, pv, .int .i64 D.m.nx, ov], .int .i64 L0] w fun e w' => ∃ r, e = .returned (.int .i64 r) ∧ (r = -1 ∨ (0 ≤ r ∧ r ≤ 1048576 ∧ BigM 1048576 D.m ∧ D.us.length ≤ 1048576)) ∧ Below w.heap.size w w' := by
  have H := hide h
  have H2 := hide h2
  obtain ⟨a1, c1, a2, c2, a3, c3, a4, c4, a5, c5, a6, c6, rfl, rfl, rfl, rfl, rfl, rfl⟩ := h.form
  obtain ⟨a7, c7, rfl⟩ := h2.form
  clear h2
  have HG := hide hB
  clear hB h
  have K0 := hide (AtC.new w 36 #[.slice a1 D.m.xs.length c1, .slice a2 D.m.ys.length c2, .slice a3 D.m.is.length c3, .slice a4 D.m.bs.length c4, .slice a5 D.m.fs.length c5, .slice a6 D.m.ds.length c6, .int .i64 D.m.nx, .slice a7 D.us.length c7])
  have B0 : Hid (Below w.heap.size w (w.alloc (.cells #[.slice a1 D.m.xs.length c1, .slice a2 D.m.ys.length c2, .slice a3 D.m.is.length c3, .slice a4 D.m.bs.length c4, .slice a5 D.m.fs.length c5, .slice a6 D.m.ds.length c6, .int .i64 D.m.nx, .slice a7 D.us.length c7] 36))) := (Below.refl _ w).alloc (Nat.le_refl _) _
  go_enter Tryz.func9, Tryz.ntmps9
  go_wp2_with fail
  refine (szMem_L _ _ _ _ _ _ D.m _ _ (H.out.below B0.out (Nat.le_refl _)) hL hL1 HG.out.m).mono ?_
  rintro e w1 ⟨r1, rfl, q1, b1⟩
  have K1 := hide (K0.out.over b1)
  have B1 := hide (B0.out.trans (b1.mono B0.out.size))
  have R1 := hide q1
  have o1 : -1 ≤ r1 := by rcases q1 with h | h <;> omega
  have p1 : r1 ≤ 1048576 := by rcases q1 with h | h <;> omega
  have y1_7 : w1.cell? ⟨w.heap.size, 7, none⟩ = some (.slice a7 D.us.length c7) := K1.out.cell 7
  clear q1 b1
  by_cases g1 : r1 < 0
  · go_wp2
    go_ret
    exact ⟨_, rfl, .inl rfl, B1.out⟩
  · have Z1 := hide (R1.out.resolve_left (by omega))
    have n1 : decide (r1 < 0) = false := by simp; omega
    go_wp2_with fail
    refine (szD_any _ D.us _ _ (by omega) (by omega) (H2.out.below B1.out (Nat.le_refl _)) HG.out.u HG.out.t).mono ?_
    rintro e w2 ⟨r2, rfl, q2, b2⟩
    have K2 := hide (K1.out.over b2)
    have B2 := hide (B1.out.trans (b2.mono B1.out.size))
    have R2 := hide q2
    have o2 : -1 ≤ r2 := by rcases q2 with h | h <;> omega
    have p2 : r2 ≤ 1048576 := by rcases q2 with h | h <;> omega
    clear q2 b2 y1_7
    by_cases g2 : r2 < 0
    · go_wp2
      go_ret
      exact ⟨_, rfl, .inl rfl, B2.out⟩
    · have Z2 := hide (R2.out.resolve_left (by omega))
      have n2 : decide (r2 < 0) = false := by simp; omega
      clear n1
      go_wp2
      go_ret
      exact ⟨_, rfl, .inr ⟨by omega, by omega, Z1.out.2.2, Z2.out.2.2.1⟩, B2.out⟩
set_option maxRecDepth 100000 in
set_option maxHeartbeats 3200000 in
theorem szWorld_L (u v iv bv dv pv ov mv cv kv : Value) (D : WD) (L0 : Int) (w : World) (h : WR w u v iv bv dv pv ov mv cv kv D) (hL : 0 ≤ L0) (hL1 : L0 ≤ 1048576) (hB : BigW maxLen D) :
    Calls Tryz.prog 4 #[.agg #[u, v, iv, bv, dv, pv, .int .i64 D.m.nx, ov, mv, cv, kv], .int .i64 L0] w fun e w' => ∃ r, e = .returned (.int .i64 r) ∧ (r = -1 ∨ (0 ≤ r ∧ r ≤ 1048576 ∧ LimW D)) ∧ Below w.heap.size w w' := by
  have H := hide h
  obtain ⟨a1, c1, a2, c2, a3, c3, a4, c4, a5, c5, a6, c6, a7, c7, a8, c8, a9, c9, a10, c10, rfl, rfl, rfl, rfl, rfl, rfl, rfl, rfl, rfl, rfl⟩ := h.form
  have HG := hide hB
  clear hB h
  have K0 := hide (AtC.new w 40 #[.slice a1 D.m.xs.length c1, .slice a2 D.m.ys.length c2, .slice a3 D.m.is.length c3, .slice a4 D.m.bs.length c4, .slice a5 D.m.fs.length c5, .slice a6 D.m.ds.length c6, .int .i64 D.m.nx, .slice a7 D.us.length c7, .slice a8 D.md.length c8, .slice a9 D.cs.length c9, .slice a10 D.kp.length c10])
  have B0 : Hid (Below w.heap.size w (w.alloc (.cells #[.slice a1 D.m.xs.length c1, .slice a2 D.m.ys.length c2, .slice a3 D.m.is.length c3, .slice a4 D.m.bs.length c4, .slice a5 D.m.fs.length c5, .slice a6 D.m.ds.length c6, .int .i64 D.m.nx, .slice a7 D.us.length c7, .slice a8 D.md.length c8, .slice a9 D.cs.length c9, .slice a10 D.kp.length c10] 40))) := (Below.refl _ w).alloc (Nat.le_refl _) _
  go_enter Tryz.func4, Tryz.ntmps4
  go_wp2_with fail
  refine (szFs_L _ _ _ _ _ _ _ D _ _ (H.out.m.below B0.out (Nat.le_refl _)) (H.out.o.below B0.out (Nat.le_refl _)) hL hL1 HG.out).mono ?_
  rintro e w1 ⟨r1, rfl, q1, b1⟩
  have K1 := hide (K0.out.over b1)
  have B1 := hide (B0.out.trans (b1.mono B0.out.size))
  have R1 := hide q1
  have o1 : -1 ≤ r1 := by rcases q1 with h | h <;> omega
  have p1 : r1 ≤ 1048576 := by rcases q1 with h | h <;> omega
  have y1_8 : w1.cell? ⟨w.heap.size, 8, none⟩ = some (.slice a8 D.md.length c8) := K1.out.cell 8
  clear q1 b1
  by_cases g1 : r1 < 0
  · go_wp2
    go_ret
    exact ⟨_, rfl, .inl rfl, B1.out⟩
  · have Z1 := hide (R1.out.resolve_left (by omega))
    have n1 : decide (r1 < 0) = false := by simp; omega
    go_wp2_with fail
    refine (szNodeS_any _ D.md _ _ (H.out.a.below B1.out (Nat.le_refl _)) (by omega) (by omega) HG.out.a HG.out.an).mono ?_
    rintro e w2 ⟨r2, rfl, q2, b2⟩
    have K2 := hide (K1.out.over b2)
    have B2 := hide (B1.out.trans (b2.mono B1.out.size))
    have R2 := hide q2
    have o2 : -1 ≤ r2 := by rcases q2 with h | h <;> omega
    have p2 : r2 ≤ 1048576 := by rcases q2 with h | h <;> omega
    have y2_9 : w2.cell? ⟨w.heap.size, 9, none⟩ = some (.slice a9 D.cs.length c9) := K2.out.cell 9
    clear q2 b2 y1_8
    by_cases g2 : r2 < 0
    · go_wp2
      go_ret
      exact ⟨_, rfl, .inl rfl, B2.out⟩
    · have Z2 := hide (R2.out.resolve_left (by omega))
      have n2 : decide (r2 < 0) = false := by simp; omega
      clear n1
      go_wp2_with fail
      refine (szInts_L _ _ _ _ _ (by omega) (by omega) HG.out.c).mono ?_
      rintro e w3 ⟨r3, rfl, q3, b3⟩
      have K3 := hide (K2.out.over b3)
      have B3 := hide (B2.out.trans (b3.mono B2.out.size))
      have R3 := hide q3
      have o3 : -1 ≤ r3 := by rcases q3 with h | h <;> omega
      have p3 : r3 ≤ 1048576 := by rcases q3 with h | h <;> omega
      have y3_10 : w3.cell? ⟨w.heap.size, 10, none⟩ = some (.slice a10 D.kp.length c10) := K3.out.cell 10
      clear q3 b3 y2_9
      by_cases g3 : r3 < 0
      · go_wp2
        go_ret
        exact ⟨_, rfl, .inl rfl, B3.out⟩
      · have Z3 := hide (R3.out.resolve_left (by omega))
        have n3 : decide (r3 < 0) = false := by simp; omega
        clear n2
        go_wp2_with fail
        refine (szNodeS_any _ D.kp _ _ (H.out.k.below B3.out (Nat.le_refl _)) (by omega) (by omega) HG.out.k HG.out.kn).mono ?_
        rintro e w4 ⟨r4, rfl, q4, b4⟩
        have K4 := hide (K3.out.over b4)
        have B4 := hide (B3.out.trans (b4.mono B3.out.size))
        have R4 := hide q4
        have o4 : -1 ≤ r4 := by rcases q4 with h | h <;> omega
        have p4 : r4 ≤ 1048576 := by rcases q4 with h | h <;> omega
        clear q4 b4 y3_10
        by_cases g4 : r4 < 0
        · go_wp2
          go_ret
          exact ⟨_, rfl, .inl rfl, B4.out⟩
        · have Z4 := hide (R4.out.resolve_left (by omega))
          have n4 : decide (r4 < 0) = false := by simp; omega
          clear n3
          go_wp2
          go_ret
          exact ⟨_, rfl, .inr ⟨by omega, by omega, ⟨Z1.out.2.2.1, Z1.out.2.2.2, Z2.out.2.2, Z3.out.2.2, Z4.out.2.2⟩⟩, B4.out⟩
end Go.Proofs.YtmjhgfkplolelaaGreat
/- Those that lean, while they are marked: what becomes of the list. No Go function is spoken of. -/
namespace Go.Proofs.YtmjhgfkplolelaaGreat.Kit
open Go.RowKit
/-- Some cells from o on are stored. -/
def setCs (w : World) (g o : Nat) : List (Nat × Value) → World
  | [] => w
  | p :: r => setCs (w.setCell ⟨g, o + p.1, none⟩ p.2) g o r
def rowCs (t : Row) : List (Nat × Value) → Row
  | [] => t
  | p :: r => rowCs (t.set p.1 p.2) r
theorem setCs_other (g o : Nat) (ps : List (Nat × Value)) : ∀ (w : World) (k : Nat), k ≠ g → (setCs w g o ps).heap[k]? = w.heap[k]? := by
  induction ps with
  | nil => exact fun _ _ _ => rfl
  | cons p r ih => exact fun w k hk => (ih _ k hk).trans (heap_setCell_other w ⟨g, o + p.1, none⟩ k p.2 hk)
theorem setCs_size (g o : Nat) (ps : List (Nat × Value)) : ∀ (w : World), (setCs w g o ps).heap.size = w.heap.size := by
  induction ps with
  | nil => exact fun _ => rfl
  | cons p r ih => exact fun w => (ih _).trans (by simp)
theorem setCs_same (g o : Nat) (ps : List (Nat × Value)) : ∀ (w : World), (setCs w g o ps).os = w.os ∧ (setCs w g o ps).tape = w.tape ∧ (setCs w g o ps).output = w.output := by
  induction ps with
  | nil => exact fun _ => ⟨rfl, rfl, rfl⟩
  | cons p r ih => exact fun w => ih _
theorem setCs_chg (g o : Nat) (ps : List (Nat × Value)) {S : Nat → Prop} (hg : S g) (w : World) : Chg S w (setCs w g o ps) :=
  ⟨(setCs_same g o ps w).1, (setCs_same g o ps w).2.1, (setCs_same g o ps w).2.2, by rw [setCs_size]; exact Nat.le_refl _, fun k _ hn => setCs_other g o ps w k (fun e => hn (e ▸ hg))⟩
theorem rowCs_length (ps : List (Nat × Value)) : ∀ (t : Row), (rowCs t ps).length = t.length := by
  induction ps with
  | nil => exact fun _ => rfl
  | cons p r ih => exact fun t => (ih _).trans (by simp)
theorem NOwns.setCs {g cap : Nat} {e : TypeId} {n : Nat} (k : Nat) (ps : List (Nat × Value)) : ∀ (w : World) (l : List Row) (hk : k < l.length), (∀ p ∈ ps, p.1 < n) → NOwns w e n (.slice (some ⟨g, 0, none⟩) l.length cap) l →
    NOwns (setCs w g (k * n) ps) e n (.slice (some ⟨g, 0, none⟩) l.length cap) (l.set k (rowCs l[k] ps)) := by
  induction ps with
  | nil =>
    intro w l hk _ h
    simp only [rowCs, List.set_getElem_self]
    exact h
  | cons p r ih =>
    intro w l hk hp h
    have h1 := h.set k p.1 hk (hp p (by simp)) p.2
    have h2 : NOwns (w.setCell ⟨g, k * n + p.1, none⟩ p.2) e n (.slice (some ⟨g, 0, none⟩) (l.set k (l[k].set p.1 p.2)).length cap) (l.set k (l[k].set p.1 p.2)) := by rw [List.length_set]; exact h1
    have h3 := ih _ _ (by simpa using hk) (fun q hq => hp q (by simp [hq])) h2
    simp only [List.length_set, List.getElem_set_self, List.set_set] at h3
    exact h3
theorem NOwns.deps {w : World} {v : Value} {l : List Row} (h : NOwns w 145 11 v l) (k : Nat) (hk : k < l.length) {d : Dp} {p : Value} (hd : l[k] = d.row p) {g n cap : Nat} (hv : v = .slice (some ⟨g, 0, none⟩) n cap) : DCells w g (k * 11) d p ∧ ∀ j, w.frozen? ⟨g, j, none⟩ = false := by
  obtain ⟨g', cap', e, h1, h2, -⟩ := h.at k hk
  rw [hv] at e
  simp only [Value.slice.injEq, Option.some.injEq, Addr.mk.injEq] at e
  obtain ⟨⟨rfl, -⟩, -⟩ := e
  exact ⟨DCells.of fun i hi => by rw [h1 i hi, hd], h2⟩
/-- One that leans is marked: its first six cells, then (in a grown world) four more, then its list. -/
theorem GN.markD {w w2 : World} {S : Nat → Prop} {v : Value} {ts : List Row} {xs : List Dp} (h : GN KDep w S v ts xs) {g n cap : Nat} (hv : v = .slice (some ⟨g, 0, none⟩) n cap) (j : Nat) (hj : j < ts.length) {d : Dp} {p : Value} (hd : ts[j] = d.row p) (a0 a1 a2 a3 a4 a5 : Int)
    (hb : Below (setCs w g (j * 11) [(0, .int .i64 a0), (1, .int .i64 a1), (2, .int .i64 a2), (3, .int .i64 a3), (4, .int .i64 a4), (5, .int .i64 a5)]).heap.size (setCs w g (j * 11) [(0, .int .i64 a0), (1, .int .i64 a1), (2, .int .i64 a2), (3, .int .i64 a3), (4, .int .i64 a4), (5, .int .i64 a5)]) w2) :
    DCells w2 g (j * 11) ⟨a0, a1, a2, a3, a4, a5, d.nm, d.bt, d.ot, d.af, d.bl⟩ p ∧ (∀ i, w2.frozen? ⟨g, i, none⟩ = false) ∧
    ∀ (t : ByteArray) (b7 b8 : Bool) (a9 : Int) (l l' : List Int), ROwns w 0 3 p (ic l) →
      ROwns (setCs w2 g (j * 11) [(6, .string t), (7, .bool b7), (8, .bool b8), (9, .int .i64 a9)]) 0 3 p (ic l) ∧
      ∀ w4, ROwns w4 0 3 p (ic l') → (setCs w2 g (j * 11) [(6, .string t), (7, .bool b7), (8, .bool b8), (9, .int .i64 a9)]).grownBy w4 p.ownBlock →
        GN KDep w4 S v (ts.set j ((⟨a0, a1, a2, a3, a4, a5, t, b7, b8, a9, l'⟩ : Dp).row p)) (xs.set j ⟨a0, a1, a2, a3, a4, a5, t, b7, b8, a9, l'⟩) ∧ Chg S w w4 := by
  have hn : n = ts.length := h.len_of hv
  subst hn
  have hrow : NOwns w 145 11 (.slice (some ⟨g, 0, none⟩) ts.length cap) ts := by rw [← hv]; exact h.row
  have hgw : g < w.heap.size := hrow.lt g rfl
  have hSg : S g := h.so g (by rw [hv]; rfl)
  have hne : ∀ m, p.ownBlock = some m → m ≠ g := fun m hm e => h.out j hj m (by rw [hd]; exact hm) (by rw [hv, e]; rfl)
  have hpS : ∀ m, p.ownBlock = some m → S m := fun m hm => h.si j hj m (by rw [hd]; exact hm)
  have r1 := hrow.setCs j [(0, .int .i64 a0), (1, .int .i64 a1), (2, .int .i64 a2), (3, .int .i64 a3), (4, .int .i64 a4), (5, .int .i64 a5)] w ts hj (by simp)
  rw [hd] at r1
  have c1 : Chg S w (setCs w g (j * 11) [(0, .int .i64 a0), (1, .int .i64 a1), (2, .int .i64 a2), (3, .int .i64 a3), (4, .int .i64 a4), (5, .int .i64 a5)]) := setCs_chg g _ _ hSg w
  have o1 := fun k hk => setCs_other g (j * 11) [(0, .int .i64 a0), (1, .int .i64 a1), (2, .int .i64 a2), (3, .int .i64 a3), (4, .int .i64 a4), (5, .int .i64 a5)] w k hk
  have s1 := setCs_size g (j * 11) [(0, .int .i64 a0), (1, .int .i64 a1), (2, .int .i64 a2), (3, .int .i64 a3), (4, .int .i64 a4), (5, .int .i64 a5)] w
  generalize setCs w g (j * 11) [(0, .int .i64 a0), (1, .int .i64 a1), (2, .int .i64 a2), (3, .int .i64 a3), (4, .int .i64 a4), (5, .int .i64 a5)] = W1 at *
  have r2 : NOwns w2 145 11 (.slice (some ⟨g, 0, none⟩) ts.length cap) (ts.set j ((⟨a0, a1, a2, a3, a4, a5, d.nm, d.bt, d.ot, d.af, d.bl⟩ : Dp).row p)) := r1.of_heap fun k hk => hb.block k (r1.lt k hk)
  have hb2 := hb.size
  have q := r2.deps j (by simpa using hj) (d := ⟨a0, a1, a2, a3, a4, a5, d.nm, d.bt, d.ot, d.af, d.bl⟩) (p := p) (by rw [List.getElem_set_self]) rfl
  refine ⟨q.1, q.2, fun t b7 b8 a9 l l' hO => ?_⟩
  have hl2 : (ts.set j ((⟨a0, a1, a2, a3, a4, a5, d.nm, d.bt, d.ot, d.af, d.bl⟩ : Dp).row p)).length = ts.length := by simp
  have r3 := NOwns.setCs (g := g) (cap := cap) (e := 145) (n := 11) j [(6, .string t), (7, .bool b7), (8, .bool b8), (9, .int .i64 a9)] w2 (ts.set j ((⟨a0, a1, a2, a3, a4, a5, d.nm, d.bt, d.ot, d.af, d.bl⟩ : Dp).row p)) (by simpa using hj) (by simp) (by rw [hl2]; exact r2)
  simp only [List.length_set, List.getElem_set_self, List.set_set] at r3
  have c3 : Chg S w2 (setCs w2 g (j * 11) [(6, .string t), (7, .bool b7), (8, .bool b8), (9, .int .i64 a9)]) := setCs_chg g _ _ hSg w2
  have o3 := fun k hk => setCs_other g (j * 11) [(6, .string t), (7, .bool b7), (8, .bool b8), (9, .int .i64 a9)] w2 k hk
  have s3 := setCs_size g (j * 11) [(6, .string t), (7, .bool b7), (8, .bool b8), (9, .int .i64 a9)] w2
  generalize setCs w2 g (j * 11) [(6, .string t), (7, .bool b7), (8, .bool b8), (9, .int .i64 a9)] = W3 at *
  have hoth : ∀ k, k < w.heap.size → k ≠ g → W3.heap[k]? = w.heap[k]? := fun k hk hkg => ((o3 k hkg).trans (hb.block k (by omega))).trans (o1 k hkg)
  refine ⟨hO.of_heap fun m hm => hoth m (hO.lt m hm).2 (hne m hm), fun w4 hr hg => ⟨?_, ?_⟩⟩
  · have hs4 := hg.size
    have r4 : NOwns w4 145 11 v (ts.set j ((⟨a0, a1, a2, a3, a4, a5, t, b7, b8, a9, l'⟩ : Dp).row p)) := by
      rw [hv]
      have : NOwns w4 145 11 (.slice (some ⟨g, 0, none⟩) ts.length cap) (ts.set j (rowCs ((⟨a0, a1, a2, a3, a4, a5, d.nm, d.bt, d.ot, d.af, d.bl⟩ : Dp).row p) [(6, .string t), (7, .bool b7), (8, .bool b8), (9, .int .i64 a9)])) := r3.of_heap fun k hk => by
        have e : k = g := by simpa [Value.ownBlock] using hk.symm
        subst e
        exact hg.block k (by omega) (fun e => hne k e.symm rfl)
      exact this
    exact h.turn j hj _ _ r4 ⟨p, rfl, hr⟩ (fun k hk h1 h2 => (hg.block k (by omega) (fun e => h2 (by rw [hd]; exact e.symm))).trans (hoth k hk (fun e => h1 (by rw [hv, e]; rfl)))) (fun k hk => .inl (by rw [hd]; exact hk)) (fun k hk => hk) (fun k hk => hpS k hk)
  · exact ((c1.trans (Chg.of_below hb)).trans c3).trans (Chg.of_grown hg hpS)
end Go.Proofs.YtmjhgfkplolelaaGreat.Kit
/- laws.toDep, laws.toDepS and laws.toMem by their contracts. -/
namespace Go.Proofs.YtmjhgfkplolelaaGreat.Kit
open Go.RowKit
theorem made_n (Z : Row) (hZ : 0 < Z.length) (n : Nat) : (madeCells Z.toArray (n * Z.length)).toList = (List.replicate n Z).flatten := by
  have he : Even Z.length (List.replicate n Z) := fun t ht => by rw [List.eq_of_mem_replicate ht]
  apply List.ext_getElem?
  intro j
  by_cases hj : j < n * Z.length
  · have e : (madeCells Z.toArray (n * Z.length)).toList[j]? = some (Z.toArray[j % Z.length]!) := by simp [madeCells, hj]
    have hq : j / Z.length < n := (Nat.div_lt_iff_lt_mul hZ).2 hj
    have hm := Nat.mod_lt j hZ
    have k := flat_at he (j / Z.length) (j % Z.length) (by simpa using hq) hm
    rw [show j / Z.length * Z.length + j % Z.length = j by rw [Nat.mul_comm]; exact Nat.div_add_mod j Z.length] at k
    rw [e, k, List.getElem_replicate, List.getElem?_eq_getElem hm]
    simp [hm]
  · rw [List.getElem?_eq_none (by simp [madeCells]; omega), List.getElem?_eq_none (by rw [flat_length he]; simp; omega)]
/-- One that leans without anything. -/
def zDp : Dp := ⟨0, 0, 0, 0, 0, 0, ⟨#[]⟩, false, false, 0, []⟩
def zRow : Row := zDp.row (.slice none 0 0)
theorem GN.made (w : World) (n : Nat) (hm : n ≤ maxLen) : GN KDep (w.alloc (.cells (madeCells zRow.toArray (n * 11)) 145)) (fun k => w.heap.size ≤ k) (.slice (some ⟨w.heap.size, 0, none⟩) n n) (List.replicate n zRow) (List.replicate n zDp) := by
  refine ⟨by simp, ?_, fun j hj hj' => ?_, fun i j hi hj _ k e => ?_, fun j hj k e => ?_, fun k e => ?_, fun j hj k e => ?_⟩
  · have := NOwns.of_at (n := 11) (AtC.new w 145 (madeCells zRow.toArray (n * 11))) (made_n zRow (by decide) n) (fun t ht => by rw [List.eq_of_mem_replicate ht]; rfl) (by simpa using hm)
    simp at this
    exact this
  · simp only [List.getElem_replicate]
    exact ⟨_, rfl, ROwns.nil _ _ _⟩
  · simp only [List.getElem_replicate] at e
    cases e
  · simp only [List.getElem_replicate] at e
    cases e
  · simp only [Value.ownBlock, Option.some.injEq] at e
    omega
  · simp only [List.getElem_replicate] at e
    cases e
end Go.Proofs.YtmjhgfkplolelaaGreat.Kit
namespace Go.Proofs.YtmjhgfkplolelaaGreat
open Go.RowKit Kit
theorem Tryz.u48 : Tryz.prog.underlying 48 = some (.slice 145) := by kernel_rfl
theorem Tryz.i145 : (Tryz.prog.info? 145).map (fun i => (i.zero, i.size, i.bytes)) = some (some (.agg #[.int .i64 0, .int .i64 0, .int .i64 0, .int .i64 0, .int .i64 0, .int .i64 0, .string ⟨#[]⟩, .bool false, .bool false, .int .i64 0, .slice none 0 0]), 11, 104) := by kernel_rfl
theorem make_dep (n : Nat) (h : n ≤ 1048576) (w : World) : (Instr.makeSlice 48 (.int .i64 (n : Int)) (.int .i64 (n : Int))).run Tryz.prog w = .ok (.slice (some ⟨w.heap.size, 0, none⟩) n n) (w.alloc (.cells (madeCells zRow.toArray (n * 11)) 145)) := by
  obtain ⟨i0, hi, hz0, hz1, hz2⟩ := info_parts Tryz.i145
  rw [run_make w 48 145 i0 _ Tryz.u48 hi hz0 .i64 .i64 n n (by omega) (by omega) (by rw [hz2]; omega) (by omega), hz1]
  rfl
set_option maxRecDepth 100000 in
set_option maxHeartbeats 1600000 in
theorem toDep_any (id kd io pt bk sl : Int) (nm : ByteArray) (bt ot : Bool) (af : Int) (bl : List Int) (p : Value) (w : World) (hv : RInts w p bl) (hl : bl.length ≤ 1048576) :
    Calls Tryz.prog 90 #[.agg #[.int .i64 id, .int .i64 kd, .int .i64 io, .int .i64 pt, .int .i64 bk, .int .i64 sl, .string nm, .bool bt, .bool ot, .int .i64 af, p]] w fun e w' => ∃ u, e = .returned (.agg #[.int .i64 id, .int .i64 kd, .int .i64 io, .int .i64 pt, .int .i64 bk, .int .i64 sl, .string nm, .bool bt, .bool ot, .int .i64 af, u]) ∧ ROwns w' w.heap.size 3 u (ic bl) ∧ Below w.heap.size w w' := by
  have HV := hide hv
  obtain ⟨a, c, rfl⟩ := hv.form
  clear hv
  go_enter Tryz.func90, Tryz.ntmps90
  go_wp2_with fail
  refine (toI_any _ bl _ (((HV.out.alloc _).alloc _).alloc _) hl).mono ?_
  rintro e w1 ⟨u, rfl, O1, B1⟩
  obtain ⟨a1, c1, rfl⟩ := O1.rints.form
  have K0 : AtC w1 (w.heap.size + 1) 145 #[.int .i64 0, .int .i64 0, .int .i64 0, .int .i64 0, .int .i64 0, .int .i64 0, .string ⟨#[]⟩, .bool false, .bool false, .int .i64 0, .slice none 0 0] := by
    have := ((AtC.new (w.alloc (.cells #[.int .i64 id, .int .i64 kd, .int .i64 io, .int .i64 pt, .int .i64 bk, .int .i64 sl, .string nm, .bool bt, .bool ot, .int .i64 af, .slice a bl.length c] 135)) 145 #[.int .i64 0, .int .i64 0, .int .i64 0, .int .i64 0, .int .i64 0, .int .i64 0, .string ⟨#[]⟩, .bool false, .bool false, .int .i64 0, .slice none 0 0]).alloc (.cells #[.int .i64 id, .int .i64 kd, .int .i64 io, .int .i64 pt, .int .i64 bk, .int .i64 sl, .string nm, .bool bt, .bool ot, .int .i64 af, .slice none 0 0] 145)).over B1
    simpa using this
  have K1 : AtC w1 (w.heap.size + 1 + 1) 145 #[.int .i64 id, .int .i64 kd, .int .i64 io, .int .i64 pt, .int .i64 bk, .int .i64 sl, .string nm, .bool bt, .bool ot, .int .i64 af, .slice none 0 0] := by
    have := (AtC.new ((w.alloc (.cells #[.int .i64 id, .int .i64 kd, .int .i64 io, .int .i64 pt, .int .i64 bk, .int .i64 sl, .string nm, .bool bt, .bool ot, .int .i64 af, .slice a bl.length c] 135)).alloc (.cells #[.int .i64 0, .int .i64 0, .int .i64 0, .int .i64 0, .int .i64 0, .int .i64 0, .string ⟨#[]⟩, .bool false, .bool false, .int .i64 0, .slice none 0 0] 145)) 145 #[.int .i64 id, .int .i64 kd, .int .i64 io, .int .i64 pt, .int .i64 bk, .int .i64 sl, .string nm, .bool bt, .bool ot, .int .i64 af, .slice none 0 0]).over B1
    simpa using this
  have B2 : Below w.heap.size w w1 := ((((Below.refl _ w).alloc (Nat.le_refl _) _).alloc (by simp) _).alloc (by simp; omega) _).trans (B1.mono (by simp; omega))
  have O2 : ROwns w1 (w.heap.size + 1 + 1 + 1) 3 (.slice a1 bl.length c1) (ic bl) := O1.base_le (by simp)
  have q0 : w1.cell? ⟨w.heap.size + 1, 0, none⟩ = some (.int .i64 0) := K0.cell 0
  have q1 : w1.cell? ⟨w.heap.size + 1, 1, none⟩ = some (.int .i64 0) := K0.cell 1
  have q2 : w1.cell? ⟨w.heap.size + 1, 2, none⟩ = some (.int .i64 0) := K0.cell 2
  have q3 : w1.cell? ⟨w.heap.size + 1, 3, none⟩ = some (.int .i64 0) := K0.cell 3
  have q4 : w1.cell? ⟨w.heap.size + 1, 4, none⟩ = some (.int .i64 0) := K0.cell 4
  have q5 : w1.cell? ⟨w.heap.size + 1, 5, none⟩ = some (.int .i64 0) := K0.cell 5
  have q6 : w1.cell? ⟨w.heap.size + 1, 6, none⟩ = some (.string ⟨#[]⟩) := K0.cell 6
  have q7 : w1.cell? ⟨w.heap.size + 1, 7, none⟩ = some (.bool false) := K0.cell 7
  have q8 : w1.cell? ⟨w.heap.size + 1, 8, none⟩ = some (.bool false) := K0.cell 8
  have q9 : w1.cell? ⟨w.heap.size + 1, 9, none⟩ = some (.int .i64 0) := K0.cell 9
  have q10 : w1.cell? ⟨w.heap.size + 1, 10, none⟩ = some (.slice none 0 0) := K0.cell 10
  have z0 := K0.frozen 0
  have z1 := K0.frozen 1
  have z2 := K0.frozen 2
  have z3 := K0.frozen 3
  have z4 := K0.frozen 4
  have z5 := K0.frozen 5
  have z6 := K0.frozen 6
  have z7 := K0.frozen 7
  have z8 := K0.frozen 8
  have z9 := K0.frozen 9
  have z10 := K0.frozen 10
  have d0 : w1.cell? ⟨w.heap.size + 1 + 1, 0, none⟩ = some (.int .i64 id) := K1.cell 0
  have d1 : w1.cell? ⟨w.heap.size + 1 + 1, 1, none⟩ = some (.int .i64 kd) := K1.cell 1
  have d2 : w1.cell? ⟨w.heap.size + 1 + 1, 2, none⟩ = some (.int .i64 io) := K1.cell 2
  have d3 : w1.cell? ⟨w.heap.size + 1 + 1, 3, none⟩ = some (.int .i64 pt) := K1.cell 3
  have d4 : w1.cell? ⟨w.heap.size + 1 + 1, 4, none⟩ = some (.int .i64 bk) := K1.cell 4
  have d5 : w1.cell? ⟨w.heap.size + 1 + 1, 5, none⟩ = some (.int .i64 sl) := K1.cell 5
  have d6 : w1.cell? ⟨w.heap.size + 1 + 1, 6, none⟩ = some (.string nm) := K1.cell 6
  have d7 : w1.cell? ⟨w.heap.size + 1 + 1, 7, none⟩ = some (.bool bt) := K1.cell 7
  have d8 : w1.cell? ⟨w.heap.size + 1 + 1, 8, none⟩ = some (.bool ot) := K1.cell 8
  have d9 : w1.cell? ⟨w.heap.size + 1 + 1, 9, none⟩ = some (.int .i64 af) := K1.cell 9
  have d10 : w1.cell? ⟨w.heap.size + 1 + 1, 10, none⟩ = some (.slice none 0 0) := K1.cell 10
  have y10 := K1.frozen 10
  have HO := hide O2
  have HB := hide B2
  clear O1 O2 B1 B2 K0 K1
  go_wp2
  refine bodyPost_ret (v := .agg #[.int .i64 id, .int .i64 kd, .int .i64 io, .int .i64 pt, .int .i64 bk, .int .i64 sl, .string nm, .bool bt, .bool ot, .int .i64 af, .slice a1 bl.length c1]) (by simp [results, go_sem, q0, q1, q2, q3, q4, q5, q6, q7, q8, q9, q10]) rfl ⟨_, rfl, ?_, ?_⟩
  · exact ((((((((((((HO.out.setCell_other (by omega) _).setCell_other (by omega) _).setCell_other (by omega) _).setCell_other (by omega) _).setCell_other (by omega) _).setCell_other (by omega) _).setCell_other (by omega) _).setCell_other (by omega) _).setCell_other (by omega) _).setCell_other (by omega) _).setCell_other (by omega) _).setCell_other (by omega) _).base_le (by omega)
  · exact ((((((((((((HB.out.setCell (by simp; omega) _).setCell (by simp) _).setCell (by simp) _).setCell (by simp) _).setCell (by simp) _).setCell (by simp) _).setCell (by simp) _).setCell (by simp) _).setCell (by simp) _).setCell (by simp) _).setCell (by simp) _).setCell (by simp) _)
set_option maxRecDepth 100000 in
set_option maxHeartbeats 3200000 in
theorem toDepS_any (v : Value) (xs : List Dp) (w : World) (hv : RN KDep w v xs) (hl : xs.length ≤ 1048576) (hp : ∀ (j : Nat) (h : j < xs.length), xs[j].bl.length ≤ 1048576) :
    Calls Tryz.prog 56 #[v] w fun e w' => ∃ u ts, e = .returned u ∧ GN KDep w' (fun k => w.heap.size ≤ k) u ts xs ∧ Below w.heap.size w w' := by
  obtain ⟨a, c, rfl, -, hc⟩ := hv.dep
  have HC := hide hc
  have HP := hide hp
  clear hc hv hp
  have mk := make_dep xs.length hl
  go_enter Tryz.func56, Tryz.ntmps56
  go_wp2
  go_loopw [4] (fun i wr => ∃ (j : Nat) (ts : List Row), j ≤ xs.length ∧ i = .int .i64 j ∧ GN KDep wr (fun k => w.heap.size ≤ k) (.slice (some ⟨w.heap.size, 0, none⟩) xs.length xs.length) ts (cpy zDp j xs) ∧ Below w.heap.size w wr) (fun i _ => xs.length - (intOf i).toNat)
  case atStart =>
    refine ⟨0, List.replicate xs.length zRow, Nat.zero_le _, rfl, ?_, (Below.refl _ w).alloc (Nat.le_refl _) _⟩
    rw [cpy_zero]
    exact GN.made w xs.length (by unfold maxLen; omega)
  case round =>
    obtain ⟨j, ts, hj, rfl, hown, hb⟩ := hrel
    by_cases hlt : j < xs.length
    · obtain ⟨g, off, p, rfl, hg, m, hp⟩ := HC.out j hlt
      have hpl := HP.out j hlt
      have hcs := cpy_set zDp j xs hlt
      obtain ⟨X, hX⟩ : ∃ X, xs[j] = X := ⟨_, rfl⟩
      rw [hX] at m hp hpl hcs
      obtain ⟨id, kd, io, pt, bk, sl, nm, bt, ot, af, bl⟩ := X
      simp only at hp hpl
      obtain ⟨pa, pc, rfl⟩ := hp.form
      simp only [DCells] at m
      obtain ⟨m0, m1, m2, m3, m4, m5, m6, m7, m8, m9, m10⟩ := m
      have q0 : wr.cell? ⟨g, off + j * 11, none⟩ = some (.int .i64 id) := (hb.cell (p := ⟨g, off + j * 11, none⟩) hg).trans m0
      have q1 : wr.cell? ⟨g, off + j * 11 + 1, none⟩ = some (.int .i64 kd) := (hb.cell (p := ⟨g, off + j * 11 + 1, none⟩) hg).trans m1
      have q2 : wr.cell? ⟨g, off + j * 11 + 2, none⟩ = some (.int .i64 io) := (hb.cell (p := ⟨g, off + j * 11 + 2, none⟩) hg).trans m2
      have q3 : wr.cell? ⟨g, off + j * 11 + 3, none⟩ = some (.int .i64 pt) := (hb.cell (p := ⟨g, off + j * 11 + 3, none⟩) hg).trans m3
      have q4 : wr.cell? ⟨g, off + j * 11 + 4, none⟩ = some (.int .i64 bk) := (hb.cell (p := ⟨g, off + j * 11 + 4, none⟩) hg).trans m4
      have q5 : wr.cell? ⟨g, off + j * 11 + 5, none⟩ = some (.int .i64 sl) := (hb.cell (p := ⟨g, off + j * 11 + 5, none⟩) hg).trans m5
      have q6 : wr.cell? ⟨g, off + j * 11 + 6, none⟩ = some (.string nm) := (hb.cell (p := ⟨g, off + j * 11 + 6, none⟩) hg).trans m6
      have q7 : wr.cell? ⟨g, off + j * 11 + 7, none⟩ = some (.bool bt) := (hb.cell (p := ⟨g, off + j * 11 + 7, none⟩) hg).trans m7
      have q8 : wr.cell? ⟨g, off + j * 11 + 8, none⟩ = some (.bool ot) := (hb.cell (p := ⟨g, off + j * 11 + 8, none⟩) hg).trans m8
      have q9 : wr.cell? ⟨g, off + j * 11 + 9, none⟩ = some (.int .i64 af) := (hb.cell (p := ⟨g, off + j * 11 + 9, none⟩) hg).trans m9
      have q10 : wr.cell? ⟨g, off + j * 11 + 10, none⟩ = some (.slice pa bl.length pc) := (hb.cell (p := ⟨g, off + j * 11 + 10, none⟩) hg).trans m10
      have hp2 := hp.below hb (Nat.le_refl _)
      have hjt : j < ts.length := by rw [hown.len, cpy_length _ _ _ hj]; exact hlt
      obtain ⟨pp, hrow, -⟩ := hown.inn j hjt (by rw [cpy_length _ _ _ hj]; exact hlt)
      obtain ⟨d0, fz⟩ := hown.row.deps j hjt hrow rfl
      have k5 : w.heap.size < wr.heap.size := hown.row.lt _ rfl
      obtain ⟨Y, hY⟩ : ∃ Y, (cpy zDp j xs)[j]'(by rw [cpy_length _ _ _ hj]; exact hlt) = Y := ⟨_, rfl⟩
      rw [hY] at d0
      have HK : Hid (∀ w1, Below wr.heap.size wr w1 → DCells w1 w.heap.size (j * 11) Y pp ∧ (∀ i, w1.frozen? ⟨w.heap.size, i, none⟩ = false)) := fun w1 b => ⟨d0.below b k5, fun i => (b.frozen (p := ⟨w.heap.size, i, none⟩) k5).trans (fz i)⟩
      have HQ := hide (And.intro hjt hpl)
      have HPT := hide hp2
      have HOWN := hide hown
      have HB := hide hb
      have HCS := hide hcs
      have hsz := hb.size
      have hgw : ¬ g = w.heap.size := by omega
      have j0 : (0 : Int) ≤ (j : Int) := by omega
      have j1 : (j : Int) < (xs.length : Int) := by omega
      have HF : Hid (∀ (ua : Option Addr) (uc : Nat) (w1 : World), ROwns w1 wr.heap.size 3 (.slice ua bl.length uc) (ic bl) → Below wr.heap.size wr w1 → (∃ ts, GN KDep (((((((((((w1.setCell ⟨w.heap.size, j * 11, none⟩ (.int .i64 id)).setCell ⟨w.heap.size, j * 11 + 1, none⟩ (.int .i64 kd)).setCell ⟨w.heap.size, j * 11 + 2, none⟩ (.int .i64 io)).setCell ⟨w.heap.size, j * 11 + 3, none⟩ (.int .i64 pt)).setCell ⟨w.heap.size, j * 11 + 4, none⟩ (.int .i64 bk)).setCell ⟨w.heap.size, j * 11 + 5, none⟩ (.int .i64 sl)).setCell ⟨w.heap.size, j * 11 + 6, none⟩ (.string nm)).setCell ⟨w.heap.size, j * 11 + 7, none⟩ (.bool bt)).setCell ⟨w.heap.size, j * 11 + 8, none⟩ (.bool ot)).setCell ⟨w.heap.size, j * 11 + 9, none⟩ (.int .i64 af)).setCell ⟨w.heap.size, j * 11 + 10, none⟩ (.slice ua bl.length uc)) (fun k => w.heap.size ≤ k) (.slice (some ⟨w.heap.size, 0, none⟩) xs.length xs.length) ts (cpy zDp (j + 1) xs)) ∧ Below w.heap.size w (((((((((((w1.setCell ⟨w.heap.size, j * 11, none⟩ (.int .i64 id)).setCell ⟨w.heap.size, j * 11 + 1, none⟩ (.int .i64 kd)).setCell ⟨w.heap.size, j * 11 + 2, none⟩ (.int .i64 io)).setCell ⟨w.heap.size, j * 11 + 3, none⟩ (.int .i64 pt)).setCell ⟨w.heap.size, j * 11 + 4, none⟩ (.int .i64 bk)).setCell ⟨w.heap.size, j * 11 + 5, none⟩ (.int .i64 sl)).setCell ⟨w.heap.size, j * 11 + 6, none⟩ (.string nm)).setCell ⟨w.heap.size, j * 11 + 7, none⟩ (.bool bt)).setCell ⟨w.heap.size, j * 11 + 8, none⟩ (.bool ot)).setCell ⟨w.heap.size, j * 11 + 9, none⟩ (.int .i64 af)).setCell ⟨w.heap.size, j * 11 + 10, none⟩ (.slice ua bl.length uc))) := fun ua uc w1 O1 B1 => by
        have O2 := HOWN.out.put (S' := fun k => w.heap.size ≤ k) rfl j HQ.out.1 (t' := (⟨id, kd, io, pt, bk, sl, nm, bt, ot, af, bl⟩ : Dp).row (.slice ua bl.length uc)) (x' := ⟨id, kd, io, pt, bk, sl, nm, bt, ot, af, bl⟩) B1 ⟨_, rfl, O1.base_le (Nat.zero_le _)⟩ (fun k hk => (O1.lt k hk).1) (fun k hk => hk) (fun k hk => by omega)
        rw [HCS.out] at O2
        exact ⟨⟨_, O2⟩, ((((((((((((HB.out.trans (B1.mono hsz)).setCell (p := ⟨w.heap.size, j * 11, none⟩) (Nat.le_refl _) (.int .i64 id)).setCell (p := ⟨w.heap.size, j * 11 + 1, none⟩) (Nat.le_refl _) (.int .i64 kd)).setCell (p := ⟨w.heap.size, j * 11 + 2, none⟩) (Nat.le_refl _) (.int .i64 io)).setCell (p := ⟨w.heap.size, j * 11 + 3, none⟩) (Nat.le_refl _) (.int .i64 pt)).setCell (p := ⟨w.heap.size, j * 11 + 4, none⟩) (Nat.le_refl _) (.int .i64 bk)).setCell (p := ⟨w.heap.size, j * 11 + 5, none⟩) (Nat.le_refl _) (.int .i64 sl)).setCell (p := ⟨w.heap.size, j * 11 + 6, none⟩) (Nat.le_refl _) (.string nm)).setCell (p := ⟨w.heap.size, j * 11 + 7, none⟩) (Nat.le_refl _) (.bool bt)).setCell (p := ⟨w.heap.size, j * 11 + 8, none⟩) (Nat.le_refl _) (.bool ot)).setCell (p := ⟨w.heap.size, j * 11 + 9, none⟩) (Nat.le_refl _) (.int .i64 af)).setCell (p := ⟨w.heap.size, j * 11 + 10, none⟩) (Nat.le_refl _) (.slice ua bl.length uc))⟩
      clear hown hb hX hp hp2 mk hpl hrow hjt d0 fz hY hcs m0 m1 m2 m3 m4 m5 m6 m7 m8 m9 m10
      go_wp2_with (go_at_call 90; refine (toDep_any id kd io pt bk sl nm bt ot af bl _ _ HPT.out HQ.out.2).mono ?_; rintro e w1 ⟨u, rfl, O1, B1⟩; obtain ⟨ua, uc, rfl⟩ := O1.rints.form; obtain ⟨k1, k2⟩ := HK.out w1 B1; simp only [DCells] at k1; obtain ⟨n0, n1, n2, n3, n4, n5, n6, n7, n8, n9, n10⟩ := k1; have hk0 := k2 (j * 11); have hk1 := k2 (j * 11 + 1); have hk2 := k2 (j * 11 + 2); have hk3 := k2 (j * 11 + 3); have hk4 := k2 (j * 11 + 4); have hk5 := k2 (j * 11 + 5); have hk6 := k2 (j * 11 + 6); have hk7 := k2 (j * 11 + 7); have hk8 := k2 (j * 11 + 8); have hk9 := k2 (j * 11 + 9); have hk10 := k2 (j * 11 + 10); have HO := hide (HF.out ua uc w1 O1 B1); clear O1 B1 k2)
      go_roundw
      case rel =>
        obtain ⟨ts', h1⟩ := HO.out.1
        exact ⟨j + 1, ts', by omega, by go_num, h1, HO.out.2⟩
      case measure => simp [intOf]; omega
    · have hjl : j = xs.length := by omega
      have HR := hide (And.intro hown hb)
      have HJ := hide hjl
      clear hown hb hjl mk
      go_wp2
      go_ret
      exact ⟨_, ts, rfl, by have := HR.out.1; rwa [HJ.out, cpy_all] at this, HR.out.2⟩
end Go.Proofs.YtmjhgfkplolelaaGreat
/- laws.toMem by its contract. -/
namespace Go.Proofs.YtmjhgfkplolelaaGreat.Kit
open Go.RowKit
/-- A memory out of its parts, made one behind the other. -/
theorem MO.parts {w : World} {A B C : Nat} {u v iv bv dv pv : Value} {m : MD} {ts : List Row} (h1 : DO w (fun k => A ≤ k ∧ k < B) u v iv bv m.xs m.ys m.is m.bs) (h2 : ROwns w B 4 dv (fc m.fs)) (h2' : ∀ k, dv.ownBlock = some k → k < C) (h3 : GN KDep w (fun k => C ≤ k) pv ts m.ds) (hAB : A ≤ B) (hBC : B ≤ C) : MO w (fun k => A ≤ k) u v iv bv dv pv m :=
  ⟨_, fun k => B ≤ k ∧ k < C, _, ts, h1, h2.base_le (Nat.zero_le _), fun k hk => ⟨(h2.lt k hk).1, h2' k hk⟩, h3, fun k hk => ⟨fun e => by omega, fun e => by omega⟩, fun k hk e => by omega, fun k hk => by omega⟩
end Go.Proofs.YtmjhgfkplolelaaGreat.Kit
namespace Go.Proofs.YtmjhgfkplolelaaGreat
open Go.RowKit Kit
set_option maxRecDepth 100000 in
set_option maxHeartbeats 3200000 in
theorem toMem_any (u v iv bv dv pv : Value) (m : MD) (w : World) (h : MR w u v iv bv dv pv m) (hB : BigM 1048576 m) :
    Calls Tryz.prog 27 #[.agg #[u, v, iv, bv, dv, pv, .int .i64 m.nx]] w fun e w' => ∃ u' v' i' b' d' p', e = .returned (.agg #[u', v', i', b', d', p', .int .i64 m.nx]) ∧ MO w' (fun k => w.heap.size ≤ k) u' v' i' b' d' p' m ∧ Below w.heap.size w w' := by
  have H := hide h
  have HG := hide hB
  obtain ⟨a1, c1, a2, c2, a3, c3, a4, c4, a5, c5, a6, c6, rfl, rfl, rfl, rfl, rfl, rfl⟩ := h.form
  clear h hB
  go_enter Tryz.func27, Tryz.ntmps27
  go_wp2_with fail
  refine (toDisk_any _ _ _ _ m.xs m.ys m.is m.bs _ (((H.out.d.alloc _).alloc _).alloc _) HG.out.d).mono ?_
  rintro e w1 ⟨u1, v1, i1, b1, rfl, O1, B1⟩
  obtain ⟨e1, f1, e2, f2, e3, f3, e4, f4, rfl, rfl, rfl, rfl⟩ := O1.dr.form
  have BW : Below w.heap.size w w1 := ((((Below.refl _ w).alloc (Nat.le_refl _) _).alloc (by simp) _).alloc (by simp; omega) _).trans (B1.mono (by simp; omega))
  have KA : AtC w1 w.heap.size 31 #[.slice a1 m.xs.length c1, .slice a2 m.ys.length c2, .slice a3 m.is.length c3, .slice a4 m.bs.length c4, .slice a5 m.fs.length c5, .slice a6 m.ds.length c6, .int .i64 m.nx] := (((AtC.new w 31 _).alloc _).alloc _).over B1
  have KR : AtC w1 (w.heap.size + 1) 50 #[.slice none 0 0, .slice none 0 0, .slice none 0 0, .slice none 0 0, .slice none 0 0, .slice none 0 0, .int .i64 0] := by
    have := ((AtC.new (w.alloc (.cells #[.slice a1 m.xs.length c1, .slice a2 m.ys.length c2, .slice a3 m.is.length c3, .slice a4 m.bs.length c4, .slice a5 m.fs.length c5, .slice a6 m.ds.length c6, .int .i64 m.nx] 31)) 50 #[.slice none 0 0, .slice none 0 0, .slice none 0 0, .slice none 0 0, .slice none 0 0, .slice none 0 0, .int .i64 0]).alloc (.cells #[.slice none 0 0, .slice none 0 0, .slice none 0 0, .slice none 0 0, .slice none 0 0, .slice none 0 0, .int .i64 0] 50)).over B1
    simpa using this
  have KV : AtC w1 (w.heap.size + 1 + 1) 50 #[.slice none 0 0, .slice none 0 0, .slice none 0 0, .slice none 0 0, .slice none 0 0, .slice none 0 0, .int .i64 0] := by
    have := (AtC.new ((w.alloc (.cells #[.slice a1 m.xs.length c1, .slice a2 m.ys.length c2, .slice a3 m.is.length c3, .slice a4 m.bs.length c4, .slice a5 m.fs.length c5, .slice a6 m.ds.length c6, .int .i64 m.nx] 31)).alloc (.cells #[.slice none 0 0, .slice none 0 0, .slice none 0 0, .slice none 0 0, .slice none 0 0, .slice none 0 0, .int .i64 0] 50)) 50 #[.slice none 0 0, .slice none 0 0, .slice none 0 0, .slice none 0 0, .slice none 0 0, .slice none 0 0, .int .i64 0]).over B1
    simpa using this
  have hs1 : w.heap.size + 1 + 1 + 1 ≤ w1.heap.size := by have := B1.size; simpa using this
  have D1 : DO w1 (fun k => w.heap.size + 1 + 1 + 1 ≤ k ∧ k < w1.heap.size) (.slice e1 m.xs.length f1) (.slice e2 m.ys.length f2) (.slice e3 m.is.length f3) (.slice e4 m.bs.length f4) m.xs m.ys m.is m.bs := O1.bound.mono fun k hk => ⟨by have := hk.1; simpa using this, hk.2⟩
  have y0 : w1.cell? ⟨w.heap.size + 1 + 1, 0, none⟩ = some (.slice none 0 0) := KV.cell 0
  have y1 : w1.cell? ⟨w.heap.size + 1 + 1, 1, none⟩ = some (.slice none 0 0) := KV.cell 1
  have y2 : w1.cell? ⟨w.heap.size + 1 + 1, 2, none⟩ = some (.slice none 0 0) := KV.cell 2
  have y3 : w1.cell? ⟨w.heap.size + 1 + 1, 3, none⟩ = some (.slice none 0 0) := KV.cell 3
  have x4 : w1.cell? ⟨w.heap.size, 4, none⟩ = some (.slice a5 m.fs.length c5) := KA.cell 4
  have g0 := KV.frozen 0
  have g1 := KV.frozen 1
  have g2 := KV.frozen 2
  have g3 := KV.frozen 3
  have D1' : DO ((((w1.setCell ⟨w.heap.size + 1 + 1, 0, none⟩ (.slice e1 m.xs.length f1)).setCell ⟨w.heap.size + 1 + 1, 1, none⟩ (.slice e2 m.ys.length f2)).setCell ⟨w.heap.size + 1 + 1, 2, none⟩ (.slice e3 m.is.length f3)).setCell ⟨w.heap.size + 1 + 1, 3, none⟩ (.slice e4 m.bs.length f4)) (fun k => w.heap.size + 1 + 1 + 1 ≤ k ∧ k < w1.heap.size) (.slice e1 m.xs.length f1) (.slice e2 m.ys.length f2) (.slice e3 m.is.length f3) (.slice e4 m.bs.length f4) m.xs m.ys m.is m.bs := D1.of_heap fun k hk _ => (((heap_setCell_other _ ⟨w.heap.size + 1 + 1, 3, none⟩ k _ (by show k ≠ w.heap.size + 1 + 1; omega)).trans (heap_setCell_other _ ⟨w.heap.size + 1 + 1, 2, none⟩ k _ (by show k ≠ w.heap.size + 1 + 1; omega))).trans (heap_setCell_other _ ⟨w.heap.size + 1 + 1, 1, none⟩ k _ (by show k ≠ w.heap.size + 1 + 1; omega))).trans (heap_setCell_other _ ⟨w.heap.size + 1 + 1, 0, none⟩ k _ (by show k ≠ w.heap.size + 1 + 1; omega))
  have BW' : Below w.heap.size w ((((w1.setCell ⟨w.heap.size + 1 + 1, 0, none⟩ (.slice e1 m.xs.length f1)).setCell ⟨w.heap.size + 1 + 1, 1, none⟩ (.slice e2 m.ys.length f2)).setCell ⟨w.heap.size + 1 + 1, 2, none⟩ (.slice e3 m.is.length f3)).setCell ⟨w.heap.size + 1 + 1, 3, none⟩ (.slice e4 m.bs.length f4)) := (((BW.setCell (by simp; omega) _).setCell (by simp; omega) _).setCell (by simp; omega) _).setCell (by simp; omega) _
  have KV' : AtC ((((w1.setCell ⟨w.heap.size + 1 + 1, 0, none⟩ (.slice e1 m.xs.length f1)).setCell ⟨w.heap.size + 1 + 1, 1, none⟩ (.slice e2 m.ys.length f2)).setCell ⟨w.heap.size + 1 + 1, 2, none⟩ (.slice e3 m.is.length f3)).setCell ⟨w.heap.size + 1 + 1, 3, none⟩ (.slice e4 m.bs.length f4)) (w.heap.size + 1 + 1) 50 #[.slice e1 m.xs.length f1, .slice e2 m.ys.length f2, .slice e3 m.is.length f3, .slice e4 m.bs.length f4, .slice none 0 0, .slice none 0 0, .int .i64 0] := (((KV.set 0 _).set 1 _).set 2 _).set 3 _
  have KA' : AtC ((((w1.setCell ⟨w.heap.size + 1 + 1, 0, none⟩ (.slice e1 m.xs.length f1)).setCell ⟨w.heap.size + 1 + 1, 1, none⟩ (.slice e2 m.ys.length f2)).setCell ⟨w.heap.size + 1 + 1, 2, none⟩ (.slice e3 m.is.length f3)).setCell ⟨w.heap.size + 1 + 1, 3, none⟩ (.slice e4 m.bs.length f4)) w.heap.size 31 #[.slice a1 m.xs.length c1, .slice a2 m.ys.length c2, .slice a3 m.is.length c3, .slice a4 m.bs.length c4, .slice a5 m.fs.length c5, .slice a6 m.ds.length c6, .int .i64 m.nx] := (((KA.other (by omega) _).other (by omega) _).other (by omega) _).other (by omega) _
  have KR' : AtC ((((w1.setCell ⟨w.heap.size + 1 + 1, 0, none⟩ (.slice e1 m.xs.length f1)).setCell ⟨w.heap.size + 1 + 1, 1, none⟩ (.slice e2 m.ys.length f2)).setCell ⟨w.heap.size + 1 + 1, 2, none⟩ (.slice e3 m.is.length f3)).setCell ⟨w.heap.size + 1 + 1, 3, none⟩ (.slice e4 m.bs.length f4)) (w.heap.size + 1) 50 #[.slice none 0 0, .slice none 0 0, .slice none 0 0, .slice none 0 0, .slice none 0 0, .slice none 0 0, .int .i64 0] := (((KR.other (by omega) _).other (by omega) _).other (by omega) _).other (by omega) _
  have sz1 : ((((w1.setCell ⟨w.heap.size + 1 + 1, 0, none⟩ (.slice e1 m.xs.length f1)).setCell ⟨w.heap.size + 1 + 1, 1, none⟩ (.slice e2 m.ys.length f2)).setCell ⟨w.heap.size + 1 + 1, 2, none⟩ (.slice e3 m.is.length f3)).setCell ⟨w.heap.size + 1 + 1, 3, none⟩ (.slice e4 m.bs.length f4)).heap.size = w1.heap.size := by simp
  obtain ⟨W1, hW1⟩ : ∃ W1, ((((w1.setCell ⟨w.heap.size + 1 + 1, 0, none⟩ (.slice e1 m.xs.length f1)).setCell ⟨w.heap.size + 1 + 1, 1, none⟩ (.slice e2 m.ys.length f2)).setCell ⟨w.heap.size + 1 + 1, 2, none⟩ (.slice e3 m.is.length f3)).setCell ⟨w.heap.size + 1 + 1, 3, none⟩ (.slice e4 m.bs.length f4)) = W1 := ⟨_, rfl⟩
  rw [hW1] at D1' BW' KV' KA' KR' sz1
  have x4b : W1.cell? ⟨w.heap.size, 4, none⟩ = some (.slice a5 m.fs.length c5) := KA'.cell 4
  have HX := hide (And.intro D1' (And.intro BW' (And.intro KV' (And.intro KA' KR'))))
  clear O1 B1 BW KA KR KV D1 D1' BW' KV' KA' KR' x4
  go_wp2_with fail
  refine (toB_anyB _ m.fs _ (H.out.f.below HX.out.2.1 (Nat.le_refl _)) HG.out.f).mono ?_
  rintro e w2 ⟨u2, rfl, O2, B2⟩
  obtain ⟨e5, f5, rfl⟩ := O2.rfl.form
  have BW : Below w.heap.size w w2 := HX.out.2.1.trans (B2.mono HX.out.2.1.size)
  have KV := HX.out.2.2.1.over B2
  have KA := HX.out.2.2.2.1.over B2
  have KR := HX.out.2.2.2.2.over B2
  have D2 := HX.out.1.below B2 (Nat.le_refl _)
  have hs2 : w1.heap.size ≤ w2.heap.size := by have := B2.size; omega
  have y4 : w2.cell? ⟨w.heap.size + 1 + 1, 4, none⟩ = some (.slice none 0 0) := KV.cell 4
  have g4 := KV.frozen 4
  have D2' : DO (w2.setCell ⟨w.heap.size + 1 + 1, 4, none⟩ (.slice e5 m.fs.length f5)) (fun k => w.heap.size + 1 + 1 + 1 ≤ k ∧ k < w1.heap.size) (.slice e1 m.xs.length f1) (.slice e2 m.ys.length f2) (.slice e3 m.is.length f3) (.slice e4 m.bs.length f4) m.xs m.ys m.is m.bs := D2.of_heap fun k hk _ => heap_setCell_other _ ⟨w.heap.size + 1 + 1, 4, none⟩ k _ (by show k ≠ w.heap.size + 1 + 1; omega)
  have BW' : Below w.heap.size w (w2.setCell ⟨w.heap.size + 1 + 1, 4, none⟩ (.slice e5 m.fs.length f5)) := BW.setCell (by simp; omega) _
  have KV' : AtC (w2.setCell ⟨w.heap.size + 1 + 1, 4, none⟩ (.slice e5 m.fs.length f5)) (w.heap.size + 1 + 1) 50 #[.slice e1 m.xs.length f1, .slice e2 m.ys.length f2, .slice e3 m.is.length f3, .slice e4 m.bs.length f4, .slice e5 m.fs.length f5, .slice none 0 0, .int .i64 0] := KV.set 4 _
  have KA' : AtC (w2.setCell ⟨w.heap.size + 1 + 1, 4, none⟩ (.slice e5 m.fs.length f5)) w.heap.size 31 #[.slice a1 m.xs.length c1, .slice a2 m.ys.length c2, .slice a3 m.is.length c3, .slice a4 m.bs.length c4, .slice a5 m.fs.length c5, .slice a6 m.ds.length c6, .int .i64 m.nx] := KA.other (by omega) _
  have KR' : AtC (w2.setCell ⟨w.heap.size + 1 + 1, 4, none⟩ (.slice e5 m.fs.length f5)) (w.heap.size + 1) 50 #[.slice none 0 0, .slice none 0 0, .slice none 0 0, .slice none 0 0, .slice none 0 0, .slice none 0 0, .int .i64 0] := KR.other (by omega) _
  have O2' : ROwns (w2.setCell ⟨w.heap.size + 1 + 1, 4, none⟩ (.slice e5 m.fs.length f5)) w1.heap.size 4 (.slice e5 m.fs.length f5) (fc m.fs) := (O2.base_le (by omega)).setCell_other (by omega) _
  have L2 : ∀ k, (Value.slice e5 m.fs.length f5).ownBlock = some k → k < w2.heap.size := fun k hk => (O2.lt k hk).2
  have sz2 : (w2.setCell ⟨w.heap.size + 1 + 1, 4, none⟩ (.slice e5 m.fs.length f5)).heap.size = w2.heap.size := by simp
  obtain ⟨W2, hW2⟩ : ∃ W2, (w2.setCell ⟨w.heap.size + 1 + 1, 4, none⟩ (.slice e5 m.fs.length f5)) = W2 := ⟨_, rfl⟩
  rw [hW2] at D2' BW' KV' KA' KR' O2' sz2
  have x5 : W2.cell? ⟨w.heap.size, 5, none⟩ = some (.slice a6 m.ds.length c6) := KA'.cell 5
  have HY := hide (And.intro D2' (And.intro BW' (And.intro KV' (And.intro KA' (And.intro KR' (And.intro O2' L2))))))
  clear O2 B2 BW KA KR KV D2 D2' BW' KV' KA' KR' O2' L2 x4b hW1 HX sz1
  go_wp2_with fail
  refine (toDepS_any _ m.ds _ (H.out.p.below HY.out.2.1 (Nat.le_refl _)) HG.out.l HG.out.b).mono ?_
  rintro e w3 ⟨u3, ts, rfl, O3, B3⟩
  obtain ⟨e6, f6, rfl⟩ := O3.form
  have BW : Below w.heap.size w w3 := HY.out.2.1.trans (B3.mono HY.out.2.1.size)
  have KV := HY.out.2.2.1.over B3
  have KA := HY.out.2.2.2.1.over B3
  have KR := HY.out.2.2.2.2.1.over B3
  have hs3 : w2.heap.size ≤ w3.heap.size := by have := B3.size; omega
  have M3 : MO w3 (fun k => w.heap.size + 1 + 1 + 1 ≤ k) (.slice e1 m.xs.length f1) (.slice e2 m.ys.length f2) (.slice e3 m.is.length f3) (.slice e4 m.bs.length f4) (.slice e5 m.fs.length f5) (.slice e6 m.ds.length f6) m := MO.parts (A := w.heap.size + 1 + 1 + 1) (B := w1.heap.size) (C := w2.heap.size) (HY.out.1.below B3 (Nat.le_refl _)) (HY.out.2.2.2.2.2.1.below B3 (Nat.le_refl _)) HY.out.2.2.2.2.2.2 (O3.mono fun k hk => by omega) hs1 hs2
  have y5 : w3.cell? ⟨w.heap.size + 1 + 1, 5, none⟩ = some (.slice none 0 0) := KV.cell 5
  have g5 := KV.frozen 5
  have M3' : MO (w3.setCell ⟨w.heap.size + 1 + 1, 5, none⟩ (.slice e6 m.ds.length f6)) (fun k => w.heap.size + 1 + 1 + 1 ≤ k) (.slice e1 m.xs.length f1) (.slice e2 m.ys.length f2) (.slice e3 m.is.length f3) (.slice e4 m.bs.length f4) (.slice e5 m.fs.length f5) (.slice e6 m.ds.length f6) m := M3.of_heap fun k hk _ => heap_setCell_other _ ⟨w.heap.size + 1 + 1, 5, none⟩ k _ (by show k ≠ w.heap.size + 1 + 1; omega)
  have BW' : Below w.heap.size w (w3.setCell ⟨w.heap.size + 1 + 1, 5, none⟩ (.slice e6 m.ds.length f6)) := BW.setCell (by simp; omega) _
  have KV' : AtC (w3.setCell ⟨w.heap.size + 1 + 1, 5, none⟩ (.slice e6 m.ds.length f6)) (w.heap.size + 1 + 1) 50 #[.slice e1 m.xs.length f1, .slice e2 m.ys.length f2, .slice e3 m.is.length f3, .slice e4 m.bs.length f4, .slice e5 m.fs.length f5, .slice e6 m.ds.length f6, .int .i64 0] := KV.set 5 _
  have KA' : AtC (w3.setCell ⟨w.heap.size + 1 + 1, 5, none⟩ (.slice e6 m.ds.length f6)) w.heap.size 31 #[.slice a1 m.xs.length c1, .slice a2 m.ys.length c2, .slice a3 m.is.length c3, .slice a4 m.bs.length c4, .slice a5 m.fs.length c5, .slice a6 m.ds.length c6, .int .i64 m.nx] := KA.other (by omega) _
  have KR' : AtC (w3.setCell ⟨w.heap.size + 1 + 1, 5, none⟩ (.slice e6 m.ds.length f6)) (w.heap.size + 1) 50 #[.slice none 0 0, .slice none 0 0, .slice none 0 0, .slice none 0 0, .slice none 0 0, .slice none 0 0, .int .i64 0] := KR.other (by omega) _
  obtain ⟨W3, hW3⟩ : ∃ W3, (w3.setCell ⟨w.heap.size + 1 + 1, 5, none⟩ (.slice e6 m.ds.length f6)) = W3 := ⟨_, rfl⟩
  rw [hW3] at M3' BW' KV' KA' KR'
  have x6 : W3.cell? ⟨w.heap.size, 6, none⟩ = some (.int .i64 m.nx) := KA'.cell 6
  have s0 : W3.cell? ⟨w.heap.size + 1 + 1, 0, none⟩ = some (.slice e1 m.xs.length f1) := KV'.cell 0
  have s1 : W3.cell? ⟨w.heap.size + 1 + 1, 1, none⟩ = some (.slice e2 m.ys.length f2) := KV'.cell 1
  have s2 : W3.cell? ⟨w.heap.size + 1 + 1, 2, none⟩ = some (.slice e3 m.is.length f3) := KV'.cell 2
  have s3 : W3.cell? ⟨w.heap.size + 1 + 1, 3, none⟩ = some (.slice e4 m.bs.length f4) := KV'.cell 3
  have s4 : W3.cell? ⟨w.heap.size + 1 + 1, 4, none⟩ = some (.slice e5 m.fs.length f5) := KV'.cell 4
  have s5 : W3.cell? ⟨w.heap.size + 1 + 1, 5, none⟩ = some (.slice e6 m.ds.length f6) := KV'.cell 5
  have s6 : W3.cell? ⟨w.heap.size + 1 + 1, 6, none⟩ = some (.int .i64 0) := KV'.cell 6
  have r0 : W3.cell? ⟨w.heap.size + 1, 0, none⟩ = some (.slice none 0 0) := KR'.cell 0
  have r1 : W3.cell? ⟨w.heap.size + 1, 1, none⟩ = some (.slice none 0 0) := KR'.cell 1
  have r2 : W3.cell? ⟨w.heap.size + 1, 2, none⟩ = some (.slice none 0 0) := KR'.cell 2
  have r3 : W3.cell? ⟨w.heap.size + 1, 3, none⟩ = some (.slice none 0 0) := KR'.cell 3
  have r4 : W3.cell? ⟨w.heap.size + 1, 4, none⟩ = some (.slice none 0 0) := KR'.cell 4
  have r5 : W3.cell? ⟨w.heap.size + 1, 5, none⟩ = some (.slice none 0 0) := KR'.cell 5
  have r6 : W3.cell? ⟨w.heap.size + 1, 6, none⟩ = some (.int .i64 0) := KR'.cell 6
  have g6 := KV'.frozen 6
  have z0 := KR'.frozen 0
  have z1 := KR'.frozen 1
  have z2 := KR'.frozen 2
  have z3 := KR'.frozen 3
  have z4 := KR'.frozen 4
  have z5 := KR'.frozen 5
  have z6 := KR'.frozen 6
  have HZ := hide (And.intro M3' BW')
  clear O3 B3 BW KA KR KV M3 M3' BW' KV' KA' KR' x5 hW2 HY sz2
  go_wp2
  refine bodyPost_ret (v := .agg #[.slice e1 m.xs.length f1, .slice e2 m.ys.length f2, .slice e3 m.is.length f3, .slice e4 m.bs.length f4, .slice e5 m.fs.length f5, .slice e6 m.ds.length f6, .int .i64 m.nx]) (by simp [results, go_sem, r0, r1, r2, r3, r4, r5, r6]) rfl ⟨_, _, _, _, _, _, rfl, ?_, ?_⟩
  · exact (HZ.out.1.of_heap fun k hk _ => (((((((heap_setCell_other _ ⟨w.heap.size + 1, 6, none⟩ k _ (by show k ≠ w.heap.size + 1; omega)).trans (heap_setCell_other _ ⟨w.heap.size + 1, 5, none⟩ k _ (by show k ≠ w.heap.size + 1; omega))).trans (heap_setCell_other _ ⟨w.heap.size + 1, 4, none⟩ k _ (by show k ≠ w.heap.size + 1; omega))).trans (heap_setCell_other _ ⟨w.heap.size + 1, 3, none⟩ k _ (by show k ≠ w.heap.size + 1; omega))).trans (heap_setCell_other _ ⟨w.heap.size + 1, 2, none⟩ k _ (by show k ≠ w.heap.size + 1; omega))).trans (heap_setCell_other _ ⟨w.heap.size + 1, 1, none⟩ k _ (by show k ≠ w.heap.size + 1; omega))).trans (heap_setCell_other _ ⟨w.heap.size + 1, 0, none⟩ k _ (by show k ≠ w.heap.size + 1; omega))).trans (heap_setCell_other _ ⟨w.heap.size + 1 + 1, 6, none⟩ k _ (by show k ≠ w.heap.size + 1 + 1; omega))).mono fun k hk => by omega
  · exact (((((((HZ.out.2.setCell (by simp; omega) _).setCell (by simp) _).setCell (by simp) _).setCell (by simp) _).setCell (by simp) _).setCell (by simp) _).setCell (by simp) _).setCell (by simp) _
end Go.Proofs.YtmjhgfkplolelaaGreat
/- laws.toFs and toWorld by their contracts. -/
namespace Go.Proofs.YtmjhgfkplolelaaGreat
open Go.RowKit Kit
set_option maxRecDepth 100000 in
set_option maxHeartbeats 6400000 in
theorem toFs_any (u v iv bv dv pv ov : Value) (D : WD) (w : World) (h : MR w u v iv bv dv pv D.m) (h2 : RSt w ov D.us) (hB : LimW D) :
    Calls Tryz.prog 14 #[.agg #[u, v, iv, bv, dv, pv, .int .i64 D.m.nx, ov]] w fun e w' => ∃ u' v' i' b' d' p' o', e = .returned (.agg #[u', v', i', b', d', p', .int .i64 D.m.nx, o']) ∧ MO w' (fun k => w.heap.size ≤ k) u' v' i' b' d' p' D.m ∧ ROwns w' w.heap.size 9 o' (scT D.us) ∧ Below w.heap.size w w' := by
  have H := hide h
  have H2 := hide h2
  obtain ⟨a1, c1, a2, c2, a3, c3, a4, c4, a5, c5, a6, c6, rfl, rfl, rfl, rfl, rfl, rfl⟩ := h.form
  obtain ⟨a7, c7, rfl⟩ := h2.form
  clear h2
  have HG := hide hB
  clear hB h
  have X0 : Hid (AtC (((w.alloc (.cells #[.slice a1 D.m.xs.length c1, .slice a2 D.m.ys.length c2, .slice a3 D.m.is.length c3, .slice a4 D.m.bs.length c4, .slice a5 D.m.fs.length c5, .slice a6 D.m.ds.length c6, .int .i64 D.m.nx, .slice a7 D.us.length c7] 36)).alloc (.cells #[.slice none 0 0, .slice none 0 0, .slice none 0 0, .slice none 0 0, .slice none 0 0, .slice none 0 0, .int .i64 0, .slice none 0 0] 53)).alloc (.cells #[.slice none 0 0, .slice none 0 0, .slice none 0 0, .slice none 0 0, .slice none 0 0, .slice none 0 0, .int .i64 0, .slice none 0 0] 53)) w.heap.size 36 #[.slice a1 D.m.xs.length c1, .slice a2 D.m.ys.length c2, .slice a3 D.m.is.length c3, .slice a4 D.m.bs.length c4, .slice a5 D.m.fs.length c5, .slice a6 D.m.ds.length c6, .int .i64 D.m.nx, .slice a7 D.us.length c7] ∧ AtC (((w.alloc (.cells #[.slice a1 D.m.xs.length c1, .slice a2 D.m.ys.length c2, .slice a3 D.m.is.length c3, .slice a4 D.m.bs.length c4, .slice a5 D.m.fs.length c5, .slice a6 D.m.ds.length c6, .int .i64 D.m.nx, .slice a7 D.us.length c7] 36)).alloc (.cells #[.slice none 0 0, .slice none 0 0, .slice none 0 0, .slice none 0 0, .slice none 0 0, .slice none 0 0, .int .i64 0, .slice none 0 0] 53)).alloc (.cells #[.slice none 0 0, .slice none 0 0, .slice none 0 0, .slice none 0 0, .slice none 0 0, .slice none 0 0, .int .i64 0, .slice none 0 0] 53)) (w.heap.size + 1) 53 #[.slice none 0 0, .slice none 0 0, .slice none 0 0, .slice none 0 0, .slice none 0 0, .slice none 0 0, .int .i64 0, .slice none 0 0] ∧ AtC (((w.alloc (.cells #[.slice a1 D.m.xs.length c1, .slice a2 D.m.ys.length c2, .slice a3 D.m.is.length c3, .slice a4 D.m.bs.length c4, .slice a5 D.m.fs.length c5, .slice a6 D.m.ds.length c6, .int .i64 D.m.nx, .slice a7 D.us.length c7] 36)).alloc (.cells #[.slice none 0 0, .slice none 0 0, .slice none 0 0, .slice none 0 0, .slice none 0 0, .slice none 0 0, .int .i64 0, .slice none 0 0] 53)).alloc (.cells #[.slice none 0 0, .slice none 0 0, .slice none 0 0, .slice none 0 0, .slice none 0 0, .slice none 0 0, .int .i64 0, .slice none 0 0] 53)) (w.heap.size + 1 + 1) 53 #[.slice none 0 0, .slice none 0 0, .slice none 0 0, .slice none 0 0, .slice none 0 0, .slice none 0 0, .int .i64 0, .slice none 0 0] ∧ Below w.heap.size w (((w.alloc (.cells #[.slice a1 D.m.xs.length c1, .slice a2 D.m.ys.length c2, .slice a3 D.m.is.length c3, .slice a4 D.m.bs.length c4, .slice a5 D.m.fs.length c5, .slice a6 D.m.ds.length c6, .int .i64 D.m.nx, .slice a7 D.us.length c7] 36)).alloc (.cells #[.slice none 0 0, .slice none 0 0, .slice none 0 0, .slice none 0 0, .slice none 0 0, .slice none 0 0, .int .i64 0, .slice none 0 0] 53)).alloc (.cells #[.slice none 0 0, .slice none 0 0, .slice none 0 0, .slice none 0 0, .slice none 0 0, .slice none 0 0, .int .i64 0, .slice none 0 0] 53)) ∧ w.heap.size + 1 + 1 + 1 ≤ (((w.alloc (.cells #[.slice a1 D.m.xs.length c1, .slice a2 D.m.ys.length c2, .slice a3 D.m.is.length c3, .slice a4 D.m.bs.length c4, .slice a5 D.m.fs.length c5, .slice a6 D.m.ds.length c6, .int .i64 D.m.nx, .slice a7 D.us.length c7] 36)).alloc (.cells #[.slice none 0 0, .slice none 0 0, .slice none 0 0, .slice none 0 0, .slice none 0 0, .slice none 0 0, .int .i64 0, .slice none 0 0] 53)).alloc (.cells #[.slice none 0 0, .slice none 0 0, .slice none 0 0, .slice none 0 0, .slice none 0 0, .slice none 0 0, .int .i64 0, .slice none 0 0] 53)).heap.size) := by
    refine ⟨((AtC.new w 36 _).alloc _).alloc _, ?_, ?_, (((Below.refl _ w).alloc (Nat.le_refl _) _).alloc (by simp) _).alloc (by simp; omega) _, by simp⟩
    · have := (AtC.new (w.alloc (.cells #[.slice a1 D.m.xs.length c1, .slice a2 D.m.ys.length c2, .slice a3 D.m.is.length c3, .slice a4 D.m.bs.length c4, .slice a5 D.m.fs.length c5, .slice a6 D.m.ds.length c6, .int .i64 D.m.nx, .slice a7 D.us.length c7] 36)) 53 #[.slice none 0 0, .slice none 0 0, .slice none 0 0, .slice none 0 0, .slice none 0 0, .slice none 0 0, .int .i64 0, .slice none 0 0]).alloc (.cells #[.slice none 0 0, .slice none 0 0, .slice none 0 0, .slice none 0 0, .slice none 0 0, .slice none 0 0, .int .i64 0, .slice none 0 0] 53)
      simpa using this
    · have := AtC.new ((w.alloc (.cells #[.slice a1 D.m.xs.length c1, .slice a2 D.m.ys.length c2, .slice a3 D.m.is.length c3, .slice a4 D.m.bs.length c4, .slice a5 D.m.fs.length c5, .slice a6 D.m.ds.length c6, .int .i64 D.m.nx, .slice a7 D.us.length c7] 36)).alloc (.cells #[.slice none 0 0, .slice none 0 0, .slice none 0 0, .slice none 0 0, .slice none 0 0, .slice none 0 0, .int .i64 0, .slice none 0 0] 53)) 53 #[.slice none 0 0, .slice none 0 0, .slice none 0 0, .slice none 0 0, .slice none 0 0, .slice none 0 0, .int .i64 0, .slice none 0 0]
      simpa using this
  go_enter Tryz.func14, Tryz.ntmps14
  go_wp2_with fail
  refine (toMem_any _ _ _ _ _ _ D.m _ (H.out.below X0.out.2.2.2.1 (Nat.le_refl _)) HG.out.m).mono ?_
  rintro e w1 ⟨d1, d2, d3, d4, d5, d6, rfl, o1, b1⟩
  obtain ⟨e1, f1, e2, f2, e3, f3, e4, f4, e5, f5, e6, f6, rfl, rfl, rfl, rfl, rfl, rfl⟩ := o1.mr.form
  have A1 := X0.out.1.over b1
  have R1 := X0.out.2.1.over b1
  have V1 := X0.out.2.2.1.over b1
  have C1 := X0.out.2.2.2.1.trans (b1.mono X0.out.2.2.2.1.size)
  have S1 : w.heap.size + 1 + 1 + 1 ≤ w1.heap.size := Nat.le_trans X0.out.2.2.2.2 b1.size
  have y1_0 : w1.cell? ⟨w.heap.size + 1 + 1, 0, none⟩ = some (.slice none 0 0) := V1.cell 0
  have f1_0 := V1.frozen 0
  have y1_1 : w1.cell? ⟨w.heap.size + 1 + 1, 1, none⟩ = some (.slice none 0 0) := V1.cell 1
  have f1_1 := V1.frozen 1
  have y1_2 : w1.cell? ⟨w.heap.size + 1 + 1, 2, none⟩ = some (.slice none 0 0) := V1.cell 2
  have f1_2 := V1.frozen 2
  have y1_3 : w1.cell? ⟨w.heap.size + 1 + 1, 3, none⟩ = some (.slice none 0 0) := V1.cell 3
  have f1_3 := V1.frozen 3
  have y1_4 : w1.cell? ⟨w.heap.size + 1 + 1, 4, none⟩ = some (.slice none 0 0) := V1.cell 4
  have f1_4 := V1.frozen 4
  have y1_5 : w1.cell? ⟨w.heap.size + 1 + 1, 5, none⟩ = some (.slice none 0 0) := V1.cell 5
  have f1_5 := V1.frozen 5
  have y1_6 : w1.cell? ⟨w.heap.size + 1 + 1, 6, none⟩ = some (.int .i64 0) := V1.cell 6
  have f1_6 := V1.frozen 6
  have l1 := V1.lt
  have KA : AtC (((((((w1.setCell ⟨w.heap.size + 1 + 1, 0, none⟩ (.slice e1 D.m.xs.length f1)).setCell ⟨w.heap.size + 1 + 1, 1, none⟩ (.slice e2 D.m.ys.length f2)).setCell ⟨w.heap.size + 1 + 1, 2, none⟩ (.slice e3 D.m.is.length f3)).setCell ⟨w.heap.size + 1 + 1, 3, none⟩ (.slice e4 D.m.bs.length f4)).setCell ⟨w.heap.size + 1 + 1, 4, none⟩ (.slice e5 D.m.fs.length f5)).setCell ⟨w.heap.size + 1 + 1, 5, none⟩ (.slice e6 D.m.ds.length f6)).setCell ⟨w.heap.size + 1 + 1, 6, none⟩ (.int .i64 D.m.nx)) w.heap.size 36 #[.slice a1 D.m.xs.length c1, .slice a2 D.m.ys.length c2, .slice a3 D.m.is.length c3, .slice a4 D.m.bs.length c4, .slice a5 D.m.fs.length c5, .slice a6 D.m.ds.length c6, .int .i64 D.m.nx, .slice a7 D.us.length c7] := (((((((A1.other (by omega) _).other (by omega) _).other (by omega) _).other (by omega) _).other (by omega) _).other (by omega) _).other (by omega) _)
  have KR : AtC (((((((w1.setCell ⟨w.heap.size + 1 + 1, 0, none⟩ (.slice e1 D.m.xs.length f1)).setCell ⟨w.heap.size + 1 + 1, 1, none⟩ (.slice e2 D.m.ys.length f2)).setCell ⟨w.heap.size + 1 + 1, 2, none⟩ (.slice e3 D.m.is.length f3)).setCell ⟨w.heap.size + 1 + 1, 3, none⟩ (.slice e4 D.m.bs.length f4)).setCell ⟨w.heap.size + 1 + 1, 4, none⟩ (.slice e5 D.m.fs.length f5)).setCell ⟨w.heap.size + 1 + 1, 5, none⟩ (.slice e6 D.m.ds.length f6)).setCell ⟨w.heap.size + 1 + 1, 6, none⟩ (.int .i64 D.m.nx)) (w.heap.size + 1) 53 #[.slice none 0 0, .slice none 0 0, .slice none 0 0, .slice none 0 0, .slice none 0 0, .slice none 0 0, .int .i64 0, .slice none 0 0] := (((((((R1.other (by omega) _).other (by omega) _).other (by omega) _).other (by omega) _).other (by omega) _).other (by omega) _).other (by omega) _)
  have KV : AtC (((((((w1.setCell ⟨w.heap.size + 1 + 1, 0, none⟩ (.slice e1 D.m.xs.length f1)).setCell ⟨w.heap.size + 1 + 1, 1, none⟩ (.slice e2 D.m.ys.length f2)).setCell ⟨w.heap.size + 1 + 1, 2, none⟩ (.slice e3 D.m.is.length f3)).setCell ⟨w.heap.size + 1 + 1, 3, none⟩ (.slice e4 D.m.bs.length f4)).setCell ⟨w.heap.size + 1 + 1, 4, none⟩ (.slice e5 D.m.fs.length f5)).setCell ⟨w.heap.size + 1 + 1, 5, none⟩ (.slice e6 D.m.ds.length f6)).setCell ⟨w.heap.size + 1 + 1, 6, none⟩ (.int .i64 D.m.nx)) (w.heap.size + 1 + 1) 53 #[.slice e1 D.m.xs.length f1, .slice e2 D.m.ys.length f2, .slice e3 D.m.is.length f3, .slice e4 D.m.bs.length f4, .slice e5 D.m.fs.length f5, .slice e6 D.m.ds.length f6, .int .i64 D.m.nx, .slice none 0 0] := (((((((V1.set 0 _).set 1 _).set 2 _).set 3 _).set 4 _).set 5 _).set 6 _)
  have KC : Below w.heap.size w (((((((w1.setCell ⟨w.heap.size + 1 + 1, 0, none⟩ (.slice e1 D.m.xs.length f1)).setCell ⟨w.heap.size + 1 + 1, 1, none⟩ (.slice e2 D.m.ys.length f2)).setCell ⟨w.heap.size + 1 + 1, 2, none⟩ (.slice e3 D.m.is.length f3)).setCell ⟨w.heap.size + 1 + 1, 3, none⟩ (.slice e4 D.m.bs.length f4)).setCell ⟨w.heap.size + 1 + 1, 4, none⟩ (.slice e5 D.m.fs.length f5)).setCell ⟨w.heap.size + 1 + 1, 5, none⟩ (.slice e6 D.m.ds.length f6)).setCell ⟨w.heap.size + 1 + 1, 6, none⟩ (.int .i64 D.m.nx)) := (((((((C1.setCell (by simp; omega) _).setCell (by simp; omega) _).setCell (by simp; omega) _).setCell (by simp; omega) _).setCell (by simp; omega) _).setCell (by simp; omega) _).setCell (by simp; omega) _)
  have KS : w.heap.size + 1 + 1 + 1 ≤ (((((((w1.setCell ⟨w.heap.size + 1 + 1, 0, none⟩ (.slice e1 D.m.xs.length f1)).setCell ⟨w.heap.size + 1 + 1, 1, none⟩ (.slice e2 D.m.ys.length f2)).setCell ⟨w.heap.size + 1 + 1, 2, none⟩ (.slice e3 D.m.is.length f3)).setCell ⟨w.heap.size + 1 + 1, 3, none⟩ (.slice e4 D.m.bs.length f4)).setCell ⟨w.heap.size + 1 + 1, 4, none⟩ (.slice e5 D.m.fs.length f5)).setCell ⟨w.heap.size + 1 + 1, 5, none⟩ (.slice e6 D.m.ds.length f6)).setCell ⟨w.heap.size + 1 + 1, 6, none⟩ (.int .i64 D.m.nx)).heap.size := by simpa using S1
  have ST : Stay (w.heap.size + 1 + 1 + 1) w1 (((((((w1.setCell ⟨w.heap.size + 1 + 1, 0, none⟩ (.slice e1 D.m.xs.length f1)).setCell ⟨w.heap.size + 1 + 1, 1, none⟩ (.slice e2 D.m.ys.length f2)).setCell ⟨w.heap.size + 1 + 1, 2, none⟩ (.slice e3 D.m.is.length f3)).setCell ⟨w.heap.size + 1 + 1, 3, none⟩ (.slice e4 D.m.bs.length f4)).setCell ⟨w.heap.size + 1 + 1, 4, none⟩ (.slice e5 D.m.fs.length f5)).setCell ⟨w.heap.size + 1 + 1, 5, none⟩ (.slice e6 D.m.ds.length f6)).setCell ⟨w.heap.size + 1 + 1, 6, none⟩ (.int .i64 D.m.nx)) := ((((((((Stay.refl (w.heap.size + 1 + 1 + 1) w1).set (by omega) 0 (.slice e1 D.m.xs.length f1)).set (by omega) 1 (.slice e2 D.m.ys.length f2)).set (by omega) 2 (.slice e3 D.m.is.length f3)).set (by omega) 3 (.slice e4 D.m.bs.length f4)).set (by omega) 4 (.slice e5 D.m.fs.length f5)).set (by omega) 5 (.slice e6 D.m.ds.length f6)).set (by omega) 6 (.int .i64 D.m.nx))
  have Gm : MO (((((((w1.setCell ⟨w.heap.size + 1 + 1, 0, none⟩ (.slice e1 D.m.xs.length f1)).setCell ⟨w.heap.size + 1 + 1, 1, none⟩ (.slice e2 D.m.ys.length f2)).setCell ⟨w.heap.size + 1 + 1, 2, none⟩ (.slice e3 D.m.is.length f3)).setCell ⟨w.heap.size + 1 + 1, 3, none⟩ (.slice e4 D.m.bs.length f4)).setCell ⟨w.heap.size + 1 + 1, 4, none⟩ (.slice e5 D.m.fs.length f5)).setCell ⟨w.heap.size + 1 + 1, 5, none⟩ (.slice e6 D.m.ds.length f6)).setCell ⟨w.heap.size + 1 + 1, 6, none⟩ (.int .i64 D.m.nx)) (fun k => w.heap.size + 1 + 1 + 1 ≤ k) (.slice e1 D.m.xs.length f1) (.slice e2 D.m.ys.length f2) (.slice e3 D.m.is.length f3) (.slice e4 D.m.bs.length f4) (.slice e5 D.m.fs.length f5) (.slice e6 D.m.ds.length f6) D.m := (o1.mono (fun k hk => Nat.le_trans X0.out.2.2.2.2 hk)).stay ST
  obtain ⟨W1, hW1⟩ : ∃ W, (((((((w1.setCell ⟨w.heap.size + 1 + 1, 0, none⟩ (.slice e1 D.m.xs.length f1)).setCell ⟨w.heap.size + 1 + 1, 1, none⟩ (.slice e2 D.m.ys.length f2)).setCell ⟨w.heap.size + 1 + 1, 2, none⟩ (.slice e3 D.m.is.length f3)).setCell ⟨w.heap.size + 1 + 1, 3, none⟩ (.slice e4 D.m.bs.length f4)).setCell ⟨w.heap.size + 1 + 1, 4, none⟩ (.slice e5 D.m.fs.length f5)).setCell ⟨w.heap.size + 1 + 1, 5, none⟩ (.slice e6 D.m.ds.length f6)).setCell ⟨w.heap.size + 1 + 1, 6, none⟩ (.int .i64 D.m.nx)) = W := ⟨_, rfl⟩
  rw [hW1] at KA KR KV KC KS Gm
  have x1_7 : W1.cell? ⟨w.heap.size, 7, none⟩ = some (.slice a7 D.us.length c7) := KA.cell 7
  have X1 := hide (And.intro KA (And.intro KR (And.intro KV (And.intro KC (And.intro KS  Gm)))))
  clear KA KR KV KC KS ST A1 R1 V1 C1 S1 b1 Gm o1
  go_wp2_with fail
  refine (toD_any _ D.us _ (H2.out.below X1.out.2.2.2.1 (Nat.le_refl _)) HG.out.u).mono ?_
  rintro e w2 ⟨d7, rfl, o2, b2⟩
  obtain ⟨e7, f7, rfl⟩ := o2.rst.form
  have A2 := X1.out.1.over b2
  have R2 := X1.out.2.1.over b2
  have V2 := X1.out.2.2.1.over b2
  have C2 := X1.out.2.2.2.1.trans (b2.mono X1.out.2.2.2.1.size)
  have S2 : w.heap.size + 1 + 1 + 1 ≤ w2.heap.size := Nat.le_trans X1.out.2.2.2.2.1 b2.size
  have y2_7 : w2.cell? ⟨w.heap.size + 1 + 1, 7, none⟩ = some (.slice none 0 0) := V2.cell 7
  have f2_7 := V2.frozen 7
  have l2 := V2.lt
  have KA : AtC (w2.setCell ⟨w.heap.size + 1 + 1, 7, none⟩ (.slice e7 D.us.length f7)) w.heap.size 36 #[.slice a1 D.m.xs.length c1, .slice a2 D.m.ys.length c2, .slice a3 D.m.is.length c3, .slice a4 D.m.bs.length c4, .slice a5 D.m.fs.length c5, .slice a6 D.m.ds.length c6, .int .i64 D.m.nx, .slice a7 D.us.length c7] := (A2.other (by omega) _)
  have KR : AtC (w2.setCell ⟨w.heap.size + 1 + 1, 7, none⟩ (.slice e7 D.us.length f7)) (w.heap.size + 1) 53 #[.slice none 0 0, .slice none 0 0, .slice none 0 0, .slice none 0 0, .slice none 0 0, .slice none 0 0, .int .i64 0, .slice none 0 0] := (R2.other (by omega) _)
  have KV : AtC (w2.setCell ⟨w.heap.size + 1 + 1, 7, none⟩ (.slice e7 D.us.length f7)) (w.heap.size + 1 + 1) 53 #[.slice e1 D.m.xs.length f1, .slice e2 D.m.ys.length f2, .slice e3 D.m.is.length f3, .slice e4 D.m.bs.length f4, .slice e5 D.m.fs.length f5, .slice e6 D.m.ds.length f6, .int .i64 D.m.nx, .slice e7 D.us.length f7] := (V2.set 7 _)
  have KC : Below w.heap.size w (w2.setCell ⟨w.heap.size + 1 + 1, 7, none⟩ (.slice e7 D.us.length f7)) := (C2.setCell (by simp; omega) _)
  have KS : w.heap.size + 1 + 1 + 1 ≤ (w2.setCell ⟨w.heap.size + 1 + 1, 7, none⟩ (.slice e7 D.us.length f7)).heap.size := by simpa using S2
  have ST : Stay (w.heap.size + 1 + 1 + 1) w2 (w2.setCell ⟨w.heap.size + 1 + 1, 7, none⟩ (.slice e7 D.us.length f7)) := ((Stay.refl (w.heap.size + 1 + 1 + 1) w2).set (by omega) 7 (.slice e7 D.us.length f7))
  have Gm : MO (w2.setCell ⟨w.heap.size + 1 + 1, 7, none⟩ (.slice e7 D.us.length f7)) (fun k => w.heap.size + 1 + 1 + 1 ≤ k) (.slice e1 D.m.xs.length f1) (.slice e2 D.m.ys.length f2) (.slice e3 D.m.is.length f3) (.slice e4 D.m.bs.length f4) (.slice e5 D.m.fs.length f5) (.slice e6 D.m.ds.length f6) D.m := (X1.out.2.2.2.2.2.stay (Stay.of_below _ b2)).stay ST
  have Go : ROwns (w2.setCell ⟨w.heap.size + 1 + 1, 7, none⟩ (.slice e7 D.us.length f7)) (w.heap.size + 1 + 1 + 1) 9 (.slice e7 D.us.length f7) (scT D.us) := rowStay (o2.base_le X1.out.2.2.2.2.1) ST
  obtain ⟨W2, hW2⟩ : ∃ W, (w2.setCell ⟨w.heap.size + 1 + 1, 7, none⟩ (.slice e7 D.us.length f7)) = W := ⟨_, rfl⟩
  rw [hW2] at KA KR KV KC KS Gm Go
  have s0 : W2.cell? ⟨w.heap.size + 1 + 1, 0, none⟩ = some (.slice e1 D.m.xs.length f1) := KV.cell 0
  have r0 : W2.cell? ⟨w.heap.size + 1, 0, none⟩ = some (.slice none 0 0) := KR.cell 0
  have z0 := KR.frozen 0
  have s1 : W2.cell? ⟨w.heap.size + 1 + 1, 1, none⟩ = some (.slice e2 D.m.ys.length f2) := KV.cell 1
  have r1 : W2.cell? ⟨w.heap.size + 1, 1, none⟩ = some (.slice none 0 0) := KR.cell 1
  have z1 := KR.frozen 1
  have s2 : W2.cell? ⟨w.heap.size + 1 + 1, 2, none⟩ = some (.slice e3 D.m.is.length f3) := KV.cell 2
  have r2 : W2.cell? ⟨w.heap.size + 1, 2, none⟩ = some (.slice none 0 0) := KR.cell 2
  have z2 := KR.frozen 2
  have s3 : W2.cell? ⟨w.heap.size + 1 + 1, 3, none⟩ = some (.slice e4 D.m.bs.length f4) := KV.cell 3
  have r3 : W2.cell? ⟨w.heap.size + 1, 3, none⟩ = some (.slice none 0 0) := KR.cell 3
  have z3 := KR.frozen 3
  have s4 : W2.cell? ⟨w.heap.size + 1 + 1, 4, none⟩ = some (.slice e5 D.m.fs.length f5) := KV.cell 4
  have r4 : W2.cell? ⟨w.heap.size + 1, 4, none⟩ = some (.slice none 0 0) := KR.cell 4
  have z4 := KR.frozen 4
  have s5 : W2.cell? ⟨w.heap.size + 1 + 1, 5, none⟩ = some (.slice e6 D.m.ds.length f6) := KV.cell 5
  have r5 : W2.cell? ⟨w.heap.size + 1, 5, none⟩ = some (.slice none 0 0) := KR.cell 5
  have z5 := KR.frozen 5
  have s6 : W2.cell? ⟨w.heap.size + 1 + 1, 6, none⟩ = some (.int .i64 D.m.nx) := KV.cell 6
  have r6 : W2.cell? ⟨w.heap.size + 1, 6, none⟩ = some (.int .i64 0) := KR.cell 6
  have z6 := KR.frozen 6
  have s7 : W2.cell? ⟨w.heap.size + 1 + 1, 7, none⟩ = some (.slice e7 D.us.length f7) := KV.cell 7
  have r7 : W2.cell? ⟨w.heap.size + 1, 7, none⟩ = some (.slice none 0 0) := KR.cell 7
  have z7 := KR.frozen 7
  have lr := KR.lt
  have X2 := hide (And.intro KA (And.intro KR (And.intro KV (And.intro KC (And.intro KS (And.intro Gm Go))))))
  clear KA KR KV KC KS ST A2 R2 V2 C2 S2 b2 Gm Go hW1 X1 x1_7 o2
  go_wp2
  refine bodyPost_ret (v := .agg #[.slice e1 D.m.xs.length f1, .slice e2 D.m.ys.length f2, .slice e3 D.m.is.length f3, .slice e4 D.m.bs.length f4, .slice e5 D.m.fs.length f5, .slice e6 D.m.ds.length f6, .int .i64 D.m.nx, .slice e7 D.us.length f7]) (by simp [results, go_sem, r0, r1, r2, r3, r4, r5, r6, r7]) rfl ⟨_, _, _, _, _, _, _, rfl, ?_, ?_, ?_⟩
  · exact (X2.out.2.2.2.2.2.1.stay (((((((((Stay.refl (w.heap.size + 1 + 1 + 1) W2).set (by omega) 0 (.slice e1 D.m.xs.length f1)).set (by omega) 1 (.slice e2 D.m.ys.length f2)).set (by omega) 2 (.slice e3 D.m.is.length f3)).set (by omega) 3 (.slice e4 D.m.bs.length f4)).set (by omega) 4 (.slice e5 D.m.fs.length f5)).set (by omega) 5 (.slice e6 D.m.ds.length f6)).set (by omega) 6 (.int .i64 D.m.nx)).set (by omega) 7 (.slice e7 D.us.length f7))).mono (fun k hk => by omega)
  · exact (rowStay (X2.out.2.2.2.2.2.2) (((((((((Stay.refl (w.heap.size + 1 + 1 + 1) W2).set (by omega) 0 (.slice e1 D.m.xs.length f1)).set (by omega) 1 (.slice e2 D.m.ys.length f2)).set (by omega) 2 (.slice e3 D.m.is.length f3)).set (by omega) 3 (.slice e4 D.m.bs.length f4)).set (by omega) 4 (.slice e5 D.m.fs.length f5)).set (by omega) 5 (.slice e6 D.m.ds.length f6)).set (by omega) 6 (.int .i64 D.m.nx)).set (by omega) 7 (.slice e7 D.us.length f7))).base_le (by omega)
  · exact ((((((((X2.out.2.2.2.1.setCell (by simp) _).setCell (by simp) _).setCell (by simp) _).setCell (by simp) _).setCell (by simp) _).setCell (by simp) _).setCell (by simp) _).setCell (by simp) _)
set_option maxRecDepth 100000 in
set_option maxHeartbeats 6400000 in
theorem toWorld_any (u v iv bv dv pv ov mv cv kv : Value) (D : WD) (w : World) (h : WR w u v iv bv dv pv ov mv cv kv D) (hB : LimW D) :
    Calls Tryz.prog 6 #[.agg #[u, v, iv, bv, dv, pv, .int .i64 D.m.nx, ov, mv, cv, kv]] w fun e w' => ∃ u' v' i' b' d' p' o' m' c' k', e = .returned (.agg #[u', v', i', b', d', p', .int .i64 D.m.nx, o', m', c', k']) ∧ WR w' u' v' i' b' d' p' o' m' c' k' D ∧ Below w.heap.size w w' := by
  have H := hide h
  obtain ⟨a1, c1, a2, c2, a3, c3, a4, c4, a5, c5, a6, c6, a7, c7, a8, c8, a9, c9, a10, c10, rfl, rfl, rfl, rfl, rfl, rfl, rfl, rfl, rfl, rfl⟩ := h.form
  have HG := hide hB
  clear hB h
  have X0 : Hid (AtC (((w.alloc (.cells #[.slice a1 D.m.xs.length c1, .slice a2 D.m.ys.length c2, .slice a3 D.m.is.length c3, .slice a4 D.m.bs.length c4, .slice a5 D.m.fs.length c5, .slice a6 D.m.ds.length c6, .int .i64 D.m.nx, .slice a7 D.us.length c7, .slice a8 D.md.length c8, .slice a9 D.cs.length c9, .slice a10 D.kp.length c10] 40)).alloc (.cells #[.slice none 0 0, .slice none 0 0, .slice none 0 0, .slice none 0 0, .slice none 0 0, .slice none 0 0, .int .i64 0, .slice none 0 0, .slice none 0 0, .slice none 0 0, .slice none 0 0] 56)).alloc (.cells #[.slice none 0 0, .slice none 0 0, .slice none 0 0, .slice none 0 0, .slice none 0 0, .slice none 0 0, .int .i64 0, .slice none 0 0, .slice none 0 0, .slice none 0 0, .slice none 0 0] 56)) w.heap.size 40 #[.slice a1 D.m.xs.length c1, .slice a2 D.m.ys.length c2, .slice a3 D.m.is.length c3, .slice a4 D.m.bs.length c4, .slice a5 D.m.fs.length c5, .slice a6 D.m.ds.length c6, .int .i64 D.m.nx, .slice a7 D.us.length c7, .slice a8 D.md.length c8, .slice a9 D.cs.length c9, .slice a10 D.kp.length c10] ∧ AtC (((w.alloc (.cells #[.slice a1 D.m.xs.length c1, .slice a2 D.m.ys.length c2, .slice a3 D.m.is.length c3, .slice a4 D.m.bs.length c4, .slice a5 D.m.fs.length c5, .slice a6 D.m.ds.length c6, .int .i64 D.m.nx, .slice a7 D.us.length c7, .slice a8 D.md.length c8, .slice a9 D.cs.length c9, .slice a10 D.kp.length c10] 40)).alloc (.cells #[.slice none 0 0, .slice none 0 0, .slice none 0 0, .slice none 0 0, .slice none 0 0, .slice none 0 0, .int .i64 0, .slice none 0 0, .slice none 0 0, .slice none 0 0, .slice none 0 0] 56)).alloc (.cells #[.slice none 0 0, .slice none 0 0, .slice none 0 0, .slice none 0 0, .slice none 0 0, .slice none 0 0, .int .i64 0, .slice none 0 0, .slice none 0 0, .slice none 0 0, .slice none 0 0] 56)) (w.heap.size + 1) 56 #[.slice none 0 0, .slice none 0 0, .slice none 0 0, .slice none 0 0, .slice none 0 0, .slice none 0 0, .int .i64 0, .slice none 0 0, .slice none 0 0, .slice none 0 0, .slice none 0 0] ∧ AtC (((w.alloc (.cells #[.slice a1 D.m.xs.length c1, .slice a2 D.m.ys.length c2, .slice a3 D.m.is.length c3, .slice a4 D.m.bs.length c4, .slice a5 D.m.fs.length c5, .slice a6 D.m.ds.length c6, .int .i64 D.m.nx, .slice a7 D.us.length c7, .slice a8 D.md.length c8, .slice a9 D.cs.length c9, .slice a10 D.kp.length c10] 40)).alloc (.cells #[.slice none 0 0, .slice none 0 0, .slice none 0 0, .slice none 0 0, .slice none 0 0, .slice none 0 0, .int .i64 0, .slice none 0 0, .slice none 0 0, .slice none 0 0, .slice none 0 0] 56)).alloc (.cells #[.slice none 0 0, .slice none 0 0, .slice none 0 0, .slice none 0 0, .slice none 0 0, .slice none 0 0, .int .i64 0, .slice none 0 0, .slice none 0 0, .slice none 0 0, .slice none 0 0] 56)) (w.heap.size + 1 + 1) 56 #[.slice none 0 0, .slice none 0 0, .slice none 0 0, .slice none 0 0, .slice none 0 0, .slice none 0 0, .int .i64 0, .slice none 0 0, .slice none 0 0, .slice none 0 0, .slice none 0 0] ∧ Below w.heap.size w (((w.alloc (.cells #[.slice a1 D.m.xs.length c1, .slice a2 D.m.ys.length c2, .slice a3 D.m.is.length c3, .slice a4 D.m.bs.length c4, .slice a5 D.m.fs.length c5, .slice a6 D.m.ds.length c6, .int .i64 D.m.nx, .slice a7 D.us.length c7, .slice a8 D.md.length c8, .slice a9 D.cs.length c9, .slice a10 D.kp.length c10] 40)).alloc (.cells #[.slice none 0 0, .slice none 0 0, .slice none 0 0, .slice none 0 0, .slice none 0 0, .slice none 0 0, .int .i64 0, .slice none 0 0, .slice none 0 0, .slice none 0 0, .slice none 0 0] 56)).alloc (.cells #[.slice none 0 0, .slice none 0 0, .slice none 0 0, .slice none 0 0, .slice none 0 0, .slice none 0 0, .int .i64 0, .slice none 0 0, .slice none 0 0, .slice none 0 0, .slice none 0 0] 56)) ∧ w.heap.size + 1 + 1 + 1 ≤ (((w.alloc (.cells #[.slice a1 D.m.xs.length c1, .slice a2 D.m.ys.length c2, .slice a3 D.m.is.length c3, .slice a4 D.m.bs.length c4, .slice a5 D.m.fs.length c5, .slice a6 D.m.ds.length c6, .int .i64 D.m.nx, .slice a7 D.us.length c7, .slice a8 D.md.length c8, .slice a9 D.cs.length c9, .slice a10 D.kp.length c10] 40)).alloc (.cells #[.slice none 0 0, .slice none 0 0, .slice none 0 0, .slice none 0 0, .slice none 0 0, .slice none 0 0, .int .i64 0, .slice none 0 0, .slice none 0 0, .slice none 0 0, .slice none 0 0] 56)).alloc (.cells #[.slice none 0 0, .slice none 0 0, .slice none 0 0, .slice none 0 0, .slice none 0 0, .slice none 0 0, .int .i64 0, .slice none 0 0, .slice none 0 0, .slice none 0 0, .slice none 0 0] 56)).heap.size) := by
    refine ⟨((AtC.new w 40 _).alloc _).alloc _, ?_, ?_, (((Below.refl _ w).alloc (Nat.le_refl _) _).alloc (by simp) _).alloc (by simp; omega) _, by simp⟩
    · have := (AtC.new (w.alloc (.cells #[.slice a1 D.m.xs.length c1, .slice a2 D.m.ys.length c2, .slice a3 D.m.is.length c3, .slice a4 D.m.bs.length c4, .slice a5 D.m.fs.length c5, .slice a6 D.m.ds.length c6, .int .i64 D.m.nx, .slice a7 D.us.length c7, .slice a8 D.md.length c8, .slice a9 D.cs.length c9, .slice a10 D.kp.length c10] 40)) 56 #[.slice none 0 0, .slice none 0 0, .slice none 0 0, .slice none 0 0, .slice none 0 0, .slice none 0 0, .int .i64 0, .slice none 0 0, .slice none 0 0, .slice none 0 0, .slice none 0 0]).alloc (.cells #[.slice none 0 0, .slice none 0 0, .slice none 0 0, .slice none 0 0, .slice none 0 0, .slice none 0 0, .int .i64 0, .slice none 0 0, .slice none 0 0, .slice none 0 0, .slice none 0 0] 56)
      simpa using this
    · have := AtC.new ((w.alloc (.cells #[.slice a1 D.m.xs.length c1, .slice a2 D.m.ys.length c2, .slice a3 D.m.is.length c3, .slice a4 D.m.bs.length c4, .slice a5 D.m.fs.length c5, .slice a6 D.m.ds.length c6, .int .i64 D.m.nx, .slice a7 D.us.length c7, .slice a8 D.md.length c8, .slice a9 D.cs.length c9, .slice a10 D.kp.length c10] 40)).alloc (.cells #[.slice none 0 0, .slice none 0 0, .slice none 0 0, .slice none 0 0, .slice none 0 0, .slice none 0 0, .int .i64 0, .slice none 0 0, .slice none 0 0, .slice none 0 0, .slice none 0 0] 56)) 56 #[.slice none 0 0, .slice none 0 0, .slice none 0 0, .slice none 0 0, .slice none 0 0, .slice none 0 0, .int .i64 0, .slice none 0 0, .slice none 0 0, .slice none 0 0, .slice none 0 0]
      simpa using this
  go_enter Tryz.func6, Tryz.ntmps6
  go_wp2_with fail
  refine (toFs_any _ _ _ _ _ _ _ D _ (H.out.m.below X0.out.2.2.2.1 (Nat.le_refl _)) (H.out.o.below X0.out.2.2.2.1 (Nat.le_refl _)) HG.out).mono ?_
  rintro e w1 ⟨d1, d2, d3, d4, d5, d6, d7, rfl, o1, o2, b1⟩
  obtain ⟨e1, f1, e2, f2, e3, f3, e4, f4, e5, f5, e6, f6, rfl, rfl, rfl, rfl, rfl, rfl⟩ := o1.mr.form
  obtain ⟨e7, f7, rfl⟩ := o2.rst.form
  have A1 := X0.out.1.over b1
  have R1 := X0.out.2.1.over b1
  have V1 := X0.out.2.2.1.over b1
  have C1 := X0.out.2.2.2.1.trans (b1.mono X0.out.2.2.2.1.size)
  have S1 : w.heap.size + 1 + 1 + 1 ≤ w1.heap.size := Nat.le_trans X0.out.2.2.2.2 b1.size
  have y1_0 : w1.cell? ⟨w.heap.size + 1 + 1, 0, none⟩ = some (.slice none 0 0) := V1.cell 0
  have f1_0 := V1.frozen 0
  have y1_1 : w1.cell? ⟨w.heap.size + 1 + 1, 1, none⟩ = some (.slice none 0 0) := V1.cell 1
  have f1_1 := V1.frozen 1
  have y1_2 : w1.cell? ⟨w.heap.size + 1 + 1, 2, none⟩ = some (.slice none 0 0) := V1.cell 2
  have f1_2 := V1.frozen 2
  have y1_3 : w1.cell? ⟨w.heap.size + 1 + 1, 3, none⟩ = some (.slice none 0 0) := V1.cell 3
  have f1_3 := V1.frozen 3
  have y1_4 : w1.cell? ⟨w.heap.size + 1 + 1, 4, none⟩ = some (.slice none 0 0) := V1.cell 4
  have f1_4 := V1.frozen 4
  have y1_5 : w1.cell? ⟨w.heap.size + 1 + 1, 5, none⟩ = some (.slice none 0 0) := V1.cell 5
  have f1_5 := V1.frozen 5
  have y1_6 : w1.cell? ⟨w.heap.size + 1 + 1, 6, none⟩ = some (.int .i64 0) := V1.cell 6
  have f1_6 := V1.frozen 6
  have y1_7 : w1.cell? ⟨w.heap.size + 1 + 1, 7, none⟩ = some (.slice none 0 0) := V1.cell 7
  have f1_7 := V1.frozen 7
  have l1 := V1.lt
  have KA : AtC ((((((((w1.setCell ⟨w.heap.size + 1 + 1, 0, none⟩ (.slice e1 D.m.xs.length f1)).setCell ⟨w.heap.size + 1 + 1, 1, none⟩ (.slice e2 D.m.ys.length f2)).setCell ⟨w.heap.size + 1 + 1, 2, none⟩ (.slice e3 D.m.is.length f3)).setCell ⟨w.heap.size + 1 + 1, 3, none⟩ (.slice e4 D.m.bs.length f4)).setCell ⟨w.heap.size + 1 + 1, 4, none⟩ (.slice e5 D.m.fs.length f5)).setCell ⟨w.heap.size + 1 + 1, 5, none⟩ (.slice e6 D.m.ds.length f6)).setCell ⟨w.heap.size + 1 + 1, 6, none⟩ (.int .i64 D.m.nx)).setCell ⟨w.heap.size + 1 + 1, 7, none⟩ (.slice e7 D.us.length f7)) w.heap.size 40 #[.slice a1 D.m.xs.length c1, .slice a2 D.m.ys.length c2, .slice a3 D.m.is.length c3, .slice a4 D.m.bs.length c4, .slice a5 D.m.fs.length c5, .slice a6 D.m.ds.length c6, .int .i64 D.m.nx, .slice a7 D.us.length c7, .slice a8 D.md.length c8, .slice a9 D.cs.length c9, .slice a10 D.kp.length c10] := ((((((((A1.other (by omega) _).other (by omega) _).other (by omega) _).other (by omega) _).other (by omega) _).other (by omega) _).other (by omega) _).other (by omega) _)
  have KR : AtC ((((((((w1.setCell ⟨w.heap.size + 1 + 1, 0, none⟩ (.slice e1 D.m.xs.length f1)).setCell ⟨w.heap.size + 1 + 1, 1, none⟩ (.slice e2 D.m.ys.length f2)).setCell ⟨w.heap.size + 1 + 1, 2, none⟩ (.slice e3 D.m.is.length f3)).setCell ⟨w.heap.size + 1 + 1, 3, none⟩ (.slice e4 D.m.bs.length f4)).setCell ⟨w.heap.size + 1 + 1, 4, none⟩ (.slice e5 D.m.fs.length f5)).setCell ⟨w.heap.size + 1 + 1, 5, none⟩ (.slice e6 D.m.ds.length f6)).setCell ⟨w.heap.size + 1 + 1, 6, none⟩ (.int .i64 D.m.nx)).setCell ⟨w.heap.size + 1 + 1, 7, none⟩ (.slice e7 D.us.length f7)) (w.heap.size + 1) 56 #[.slice none 0 0, .slice none 0 0, .slice none 0 0, .slice none 0 0, .slice none 0 0, .slice none 0 0, .int .i64 0, .slice none 0 0, .slice none 0 0, .slice none 0 0, .slice none 0 0] := ((((((((R1.other (by omega) _).other (by omega) _).other (by omega) _).other (by omega) _).other (by omega) _).other (by omega) _).other (by omega) _).other (by omega) _)
  have KV : AtC ((((((((w1.setCell ⟨w.heap.size + 1 + 1, 0, none⟩ (.slice e1 D.m.xs.length f1)).setCell ⟨w.heap.size + 1 + 1, 1, none⟩ (.slice e2 D.m.ys.length f2)).setCell ⟨w.heap.size + 1 + 1, 2, none⟩ (.slice e3 D.m.is.length f3)).setCell ⟨w.heap.size + 1 + 1, 3, none⟩ (.slice e4 D.m.bs.length f4)).setCell ⟨w.heap.size + 1 + 1, 4, none⟩ (.slice e5 D.m.fs.length f5)).setCell ⟨w.heap.size + 1 + 1, 5, none⟩ (.slice e6 D.m.ds.length f6)).setCell ⟨w.heap.size + 1 + 1, 6, none⟩ (.int .i64 D.m.nx)).setCell ⟨w.heap.size + 1 + 1, 7, none⟩ (.slice e7 D.us.length f7)) (w.heap.size + 1 + 1) 56 #[.slice e1 D.m.xs.length f1, .slice e2 D.m.ys.length f2, .slice e3 D.m.is.length f3, .slice e4 D.m.bs.length f4, .slice e5 D.m.fs.length f5, .slice e6 D.m.ds.length f6, .int .i64 D.m.nx, .slice e7 D.us.length f7, .slice none 0 0, .slice none 0 0, .slice none 0 0] := ((((((((V1.set 0 _).set 1 _).set 2 _).set 3 _).set 4 _).set 5 _).set 6 _).set 7 _)
  have KC : Below w.heap.size w ((((((((w1.setCell ⟨w.heap.size + 1 + 1, 0, none⟩ (.slice e1 D.m.xs.length f1)).setCell ⟨w.heap.size + 1 + 1, 1, none⟩ (.slice e2 D.m.ys.length f2)).setCell ⟨w.heap.size + 1 + 1, 2, none⟩ (.slice e3 D.m.is.length f3)).setCell ⟨w.heap.size + 1 + 1, 3, none⟩ (.slice e4 D.m.bs.length f4)).setCell ⟨w.heap.size + 1 + 1, 4, none⟩ (.slice e5 D.m.fs.length f5)).setCell ⟨w.heap.size + 1 + 1, 5, none⟩ (.slice e6 D.m.ds.length f6)).setCell ⟨w.heap.size + 1 + 1, 6, none⟩ (.int .i64 D.m.nx)).setCell ⟨w.heap.size + 1 + 1, 7, none⟩ (.slice e7 D.us.length f7)) := ((((((((C1.setCell (by simp; omega) _).setCell (by simp; omega) _).setCell (by simp; omega) _).setCell (by simp; omega) _).setCell (by simp; omega) _).setCell (by simp; omega) _).setCell (by simp; omega) _).setCell (by simp; omega) _)
  have KS : w.heap.size + 1 + 1 + 1 ≤ ((((((((w1.setCell ⟨w.heap.size + 1 + 1, 0, none⟩ (.slice e1 D.m.xs.length f1)).setCell ⟨w.heap.size + 1 + 1, 1, none⟩ (.slice e2 D.m.ys.length f2)).setCell ⟨w.heap.size + 1 + 1, 2, none⟩ (.slice e3 D.m.is.length f3)).setCell ⟨w.heap.size + 1 + 1, 3, none⟩ (.slice e4 D.m.bs.length f4)).setCell ⟨w.heap.size + 1 + 1, 4, none⟩ (.slice e5 D.m.fs.length f5)).setCell ⟨w.heap.size + 1 + 1, 5, none⟩ (.slice e6 D.m.ds.length f6)).setCell ⟨w.heap.size + 1 + 1, 6, none⟩ (.int .i64 D.m.nx)).setCell ⟨w.heap.size + 1 + 1, 7, none⟩ (.slice e7 D.us.length f7)).heap.size := by simpa using S1
  have ST : Stay (w.heap.size + 1 + 1 + 1) w1 ((((((((w1.setCell ⟨w.heap.size + 1 + 1, 0, none⟩ (.slice e1 D.m.xs.length f1)).setCell ⟨w.heap.size + 1 + 1, 1, none⟩ (.slice e2 D.m.ys.length f2)).setCell ⟨w.heap.size + 1 + 1, 2, none⟩ (.slice e3 D.m.is.length f3)).setCell ⟨w.heap.size + 1 + 1, 3, none⟩ (.slice e4 D.m.bs.length f4)).setCell ⟨w.heap.size + 1 + 1, 4, none⟩ (.slice e5 D.m.fs.length f5)).setCell ⟨w.heap.size + 1 + 1, 5, none⟩ (.slice e6 D.m.ds.length f6)).setCell ⟨w.heap.size + 1 + 1, 6, none⟩ (.int .i64 D.m.nx)).setCell ⟨w.heap.size + 1 + 1, 7, none⟩ (.slice e7 D.us.length f7)) := (((((((((Stay.refl (w.heap.size + 1 + 1 + 1) w1).set (by omega) 0 (.slice e1 D.m.xs.length f1)).set (by omega) 1 (.slice e2 D.m.ys.length f2)).set (by omega) 2 (.slice e3 D.m.is.length f3)).set (by omega) 3 (.slice e4 D.m.bs.length f4)).set (by omega) 4 (.slice e5 D.m.fs.length f5)).set (by omega) 5 (.slice e6 D.m.ds.length f6)).set (by omega) 6 (.int .i64 D.m.nx)).set (by omega) 7 (.slice e7 D.us.length f7))
  have Gm : MO ((((((((w1.setCell ⟨w.heap.size + 1 + 1, 0, none⟩ (.slice e1 D.m.xs.length f1)).setCell ⟨w.heap.size + 1 + 1, 1, none⟩ (.slice e2 D.m.ys.length f2)).setCell ⟨w.heap.size + 1 + 1, 2, none⟩ (.slice e3 D.m.is.length f3)).setCell ⟨w.heap.size + 1 + 1, 3, none⟩ (.slice e4 D.m.bs.length f4)).setCell ⟨w.heap.size + 1 + 1, 4, none⟩ (.slice e5 D.m.fs.length f5)).setCell ⟨w.heap.size + 1 + 1, 5, none⟩ (.slice e6 D.m.ds.length f6)).setCell ⟨w.heap.size + 1 + 1, 6, none⟩ (.int .i64 D.m.nx)).setCell ⟨w.heap.size + 1 + 1, 7, none⟩ (.slice e7 D.us.length f7)) (fun k => w.heap.size + 1 + 1 + 1 ≤ k) (.slice e1 D.m.xs.length f1) (.slice e2 D.m.ys.length f2) (.slice e3 D.m.is.length f3) (.slice e4 D.m.bs.length f4) (.slice e5 D.m.fs.length f5) (.slice e6 D.m.ds.length f6) D.m := (o1.mono (fun k hk => Nat.le_trans X0.out.2.2.2.2 hk)).stay ST
  have Go : ROwns ((((((((w1.setCell ⟨w.heap.size + 1 + 1, 0, none⟩ (.slice e1 D.m.xs.length f1)).setCell ⟨w.heap.size + 1 + 1, 1, none⟩ (.slice e2 D.m.ys.length f2)).setCell ⟨w.heap.size + 1 + 1, 2, none⟩ (.slice e3 D.m.is.length f3)).setCell ⟨w.heap.size + 1 + 1, 3, none⟩ (.slice e4 D.m.bs.length f4)).setCell ⟨w.heap.size + 1 + 1, 4, none⟩ (.slice e5 D.m.fs.length f5)).setCell ⟨w.heap.size + 1 + 1, 5, none⟩ (.slice e6 D.m.ds.length f6)).setCell ⟨w.heap.size + 1 + 1, 6, none⟩ (.int .i64 D.m.nx)).setCell ⟨w.heap.size + 1 + 1, 7, none⟩ (.slice e7 D.us.length f7)) (w.heap.size + 1 + 1 + 1) 9 (.slice e7 D.us.length f7) (scT D.us) := rowStay (o2.base_le X0.out.2.2.2.2) ST
  obtain ⟨W1, hW1⟩ : ∃ W, ((((((((w1.setCell ⟨w.heap.size + 1 + 1, 0, none⟩ (.slice e1 D.m.xs.length f1)).setCell ⟨w.heap.size + 1 + 1, 1, none⟩ (.slice e2 D.m.ys.length f2)).setCell ⟨w.heap.size + 1 + 1, 2, none⟩ (.slice e3 D.m.is.length f3)).setCell ⟨w.heap.size + 1 + 1, 3, none⟩ (.slice e4 D.m.bs.length f4)).setCell ⟨w.heap.size + 1 + 1, 4, none⟩ (.slice e5 D.m.fs.length f5)).setCell ⟨w.heap.size + 1 + 1, 5, none⟩ (.slice e6 D.m.ds.length f6)).setCell ⟨w.heap.size + 1 + 1, 6, none⟩ (.int .i64 D.m.nx)).setCell ⟨w.heap.size + 1 + 1, 7, none⟩ (.slice e7 D.us.length f7)) = W := ⟨_, rfl⟩
  rw [hW1] at KA KR KV KC KS Gm Go
  have x1_8 : W1.cell? ⟨w.heap.size, 8, none⟩ = some (.slice a8 D.md.length c8) := KA.cell 8
  have X1 := hide (And.intro KA (And.intro KR (And.intro KV (And.intro KC (And.intro KS (And.intro Gm Go))))))
  clear KA KR KV KC KS ST A1 R1 V1 C1 S1 b1 Gm Go o1 o2
  go_wp2_with fail
  refine (toNodeS_any _ D.md _ (H.out.a.below X1.out.2.2.2.1 (Nat.le_refl _)) HG.out.a).mono ?_
  rintro e w2 ⟨d8, rfl, o3, b2⟩
  obtain ⟨e8, f8, rfl⟩ := o3.rnd.form
  have A2 := X1.out.1.over b2
  have R2 := X1.out.2.1.over b2
  have V2 := X1.out.2.2.1.over b2
  have C2 := X1.out.2.2.2.1.trans (b2.mono X1.out.2.2.2.1.size)
  have S2 : w.heap.size + 1 + 1 + 1 ≤ w2.heap.size := Nat.le_trans X1.out.2.2.2.2.1 b2.size
  have y2_8 : w2.cell? ⟨w.heap.size + 1 + 1, 8, none⟩ = some (.slice none 0 0) := V2.cell 8
  have f2_8 := V2.frozen 8
  have l2 := V2.lt
  have KA : AtC (w2.setCell ⟨w.heap.size + 1 + 1, 8, none⟩ (.slice e8 D.md.length f8)) w.heap.size 40 #[.slice a1 D.m.xs.length c1, .slice a2 D.m.ys.length c2, .slice a3 D.m.is.length c3, .slice a4 D.m.bs.length c4, .slice a5 D.m.fs.length c5, .slice a6 D.m.ds.length c6, .int .i64 D.m.nx, .slice a7 D.us.length c7, .slice a8 D.md.length c8, .slice a9 D.cs.length c9, .slice a10 D.kp.length c10] := (A2.other (by omega) _)
  have KR : AtC (w2.setCell ⟨w.heap.size + 1 + 1, 8, none⟩ (.slice e8 D.md.length f8)) (w.heap.size + 1) 56 #[.slice none 0 0, .slice none 0 0, .slice none 0 0, .slice none 0 0, .slice none 0 0, .slice none 0 0, .int .i64 0, .slice none 0 0, .slice none 0 0, .slice none 0 0, .slice none 0 0] := (R2.other (by omega) _)
  have KV : AtC (w2.setCell ⟨w.heap.size + 1 + 1, 8, none⟩ (.slice e8 D.md.length f8)) (w.heap.size + 1 + 1) 56 #[.slice e1 D.m.xs.length f1, .slice e2 D.m.ys.length f2, .slice e3 D.m.is.length f3, .slice e4 D.m.bs.length f4, .slice e5 D.m.fs.length f5, .slice e6 D.m.ds.length f6, .int .i64 D.m.nx, .slice e7 D.us.length f7, .slice e8 D.md.length f8, .slice none 0 0, .slice none 0 0] := (V2.set 8 _)
  have KC : Below w.heap.size w (w2.setCell ⟨w.heap.size + 1 + 1, 8, none⟩ (.slice e8 D.md.length f8)) := (C2.setCell (by simp; omega) _)
  have KS : w.heap.size + 1 + 1 + 1 ≤ (w2.setCell ⟨w.heap.size + 1 + 1, 8, none⟩ (.slice e8 D.md.length f8)).heap.size := by simpa using S2
  have ST : Stay (w.heap.size + 1 + 1 + 1) w2 (w2.setCell ⟨w.heap.size + 1 + 1, 8, none⟩ (.slice e8 D.md.length f8)) := ((Stay.refl (w.heap.size + 1 + 1 + 1) w2).set (by omega) 8 (.slice e8 D.md.length f8))
  have Gm : MO (w2.setCell ⟨w.heap.size + 1 + 1, 8, none⟩ (.slice e8 D.md.length f8)) (fun k => w.heap.size + 1 + 1 + 1 ≤ k) (.slice e1 D.m.xs.length f1) (.slice e2 D.m.ys.length f2) (.slice e3 D.m.is.length f3) (.slice e4 D.m.bs.length f4) (.slice e5 D.m.fs.length f5) (.slice e6 D.m.ds.length f6) D.m := (X1.out.2.2.2.2.2.1.stay (Stay.of_below _ b2)).stay ST
  have Go : ROwns (w2.setCell ⟨w.heap.size + 1 + 1, 8, none⟩ (.slice e8 D.md.length f8)) (w.heap.size + 1 + 1 + 1) 9 (.slice e7 D.us.length f7) (scT D.us) := rowStay (rowStay (X1.out.2.2.2.2.2.2) (Stay.of_below _ b2)) ST
  have Ga : NdB (w2.setCell ⟨w.heap.size + 1 + 1, 8, none⟩ (.slice e8 D.md.length f8)) (w.heap.size + 1 + 1 + 1) (.slice e8 D.md.length f8) D.md := (o3.base_le X1.out.2.2.2.2.1).stay ST
  obtain ⟨W2, hW2⟩ : ∃ W, (w2.setCell ⟨w.heap.size + 1 + 1, 8, none⟩ (.slice e8 D.md.length f8)) = W := ⟨_, rfl⟩
  rw [hW2] at KA KR KV KC KS Gm Go Ga
  have x2_9 : W2.cell? ⟨w.heap.size, 9, none⟩ = some (.slice a9 D.cs.length c9) := KA.cell 9
  have X2 := hide (And.intro KA (And.intro KR (And.intro KV (And.intro KC (And.intro KS (And.intro Gm (And.intro Go Ga)))))))
  clear KA KR KV KC KS ST A2 R2 V2 C2 S2 b2 Gm Go Ga hW1 X1 x1_8 o3
  go_wp2_with fail
  refine (toI_any _ D.cs _ (H.out.c.below X2.out.2.2.2.1 (Nat.le_refl _)) HG.out.c).mono ?_
  rintro e w3 ⟨d9, rfl, o4, b3⟩
  obtain ⟨e9, f9, rfl⟩ := o4.rints.form
  have A3 := X2.out.1.over b3
  have R3 := X2.out.2.1.over b3
  have V3 := X2.out.2.2.1.over b3
  have C3 := X2.out.2.2.2.1.trans (b3.mono X2.out.2.2.2.1.size)
  have S3 : w.heap.size + 1 + 1 + 1 ≤ w3.heap.size := Nat.le_trans X2.out.2.2.2.2.1 b3.size
  have y3_9 : w3.cell? ⟨w.heap.size + 1 + 1, 9, none⟩ = some (.slice none 0 0) := V3.cell 9
  have f3_9 := V3.frozen 9
  have l3 := V3.lt
  have KA : AtC (w3.setCell ⟨w.heap.size + 1 + 1, 9, none⟩ (.slice e9 D.cs.length f9)) w.heap.size 40 #[.slice a1 D.m.xs.length c1, .slice a2 D.m.ys.length c2, .slice a3 D.m.is.length c3, .slice a4 D.m.bs.length c4, .slice a5 D.m.fs.length c5, .slice a6 D.m.ds.length c6, .int .i64 D.m.nx, .slice a7 D.us.length c7, .slice a8 D.md.length c8, .slice a9 D.cs.length c9, .slice a10 D.kp.length c10] := (A3.other (by omega) _)
  have KR : AtC (w3.setCell ⟨w.heap.size + 1 + 1, 9, none⟩ (.slice e9 D.cs.length f9)) (w.heap.size + 1) 56 #[.slice none 0 0, .slice none 0 0, .slice none 0 0, .slice none 0 0, .slice none 0 0, .slice none 0 0, .int .i64 0, .slice none 0 0, .slice none 0 0, .slice none 0 0, .slice none 0 0] := (R3.other (by omega) _)
  have KV : AtC (w3.setCell ⟨w.heap.size + 1 + 1, 9, none⟩ (.slice e9 D.cs.length f9)) (w.heap.size + 1 + 1) 56 #[.slice e1 D.m.xs.length f1, .slice e2 D.m.ys.length f2, .slice e3 D.m.is.length f3, .slice e4 D.m.bs.length f4, .slice e5 D.m.fs.length f5, .slice e6 D.m.ds.length f6, .int .i64 D.m.nx, .slice e7 D.us.length f7, .slice e8 D.md.length f8, .slice e9 D.cs.length f9, .slice none 0 0] := (V3.set 9 _)
  have KC : Below w.heap.size w (w3.setCell ⟨w.heap.size + 1 + 1, 9, none⟩ (.slice e9 D.cs.length f9)) := (C3.setCell (by simp; omega) _)
  have KS : w.heap.size + 1 + 1 + 1 ≤ (w3.setCell ⟨w.heap.size + 1 + 1, 9, none⟩ (.slice e9 D.cs.length f9)).heap.size := by simpa using S3
  have ST : Stay (w.heap.size + 1 + 1 + 1) w3 (w3.setCell ⟨w.heap.size + 1 + 1, 9, none⟩ (.slice e9 D.cs.length f9)) := ((Stay.refl (w.heap.size + 1 + 1 + 1) w3).set (by omega) 9 (.slice e9 D.cs.length f9))
  have Gm : MO (w3.setCell ⟨w.heap.size + 1 + 1, 9, none⟩ (.slice e9 D.cs.length f9)) (fun k => w.heap.size + 1 + 1 + 1 ≤ k) (.slice e1 D.m.xs.length f1) (.slice e2 D.m.ys.length f2) (.slice e3 D.m.is.length f3) (.slice e4 D.m.bs.length f4) (.slice e5 D.m.fs.length f5) (.slice e6 D.m.ds.length f6) D.m := (X2.out.2.2.2.2.2.1.stay (Stay.of_below _ b3)).stay ST
  have Go : ROwns (w3.setCell ⟨w.heap.size + 1 + 1, 9, none⟩ (.slice e9 D.cs.length f9)) (w.heap.size + 1 + 1 + 1) 9 (.slice e7 D.us.length f7) (scT D.us) := rowStay (rowStay (X2.out.2.2.2.2.2.2.1) (Stay.of_below _ b3)) ST
  have Ga : NdB (w3.setCell ⟨w.heap.size + 1 + 1, 9, none⟩ (.slice e9 D.cs.length f9)) (w.heap.size + 1 + 1 + 1) (.slice e8 D.md.length f8) D.md := (X2.out.2.2.2.2.2.2.2.stay (Stay.of_below _ b3)).stay ST
  have Gc : ROwns (w3.setCell ⟨w.heap.size + 1 + 1, 9, none⟩ (.slice e9 D.cs.length f9)) (w.heap.size + 1 + 1 + 1) 3 (.slice e9 D.cs.length f9) (ic D.cs) := rowStay (o4.base_le X2.out.2.2.2.2.1) ST
  obtain ⟨W3, hW3⟩ : ∃ W, (w3.setCell ⟨w.heap.size + 1 + 1, 9, none⟩ (.slice e9 D.cs.length f9)) = W := ⟨_, rfl⟩
  rw [hW3] at KA KR KV KC KS Gm Go Ga Gc
  have x3_10 : W3.cell? ⟨w.heap.size, 10, none⟩ = some (.slice a10 D.kp.length c10) := KA.cell 10
  have X3 := hide (And.intro KA (And.intro KR (And.intro KV (And.intro KC (And.intro KS (And.intro Gm (And.intro Go (And.intro Ga Gc))))))))
  clear KA KR KV KC KS ST A3 R3 V3 C3 S3 b3 Gm Go Ga Gc hW2 X2 x2_9 o4
  go_wp2_with fail
  refine (toNodeS_any _ D.kp _ (H.out.k.below X3.out.2.2.2.1 (Nat.le_refl _)) HG.out.k).mono ?_
  rintro e w4 ⟨d10, rfl, o5, b4⟩
  obtain ⟨e10, f10, rfl⟩ := o5.rnd.form
  have A4 := X3.out.1.over b4
  have R4 := X3.out.2.1.over b4
  have V4 := X3.out.2.2.1.over b4
  have C4 := X3.out.2.2.2.1.trans (b4.mono X3.out.2.2.2.1.size)
  have S4 : w.heap.size + 1 + 1 + 1 ≤ w4.heap.size := Nat.le_trans X3.out.2.2.2.2.1 b4.size
  have y4_10 : w4.cell? ⟨w.heap.size + 1 + 1, 10, none⟩ = some (.slice none 0 0) := V4.cell 10
  have f4_10 := V4.frozen 10
  have l4 := V4.lt
  have KA : AtC (w4.setCell ⟨w.heap.size + 1 + 1, 10, none⟩ (.slice e10 D.kp.length f10)) w.heap.size 40 #[.slice a1 D.m.xs.length c1, .slice a2 D.m.ys.length c2, .slice a3 D.m.is.length c3, .slice a4 D.m.bs.length c4, .slice a5 D.m.fs.length c5, .slice a6 D.m.ds.length c6, .int .i64 D.m.nx, .slice a7 D.us.length c7, .slice a8 D.md.length c8, .slice a9 D.cs.length c9, .slice a10 D.kp.length c10] := (A4.other (by omega) _)
  have KR : AtC (w4.setCell ⟨w.heap.size + 1 + 1, 10, none⟩ (.slice e10 D.kp.length f10)) (w.heap.size + 1) 56 #[.slice none 0 0, .slice none 0 0, .slice none 0 0, .slice none 0 0, .slice none 0 0, .slice none 0 0, .int .i64 0, .slice none 0 0, .slice none 0 0, .slice none 0 0, .slice none 0 0] := (R4.other (by omega) _)
  have KV : AtC (w4.setCell ⟨w.heap.size + 1 + 1, 10, none⟩ (.slice e10 D.kp.length f10)) (w.heap.size + 1 + 1) 56 #[.slice e1 D.m.xs.length f1, .slice e2 D.m.ys.length f2, .slice e3 D.m.is.length f3, .slice e4 D.m.bs.length f4, .slice e5 D.m.fs.length f5, .slice e6 D.m.ds.length f6, .int .i64 D.m.nx, .slice e7 D.us.length f7, .slice e8 D.md.length f8, .slice e9 D.cs.length f9, .slice e10 D.kp.length f10] := (V4.set 10 _)
  have KC : Below w.heap.size w (w4.setCell ⟨w.heap.size + 1 + 1, 10, none⟩ (.slice e10 D.kp.length f10)) := (C4.setCell (by simp; omega) _)
  have KS : w.heap.size + 1 + 1 + 1 ≤ (w4.setCell ⟨w.heap.size + 1 + 1, 10, none⟩ (.slice e10 D.kp.length f10)).heap.size := by simpa using S4
  have ST : Stay (w.heap.size + 1 + 1 + 1) w4 (w4.setCell ⟨w.heap.size + 1 + 1, 10, none⟩ (.slice e10 D.kp.length f10)) := ((Stay.refl (w.heap.size + 1 + 1 + 1) w4).set (by omega) 10 (.slice e10 D.kp.length f10))
  have Gm : MO (w4.setCell ⟨w.heap.size + 1 + 1, 10, none⟩ (.slice e10 D.kp.length f10)) (fun k => w.heap.size + 1 + 1 + 1 ≤ k) (.slice e1 D.m.xs.length f1) (.slice e2 D.m.ys.length f2) (.slice e3 D.m.is.length f3) (.slice e4 D.m.bs.length f4) (.slice e5 D.m.fs.length f5) (.slice e6 D.m.ds.length f6) D.m := (X3.out.2.2.2.2.2.1.stay (Stay.of_below _ b4)).stay ST
  have Go : ROwns (w4.setCell ⟨w.heap.size + 1 + 1, 10, none⟩ (.slice e10 D.kp.length f10)) (w.heap.size + 1 + 1 + 1) 9 (.slice e7 D.us.length f7) (scT D.us) := rowStay (rowStay (X3.out.2.2.2.2.2.2.1) (Stay.of_below _ b4)) ST
  have Ga : NdB (w4.setCell ⟨w.heap.size + 1 + 1, 10, none⟩ (.slice e10 D.kp.length f10)) (w.heap.size + 1 + 1 + 1) (.slice e8 D.md.length f8) D.md := (X3.out.2.2.2.2.2.2.2.1.stay (Stay.of_below _ b4)).stay ST
  have Gc : ROwns (w4.setCell ⟨w.heap.size + 1 + 1, 10, none⟩ (.slice e10 D.kp.length f10)) (w.heap.size + 1 + 1 + 1) 3 (.slice e9 D.cs.length f9) (ic D.cs) := rowStay (rowStay (X3.out.2.2.2.2.2.2.2.2) (Stay.of_below _ b4)) ST
  have Gk : NdB (w4.setCell ⟨w.heap.size + 1 + 1, 10, none⟩ (.slice e10 D.kp.length f10)) (w.heap.size + 1 + 1 + 1) (.slice e10 D.kp.length f10) D.kp := (o5.base_le X3.out.2.2.2.2.1).stay ST
  obtain ⟨W4, hW4⟩ : ∃ W, (w4.setCell ⟨w.heap.size + 1 + 1, 10, none⟩ (.slice e10 D.kp.length f10)) = W := ⟨_, rfl⟩
  rw [hW4] at KA KR KV KC KS Gm Go Ga Gc Gk
  have s0 : W4.cell? ⟨w.heap.size + 1 + 1, 0, none⟩ = some (.slice e1 D.m.xs.length f1) := KV.cell 0
  have r0 : W4.cell? ⟨w.heap.size + 1, 0, none⟩ = some (.slice none 0 0) := KR.cell 0
  have z0 := KR.frozen 0
  have s1 : W4.cell? ⟨w.heap.size + 1 + 1, 1, none⟩ = some (.slice e2 D.m.ys.length f2) := KV.cell 1
  have r1 : W4.cell? ⟨w.heap.size + 1, 1, none⟩ = some (.slice none 0 0) := KR.cell 1
  have z1 := KR.frozen 1
  have s2 : W4.cell? ⟨w.heap.size + 1 + 1, 2, none⟩ = some (.slice e3 D.m.is.length f3) := KV.cell 2
  have r2 : W4.cell? ⟨w.heap.size + 1, 2, none⟩ = some (.slice none 0 0) := KR.cell 2
  have z2 := KR.frozen 2
  have s3 : W4.cell? ⟨w.heap.size + 1 + 1, 3, none⟩ = some (.slice e4 D.m.bs.length f4) := KV.cell 3
  have r3 : W4.cell? ⟨w.heap.size + 1, 3, none⟩ = some (.slice none 0 0) := KR.cell 3
  have z3 := KR.frozen 3
  have s4 : W4.cell? ⟨w.heap.size + 1 + 1, 4, none⟩ = some (.slice e5 D.m.fs.length f5) := KV.cell 4
  have r4 : W4.cell? ⟨w.heap.size + 1, 4, none⟩ = some (.slice none 0 0) := KR.cell 4
  have z4 := KR.frozen 4
  have s5 : W4.cell? ⟨w.heap.size + 1 + 1, 5, none⟩ = some (.slice e6 D.m.ds.length f6) := KV.cell 5
  have r5 : W4.cell? ⟨w.heap.size + 1, 5, none⟩ = some (.slice none 0 0) := KR.cell 5
  have z5 := KR.frozen 5
  have s6 : W4.cell? ⟨w.heap.size + 1 + 1, 6, none⟩ = some (.int .i64 D.m.nx) := KV.cell 6
  have r6 : W4.cell? ⟨w.heap.size + 1, 6, none⟩ = some (.int .i64 0) := KR.cell 6
  have z6 := KR.frozen 6
  have s7 : W4.cell? ⟨w.heap.size + 1 + 1, 7, none⟩ = some (.slice e7 D.us.length f7) := KV.cell 7
  have r7 : W4.cell? ⟨w.heap.size + 1, 7, none⟩ = some (.slice none 0 0) := KR.cell 7
  have z7 := KR.frozen 7
  have s8 : W4.cell? ⟨w.heap.size + 1 + 1, 8, none⟩ = some (.slice e8 D.md.length f8) := KV.cell 8
  have r8 : W4.cell? ⟨w.heap.size + 1, 8, none⟩ = some (.slice none 0 0) := KR.cell 8
  have z8 := KR.frozen 8
  have s9 : W4.cell? ⟨w.heap.size + 1 + 1, 9, none⟩ = some (.slice e9 D.cs.length f9) := KV.cell 9
  have r9 : W4.cell? ⟨w.heap.size + 1, 9, none⟩ = some (.slice none 0 0) := KR.cell 9
  have z9 := KR.frozen 9
  have s10 : W4.cell? ⟨w.heap.size + 1 + 1, 10, none⟩ = some (.slice e10 D.kp.length f10) := KV.cell 10
  have r10 : W4.cell? ⟨w.heap.size + 1, 10, none⟩ = some (.slice none 0 0) := KR.cell 10
  have z10 := KR.frozen 10
  have lr := KR.lt
  have X4 := hide (And.intro KA (And.intro KR (And.intro KV (And.intro KC (And.intro KS (And.intro Gm (And.intro Go (And.intro Ga (And.intro Gc Gk)))))))))
  clear KA KR KV KC KS ST A4 R4 V4 C4 S4 b4 Gm Go Ga Gc Gk hW3 X3 x3_10 o5
  go_wp2
  refine bodyPost_ret (v := .agg #[.slice e1 D.m.xs.length f1, .slice e2 D.m.ys.length f2, .slice e3 D.m.is.length f3, .slice e4 D.m.bs.length f4, .slice e5 D.m.fs.length f5, .slice e6 D.m.ds.length f6, .int .i64 D.m.nx, .slice e7 D.us.length f7, .slice e8 D.md.length f8, .slice e9 D.cs.length f9, .slice e10 D.kp.length f10]) (by simp [results, go_sem, r0, r1, r2, r3, r4, r5, r6, r7, r8, r9, r10]) rfl ⟨_, _, _, _, _, _, _, _, _, _, rfl, ⟨?_, ?_, ?_, ?_, ?_⟩, ?_⟩
  · exact (X4.out.2.2.2.2.2.1.stay ((((((((((((Stay.refl (w.heap.size + 1 + 1 + 1) W4).set (by omega) 0 (.slice e1 D.m.xs.length f1)).set (by omega) 1 (.slice e2 D.m.ys.length f2)).set (by omega) 2 (.slice e3 D.m.is.length f3)).set (by omega) 3 (.slice e4 D.m.bs.length f4)).set (by omega) 4 (.slice e5 D.m.fs.length f5)).set (by omega) 5 (.slice e6 D.m.ds.length f6)).set (by omega) 6 (.int .i64 D.m.nx)).set (by omega) 7 (.slice e7 D.us.length f7)).set (by omega) 8 (.slice e8 D.md.length f8)).set (by omega) 9 (.slice e9 D.cs.length f9)).set (by omega) 10 (.slice e10 D.kp.length f10))).mr
  · exact (rowStay (X4.out.2.2.2.2.2.2.1) ((((((((((((Stay.refl (w.heap.size + 1 + 1 + 1) W4).set (by omega) 0 (.slice e1 D.m.xs.length f1)).set (by omega) 1 (.slice e2 D.m.ys.length f2)).set (by omega) 2 (.slice e3 D.m.is.length f3)).set (by omega) 3 (.slice e4 D.m.bs.length f4)).set (by omega) 4 (.slice e5 D.m.fs.length f5)).set (by omega) 5 (.slice e6 D.m.ds.length f6)).set (by omega) 6 (.int .i64 D.m.nx)).set (by omega) 7 (.slice e7 D.us.length f7)).set (by omega) 8 (.slice e8 D.md.length f8)).set (by omega) 9 (.slice e9 D.cs.length f9)).set (by omega) 10 (.slice e10 D.kp.length f10))).rst
  · exact (X4.out.2.2.2.2.2.2.2.1.stay ((((((((((((Stay.refl (w.heap.size + 1 + 1 + 1) W4).set (by omega) 0 (.slice e1 D.m.xs.length f1)).set (by omega) 1 (.slice e2 D.m.ys.length f2)).set (by omega) 2 (.slice e3 D.m.is.length f3)).set (by omega) 3 (.slice e4 D.m.bs.length f4)).set (by omega) 4 (.slice e5 D.m.fs.length f5)).set (by omega) 5 (.slice e6 D.m.ds.length f6)).set (by omega) 6 (.int .i64 D.m.nx)).set (by omega) 7 (.slice e7 D.us.length f7)).set (by omega) 8 (.slice e8 D.md.length f8)).set (by omega) 9 (.slice e9 D.cs.length f9)).set (by omega) 10 (.slice e10 D.kp.length f10))).rnd
  · exact (rowStay (X4.out.2.2.2.2.2.2.2.2.1) ((((((((((((Stay.refl (w.heap.size + 1 + 1 + 1) W4).set (by omega) 0 (.slice e1 D.m.xs.length f1)).set (by omega) 1 (.slice e2 D.m.ys.length f2)).set (by omega) 2 (.slice e3 D.m.is.length f3)).set (by omega) 3 (.slice e4 D.m.bs.length f4)).set (by omega) 4 (.slice e5 D.m.fs.length f5)).set (by omega) 5 (.slice e6 D.m.ds.length f6)).set (by omega) 6 (.int .i64 D.m.nx)).set (by omega) 7 (.slice e7 D.us.length f7)).set (by omega) 8 (.slice e8 D.md.length f8)).set (by omega) 9 (.slice e9 D.cs.length f9)).set (by omega) 10 (.slice e10 D.kp.length f10))).rints
  · exact (X4.out.2.2.2.2.2.2.2.2.2.stay ((((((((((((Stay.refl (w.heap.size + 1 + 1 + 1) W4).set (by omega) 0 (.slice e1 D.m.xs.length f1)).set (by omega) 1 (.slice e2 D.m.ys.length f2)).set (by omega) 2 (.slice e3 D.m.is.length f3)).set (by omega) 3 (.slice e4 D.m.bs.length f4)).set (by omega) 4 (.slice e5 D.m.fs.length f5)).set (by omega) 5 (.slice e6 D.m.ds.length f6)).set (by omega) 6 (.int .i64 D.m.nx)).set (by omega) 7 (.slice e7 D.us.length f7)).set (by omega) 8 (.slice e8 D.md.length f8)).set (by omega) 9 (.slice e9 D.cs.length f9)).set (by omega) 10 (.slice e10 D.kp.length f10))).rnd
  · exact (((((((((((X4.out.2.2.2.1.setCell (by simp) _).setCell (by simp) _).setCell (by simp) _).setCell (by simp) _).setCell (by simp) _).setCell (by simp) _).setCell (by simp) _).setCell (by simp) _).setCell (by simp) _).setCell (by simp) _).setCell (by simp) _)
end Go.Proofs.YtmjhgfkplolelaaGreat
/- laws.eqInodeS, laws.eqBlockS and laws.eqDisk of the same parts, by their contracts. -/
namespace Go.Proofs.YtmjhgfkplolelaaGreat
open Go.RowKit Kit
set_option maxRecDepth 100000 in
set_option maxHeartbeats 1600000 in
theorem eqInoS_same (va vb : Value) (l : List Ino) (w : World) (ha : R3 KI w va l) (hb : R3 KI w vb l) (hl : l.length ≤ 1048576) (hp : ∀ (j : Nat) (h : j < l.length), l[j].2.2.length ≤ 1048576) :
    Calls Tryz.prog 133 #[va, vb] w fun e w' => e = .returned (.bool true) ∧ Below w.heap.size w w' := by
  obtain ⟨a1, c1, rfl, -, ha'⟩ := ha.ino
  obtain ⟨a2, c2, rfl, -, hb'⟩ := hb.ino
  have HA := hide ha'
  have HB := hide hb'
  have HP := hide hp
  clear ha hb hp ha' hb'
  go_enter Tryz.func133, Tryz.ntmps133
  go_wp2
  go_loopw [5] (fun i wr => ∃ j : Nat, j ≤ l.length ∧ i = .int .i64 j ∧ Below w.heap.size w wr) (fun i _ => l.length - (intOf i).toNat)
  case atStart => exact ⟨0, Nat.zero_le _, rfl, Below.refl _ _⟩
  case round =>
    obtain ⟨j, hj, rfl, hb⟩ := hrel
    by_cases hlt : j < l.length
    · obtain ⟨g1, o1, p1, rfl, hg1, m1, m2, m3, hr1⟩ := HA.out j hlt
      obtain ⟨g2, o2, p2, rfl, hg2, n1, n2, n3, hr2⟩ := HB.out j hlt
      have hpl := HP.out j hlt
      obtain ⟨x, hx⟩ : ∃ x, l[j] = x := ⟨_, rfl⟩
      obtain ⟨y, s, z⟩ := x
      rw [hx] at m1 m2 n1 n2 hr1 hr2 hpl
      obtain ⟨pa, pc, rfl⟩ := hr1.form
      obtain ⟨pb, pd, rfl⟩ := hr2.form
      simp only at m1 m2 m3 n1 n2 n3 hr1 hr2 hpl
      have HS : Hid (∀ w', Below w.heap.size w w' → w'.cell? ⟨g1, o1 + j * 3, none⟩ = some (.int .i64 y) ∧ w'.cell? ⟨g1, o1 + j * 3 + 1, none⟩ = some (.int .i64 s) ∧ w'.cell? ⟨g1, o1 + j * 3 + 2, none⟩ = some (.slice pa z.length pc) ∧ w'.cell? ⟨g2, o2 + j * 3, none⟩ = some (.int .i64 y) ∧ w'.cell? ⟨g2, o2 + j * 3 + 1, none⟩ = some (.int .i64 s) ∧ w'.cell? ⟨g2, o2 + j * 3 + 2, none⟩ = some (.slice pb z.length pd)) := fun w' hb =>
        ⟨(hb.cell (p := ⟨g1, o1 + j * 3, none⟩) hg1).trans m1, (hb.cell (p := ⟨g1, o1 + j * 3 + 1, none⟩) hg1).trans m2, (hb.cell (p := ⟨g1, o1 + j * 3 + 2, none⟩) hg1).trans m3, (hb.cell (p := ⟨g2, o2 + j * 3, none⟩) hg2).trans n1, (hb.cell (p := ⟨g2, o2 + j * 3 + 1, none⟩) hg2).trans n2, (hb.cell (p := ⟨g2, o2 + j * 3 + 2, none⟩) hg2).trans n3⟩
      have HR : Hid (∀ w', Below w.heap.size w w' → RInts w' (.slice pa z.length pc) z ∧ RInts w' (.slice pb z.length pd) z) := fun w' hb => ⟨hr1.below hb (Nat.le_refl _), hr2.below hb (Nat.le_refl _)⟩
      have HPL : Hid (z.length ≤ 1000000000) := Nat.le_trans hpl (by decide)
      clear hx m1 m2 m3 n1 n2 n3 hr1 hr2 hpl
      obtain ⟨r1, r2, r3, r4, r5, r6⟩ := HS.out _ hb
      have j0 : (0 : Int) ≤ (j : Int) := by omega
      have j1 : (j : Int) < (l.length : Int) := by omega
      have hsz := hb.size
      have HBB := hide hb
      clear hb
      go_wp2_with fail
      go_region_held3 (fun w' => w'.cell? ⟨g1, o1 + j * 3, none⟩ = some (.int .i64 y) ∧ w'.cell? ⟨g1, o1 + j * 3 + 1, none⟩ = some (.int .i64 s) ∧ w'.cell? ⟨g1, o1 + j * 3 + 2, none⟩ = some (.slice pa z.length pc) ∧ w'.cell? ⟨g2, o2 + j * 3, none⟩ = some (.int .i64 y) ∧ w'.cell? ⟨g2, o2 + j * 3 + 1, none⟩ = some (.int .i64 s) ∧ w'.cell? ⟨g2, o2 + j * 3 + 2, none⟩ = some (.slice pb z.length pd)) (first | exact HS.out _ HBB.out.drew | exact HS.out _ (HBB.out.trans ((of_drew B6).mono hsz))) ((go_at_call 168; refine (eqN_sameI _ _ _ _ z _ (HR.out _ HBB.out.drew).1 (HR.out _ HBB.out.drew).2 HPL.out).mono ?_; rintro e w6 ⟨rfl, B6⟩))
      have HB2 := hide (HBB.out.trans ((of_drew B6).mono hsz))
      clear B6
      go_wp2
      go_roundw
      case rel => exact ⟨j + 1, by omega, by go_num, HB2.out⟩
      case measure => simp [intOf]; omega
    · have HBB := hide hb
      clear hb
      go_wp2
      go_ret
      exact ⟨rfl, HBB.out⟩
set_option maxRecDepth 100000 in
set_option maxHeartbeats 1600000 in
theorem eqBlkS_same (va vb : Value) (l : List Blk) (w : World) (ha : R3 KB w va l) (hb : R3 KB w vb l) (hl : l.length ≤ 1048576) (hp : ∀ (j : Nat) (h : j < l.length), l[j].2.1.length ≤ 1048576) :
    Calls Tryz.prog 134 #[va, vb] w fun e w' => e = .returned (.bool true) ∧ Below w.heap.size w w' := by
  obtain ⟨a1, c1, rfl, -, ha'⟩ := ha.blk
  obtain ⟨a2, c2, rfl, -, hb'⟩ := hb.blk
  have HA := hide ha'
  have HB := hide hb'
  have HP := hide hp
  clear ha hb hp ha' hb'
  go_enter Tryz.func134, Tryz.ntmps134
  go_wp2
  go_loopw [5] (fun i wr => ∃ j : Nat, j ≤ l.length ∧ i = .int .i64 j ∧ Below w.heap.size w wr) (fun i _ => l.length - (intOf i).toNat)
  case atStart => exact ⟨0, Nat.zero_le _, rfl, Below.refl _ _⟩
  case round =>
    obtain ⟨j, hj, rfl, hb⟩ := hrel
    by_cases hlt : j < l.length
    · obtain ⟨g1, o1, p1, rfl, hg1, m1, m2, m3, hr1⟩ := HA.out j hlt
      obtain ⟨g2, o2, p2, rfl, hg2, n1, n2, n3, hr2⟩ := HB.out j hlt
      have hpl := HP.out j hlt
      obtain ⟨x, hx⟩ : ∃ x, l[j] = x := ⟨_, rfl⟩
      obtain ⟨y, s, z⟩ := x
      rw [hx] at m1 m3 n1 n3 hr1 hr2 hpl
      obtain ⟨pa, pc, rfl⟩ := hr1.form
      obtain ⟨pb, pd, rfl⟩ := hr2.form
      simp only at m1 m2 m3 n1 n2 n3 hr1 hr2 hpl
      have HS : Hid (∀ w', Below w.heap.size w w' → w'.cell? ⟨g1, o1 + j * 3, none⟩ = some (.bool y) ∧ w'.cell? ⟨g1, o1 + j * 3 + 1, none⟩ = some (.slice pa s.length pc) ∧ w'.cell? ⟨g1, o1 + j * 3 + 2, none⟩ = some (.string z) ∧ w'.cell? ⟨g2, o2 + j * 3, none⟩ = some (.bool y) ∧ w'.cell? ⟨g2, o2 + j * 3 + 1, none⟩ = some (.slice pb s.length pd) ∧ w'.cell? ⟨g2, o2 + j * 3 + 2, none⟩ = some (.string z)) := fun w' hb =>
        ⟨(hb.cell (p := ⟨g1, o1 + j * 3, none⟩) hg1).trans m1, (hb.cell (p := ⟨g1, o1 + j * 3 + 1, none⟩) hg1).trans m2, (hb.cell (p := ⟨g1, o1 + j * 3 + 2, none⟩) hg1).trans m3, (hb.cell (p := ⟨g2, o2 + j * 3, none⟩) hg2).trans n1, (hb.cell (p := ⟨g2, o2 + j * 3 + 1, none⟩) hg2).trans n2, (hb.cell (p := ⟨g2, o2 + j * 3 + 2, none⟩) hg2).trans n3⟩
      have HR : Hid (∀ w', Below w.heap.size w w' → RSl w' (.slice pa s.length pc) s ∧ RSl w' (.slice pb s.length pd) s) := fun w' hb => ⟨hr1.below hb (Nat.le_refl _), hr2.below hb (Nat.le_refl _)⟩
      have HPL := hide hpl
      clear hx m1 m2 m3 n1 n2 n3 hr1 hr2 hpl
      obtain ⟨r1, r2, r3, r4, r5, r6⟩ := HS.out _ hb
      have j0 : (0 : Int) ≤ (j : Int) := by omega
      have j1 : (j : Int) < (l.length : Int) := by omega
      have hsz := hb.size
      have HBB := hide hb
      clear hb
      go_wp2_with fail
      go_region_held3 (fun w' => w'.cell? ⟨g1, o1 + j * 3, none⟩ = some (.bool y) ∧ w'.cell? ⟨g1, o1 + j * 3 + 1, none⟩ = some (.slice pa s.length pc) ∧ w'.cell? ⟨g1, o1 + j * 3 + 2, none⟩ = some (.string z) ∧ w'.cell? ⟨g2, o2 + j * 3, none⟩ = some (.bool y) ∧ w'.cell? ⟨g2, o2 + j * 3 + 1, none⟩ = some (.slice pb s.length pd) ∧ w'.cell? ⟨g2, o2 + j * 3 + 2, none⟩ = some (.string z)) (first | exact HS.out _ HBB.out.drew | exact HS.out _ (HBB.out.trans ((of_drew B6).mono hsz))) ((go_at_call 169; refine (eqB_sameK _ _ _ _ s _ (HR.out _ HBB.out.drew).1 (HR.out _ HBB.out.drew).2 HPL.out).mono ?_; rintro e w6 ⟨rfl, B6⟩))
      have HB2 := hide (HBB.out.trans ((of_drew B6).mono hsz))
      clear B6
      go_wp2
      go_roundw
      case rel => exact ⟨j + 1, by omega, by go_num, HB2.out⟩
      case measure => simp [intOf]; omega
    · have HBB := hide hb
      clear hb
      go_wp2
      go_ret
      exact ⟨rfl, HBB.out⟩
set_option maxRecDepth 100000 in
set_option maxHeartbeats 1600000 in
theorem eqDisk_same (u v iv bv u' v' i' b' : Value) (xs ys : List Bool) (is : List Ino) (bs : List Blk) (w : World) (h : DR w u v iv bv xs ys is bs) (h' : DR w u' v' i' b' xs ys is bs) (hB : Big 1048576 xs ys is bs) :
    Calls Tryz.prog 76 #[.agg #[u, v, iv, bv], .agg #[u', v', i', b']] w fun e w' => e = .returned (.bool true) ∧ Below w.heap.size w w' := by
  have H := hide h
  have H' := hide h'
  have HG := hide hB
  obtain ⟨a1, c1, a2, c2, a3, c3, a4, c4, rfl, rfl, rfl, rfl⟩ := h.form
  obtain ⟨d1, k1, d2, k2, d3, k3, d4, k4, rfl, rfl, rfl, rfl⟩ := h'.form
  clear h hB h'
  go_enter Tryz.func76, Tryz.ntmps76
  go_wp2_with fail
  refine (eqN_sameB _ _ _ _ xs ys _ ((H.out.a.alloc _).alloc _) ((H.out.b.alloc _).alloc _) ((H'.out.a.alloc _).alloc _) ((H'.out.b.alloc _).alloc _) (Nat.le_trans HG.out.x (by decide)) (Nat.le_trans HG.out.y (by decide))).mono ?_
  rintro e w1 ⟨rfl, B1⟩
  have BW : Below w.heap.size w w1 := (((Below.refl _ w).alloc (Nat.le_refl _) _).alloc (by simp) _).trans (B1.mono (by simp; omega))
  have K0 : AtC w1 w.heap.size 47 #[.slice a1 xs.length c1, .slice a2 ys.length c2, .slice a3 is.length c3, .slice a4 bs.length c4] := ((AtC.new w 47 _).alloc _).over B1
  have K1 : AtC w1 (w.heap.size + 1) 47 #[.slice d1 xs.length k1, .slice d2 ys.length k2, .slice d3 is.length k3, .slice d4 bs.length k4] := by
    have := (AtC.new (w.alloc (Obj.cells #[.slice a1 xs.length c1, .slice a2 ys.length c2, .slice a3 is.length c3, .slice a4 bs.length c4] 47)) 47 #[.slice d1 xs.length k1, .slice d2 ys.length k2, .slice d3 is.length k3, .slice d4 bs.length k4]).over B1
    simpa using this
  have p2 : w1.cell? ⟨w.heap.size, 2, none⟩ = some (.slice a3 is.length c3) := K0.cell 2
  have q2 : w1.cell? ⟨w.heap.size + 1, 2, none⟩ = some (.slice d3 is.length k3) := K1.cell 2
  have HBW := hide BW
  have HK0 := hide K0
  have HK1 := hide K1
  clear B1 BW K0 K1
  go_wp2_with fail
  refine (eqInoS_same _ _ is _ (H.out.i.below HBW.out (Nat.le_refl _)) (H'.out.i.below HBW.out (Nat.le_refl _)) HG.out.i HG.out.p).mono ?_
  rintro e w2 ⟨rfl, B2⟩
  have BW2 := HBW.out.trans (B2.mono HBW.out.size)
  have K0 := HK0.out.over B2
  have K1 := HK1.out.over B2
  have p3 : w2.cell? ⟨w.heap.size, 3, none⟩ = some (.slice a4 bs.length c4) := K0.cell 3
  have q3 : w2.cell? ⟨w.heap.size + 1, 3, none⟩ = some (.slice d4 bs.length k4) := K1.cell 3
  have HBW2 := hide BW2
  clear B2 BW2 K0 K1 HBW
  go_wp2_with fail
  refine (eqBlkS_same _ _ bs _ (H.out.k.below HBW2.out (Nat.le_refl _)) (H'.out.k.below HBW2.out (Nat.le_refl _)) HG.out.b (fun j hj => (HG.out.s j hj).1)).mono ?_
  rintro e w3 ⟨rfl, B3⟩
  have HBW3 := hide (HBW2.out.trans (B3.mono HBW2.out.size))
  clear B3
  go_wp2
  go_ret
  exact ⟨rfl, HBW3.out⟩
end Go.Proofs.YtmjhgfkplolelaaGreat
/- laws.eqDep, laws.eqDepS and laws.eqMem of the same parts, by their contracts. -/
namespace Go.Proofs.YtmjhgfkplolelaaGreat
open Go.RowKit Kit
set_option maxRecDepth 100000 in
set_option maxHeartbeats 1600000 in
theorem eqDep_same (id kd io pt bk sl : Int) (nm : ByteArray) (bt ot : Bool) (af : Int) (bl : List Int) (p q : Value) (w : World) (h1 : RInts w p bl) (h2 : RInts w q bl) (hl : bl.length ≤ 1000000000) :
    Calls Tryz.prog 135 #[.agg #[.int .i64 id, .int .i64 kd, .int .i64 io, .int .i64 pt, .int .i64 bk, .int .i64 sl, .string nm, .bool bt, .bool ot, .int .i64 af, p], .agg #[.int .i64 id, .int .i64 kd, .int .i64 io, .int .i64 pt, .int .i64 bk, .int .i64 sl, .string nm, .bool bt, .bool ot, .int .i64 af, q]] w fun e w' => e = .returned (.bool true) ∧ Below w.heap.size w w' := by
  have H1 := hide h1
  have H2 := hide h2
  obtain ⟨pa, pc, rfl⟩ := h1.form
  obtain ⟨pb, pd, rfl⟩ := h2.form
  clear h1 h2
  go_enter Tryz.func135, Tryz.ntmps135
  go_wp2_with fail
  refine (eqI_same _ _ bl _ ((H1.out.alloc _).alloc _) ((H2.out.alloc _).alloc _) hl).mono ?_
  rintro e w1 ⟨rfl, B1⟩
  have HB : Hid (Below w.heap.size w w1) := (((Below.refl _ w).alloc (Nat.le_refl _) _).alloc (by simp) _).trans (B1.mono (by simp; omega))
  clear B1
  go_wp2
  go_ret
  exact ⟨rfl, HB.out⟩
set_option maxRecDepth 100000 in
set_option maxHeartbeats 3200000 in
theorem eqDepS_same (va vb : Value) (l : List Dp) (w : World) (ha : RN KDep w va l) (hb : RN KDep w vb l) (hl : l.length ≤ 1048576) (hp : ∀ (j : Nat) (h : j < l.length), l[j].bl.length ≤ 1048576) :
    Calls Tryz.prog 78 #[va, vb] w fun e w' => e = .returned (.bool true) ∧ Below w.heap.size w w' := by
  obtain ⟨a1, c1, rfl, -, ha'⟩ := ha.dep
  obtain ⟨a2, c2, rfl, -, hb'⟩ := hb.dep
  have HA := hide ha'
  have HB := hide hb'
  have HP := hide hp
  clear ha hb hp ha' hb'
  go_enter Tryz.func78, Tryz.ntmps78
  go_wp2
  go_loopw [5] (fun i wr => ∃ j : Nat, j ≤ l.length ∧ i = .int .i64 j ∧ Below w.heap.size w wr) (fun i _ => l.length - (intOf i).toNat)
  case atStart => exact ⟨0, Nat.zero_le _, rfl, Below.refl _ _⟩
  case round =>
    obtain ⟨j, hj, rfl, hb⟩ := hrel
    by_cases hlt : j < l.length
    · obtain ⟨g1, o1, p1, rfl, hg1, m1, hr1⟩ := HA.out j hlt
      obtain ⟨g2, o2, p2, rfl, hg2, m2, hr2⟩ := HB.out j hlt
      have hpl := HP.out j hlt
      obtain ⟨x, hx⟩ : ∃ x, l[j] = x := ⟨_, rfl⟩
      obtain ⟨id, kd, io, pt, bk, sl, nm, bt, ot, af, bl⟩ := x
      rw [hx] at m1 m2 hr1 hr2 hpl
      simp only at hr1 hr2 hpl
      obtain ⟨pa, pc, rfl⟩ := hr1.form
      obtain ⟨pb, pd, rfl⟩ := hr2.form
      have HS : Hid (∀ w', Below w.heap.size w w' → w'.cell? ⟨g1, o1 + j * 11, none⟩ = some (.int .i64 id) ∧ w'.cell? ⟨g1, o1 + j * 11 + 1, none⟩ = some (.int .i64 kd) ∧ w'.cell? ⟨g1, o1 + j * 11 + 2, none⟩ = some (.int .i64 io) ∧ w'.cell? ⟨g1, o1 + j * 11 + 3, none⟩ = some (.int .i64 pt) ∧ w'.cell? ⟨g1, o1 + j * 11 + 4, none⟩ = some (.int .i64 bk) ∧ w'.cell? ⟨g1, o1 + j * 11 + 5, none⟩ = some (.int .i64 sl) ∧ w'.cell? ⟨g1, o1 + j * 11 + 6, none⟩ = some (.string nm) ∧ w'.cell? ⟨g1, o1 + j * 11 + 7, none⟩ = some (.bool bt) ∧ w'.cell? ⟨g1, o1 + j * 11 + 8, none⟩ = some (.bool ot) ∧ w'.cell? ⟨g1, o1 + j * 11 + 9, none⟩ = some (.int .i64 af) ∧ w'.cell? ⟨g1, o1 + j * 11 + 10, none⟩ = some (.slice pa bl.length pc) ∧ w'.cell? ⟨g2, o2 + j * 11, none⟩ = some (.int .i64 id) ∧ w'.cell? ⟨g2, o2 + j * 11 + 1, none⟩ = some (.int .i64 kd) ∧ w'.cell? ⟨g2, o2 + j * 11 + 2, none⟩ = some (.int .i64 io) ∧ w'.cell? ⟨g2, o2 + j * 11 + 3, none⟩ = some (.int .i64 pt) ∧ w'.cell? ⟨g2, o2 + j * 11 + 4, none⟩ = some (.int .i64 bk) ∧ w'.cell? ⟨g2, o2 + j * 11 + 5, none⟩ = some (.int .i64 sl) ∧ w'.cell? ⟨g2, o2 + j * 11 + 6, none⟩ = some (.string nm) ∧ w'.cell? ⟨g2, o2 + j * 11 + 7, none⟩ = some (.bool bt) ∧ w'.cell? ⟨g2, o2 + j * 11 + 8, none⟩ = some (.bool ot) ∧ w'.cell? ⟨g2, o2 + j * 11 + 9, none⟩ = some (.int .i64 af) ∧ w'.cell? ⟨g2, o2 + j * 11 + 10, none⟩ = some (.slice pb bl.length pd)) := fun w' hb => by
        have n1 := m1.below hb hg1
        have n2 := m2.below hb hg2
        simp only [DCells] at n1 n2
        exact ⟨n1.1, n1.2.1, n1.2.2.1, n1.2.2.2.1, n1.2.2.2.2.1, n1.2.2.2.2.2.1, n1.2.2.2.2.2.2.1, n1.2.2.2.2.2.2.2.1, n1.2.2.2.2.2.2.2.2.1, n1.2.2.2.2.2.2.2.2.2.1, n1.2.2.2.2.2.2.2.2.2.2, n2.1, n2.2.1, n2.2.2.1, n2.2.2.2.1, n2.2.2.2.2.1, n2.2.2.2.2.2.1, n2.2.2.2.2.2.2.1, n2.2.2.2.2.2.2.2.1, n2.2.2.2.2.2.2.2.2.1, n2.2.2.2.2.2.2.2.2.2.1, n2.2.2.2.2.2.2.2.2.2.2⟩
      have HR : Hid (∀ w', Below w.heap.size w w' → RInts w' (.slice pa bl.length pc) bl ∧ RInts w' (.slice pb bl.length pd) bl) := fun w' hb => ⟨hr1.below hb (Nat.le_refl _), hr2.below hb (Nat.le_refl _)⟩
      have HPL : Hid (bl.length ≤ 1000000000) := Nat.le_trans hpl (by decide)
      clear hx m1 m2 hr1 hr2 hpl
      have hh := HS.out _ hb
      obtain ⟨r0, r1, r2, r3, r4, r5, r6, r7, r8, r9, r10, r11, r12, r13, r14, r15, r16, r17, r18, r19, r20, r21⟩ := hh
      have j0 : (0 : Int) ≤ (j : Int) := by omega
      have j1 : (j : Int) < (l.length : Int) := by omega
      have hsz := hb.size
      have HBB := hide hb
      clear hb
      go_wp2_with fail
      go_region_held3 (fun w' => w'.cell? ⟨g1, o1 + j * 11, none⟩ = some (.int .i64 id) ∧ w'.cell? ⟨g1, o1 + j * 11 + 1, none⟩ = some (.int .i64 kd) ∧ w'.cell? ⟨g1, o1 + j * 11 + 2, none⟩ = some (.int .i64 io) ∧ w'.cell? ⟨g1, o1 + j * 11 + 3, none⟩ = some (.int .i64 pt) ∧ w'.cell? ⟨g1, o1 + j * 11 + 4, none⟩ = some (.int .i64 bk) ∧ w'.cell? ⟨g1, o1 + j * 11 + 5, none⟩ = some (.int .i64 sl) ∧ w'.cell? ⟨g1, o1 + j * 11 + 6, none⟩ = some (.string nm) ∧ w'.cell? ⟨g1, o1 + j * 11 + 7, none⟩ = some (.bool bt) ∧ w'.cell? ⟨g1, o1 + j * 11 + 8, none⟩ = some (.bool ot) ∧ w'.cell? ⟨g1, o1 + j * 11 + 9, none⟩ = some (.int .i64 af) ∧ w'.cell? ⟨g1, o1 + j * 11 + 10, none⟩ = some (.slice pa bl.length pc) ∧ w'.cell? ⟨g2, o2 + j * 11, none⟩ = some (.int .i64 id) ∧ w'.cell? ⟨g2, o2 + j * 11 + 1, none⟩ = some (.int .i64 kd) ∧ w'.cell? ⟨g2, o2 + j * 11 + 2, none⟩ = some (.int .i64 io) ∧ w'.cell? ⟨g2, o2 + j * 11 + 3, none⟩ = some (.int .i64 pt) ∧ w'.cell? ⟨g2, o2 + j * 11 + 4, none⟩ = some (.int .i64 bk) ∧ w'.cell? ⟨g2, o2 + j * 11 + 5, none⟩ = some (.int .i64 sl) ∧ w'.cell? ⟨g2, o2 + j * 11 + 6, none⟩ = some (.string nm) ∧ w'.cell? ⟨g2, o2 + j * 11 + 7, none⟩ = some (.bool bt) ∧ w'.cell? ⟨g2, o2 + j * 11 + 8, none⟩ = some (.bool ot) ∧ w'.cell? ⟨g2, o2 + j * 11 + 9, none⟩ = some (.int .i64 af) ∧ w'.cell? ⟨g2, o2 + j * 11 + 10, none⟩ = some (.slice pb bl.length pd)) (first | exact HS.out _ HBB.out.drew | exact HS.out _ (HBB.out.trans ((of_drew B6).mono hsz))) ((go_at_call 135; refine (eqDep_same id kd io pt bk sl nm bt ot af bl _ _ _ (HR.out _ HBB.out.drew).1 (HR.out _ HBB.out.drew).2 HPL.out).mono ?_; rintro e w6 ⟨rfl, B6⟩))
      have HB2 := hide (HBB.out.trans ((of_drew B6).mono hsz))
      clear B6
      go_wp2
      go_roundw
      case rel => exact ⟨j + 1, by omega, by go_num, HB2.out⟩
      case measure => simp [intOf]; omega
    · have HBB := hide hb
      clear hb
      go_wp2
      go_ret
      exact ⟨rfl, HBB.out⟩
end Go.Proofs.YtmjhgfkplolelaaGreat
/- laws.eqMem of the same parts, by its contract. -/
namespace Go.Proofs.YtmjhgfkplolelaaGreat
open Go.RowKit Kit
set_option maxRecDepth 100000 in
set_option maxHeartbeats 1600000 in
theorem eqMem_same (u v iv bv dv pv u' v' i' b' d' p' : Value) (m : MD) (w : World) (h : MR w u v iv bv dv pv m) (h' : MR w u' v' i' b' d' p' m) (hB : BigM 1048576 m) :
    Calls Tryz.prog 40 #[.agg #[u, v, iv, bv, dv, pv, .int .i64 m.nx], .agg #[u', v', i', b', d', p', .int .i64 m.nx]] w fun e w' => e = .returned (.bool true) ∧ Below w.heap.size w w' := by
  have H := hide h
  have H' := hide h'
  have HG := hide hB
  obtain ⟨a1, c1, a2, c2, a3, c3, a4, c4, a5, c5, a6, c6, rfl, rfl, rfl, rfl, rfl, rfl⟩ := h.form
  obtain ⟨d1, k1, d2, k2, d3, k3, d4, k4, d5, k5, d6, k6, rfl, rfl, rfl, rfl, rfl, rfl⟩ := h'.form
  clear h hB h'
  go_enter Tryz.func40, Tryz.ntmps40
  go_wp2_with fail
  refine (eqDisk_same _ _ _ _ _ _ _ _ m.xs m.ys m.is m.bs _ ((H.out.d.alloc _).alloc _) ((H'.out.d.alloc _).alloc _) HG.out.d).mono ?_
  rintro e w1 ⟨rfl, B1⟩
  have BW : Below w.heap.size w w1 := (((Below.refl _ w).alloc (Nat.le_refl _) _).alloc (by simp) _).trans (B1.mono (by simp; omega))
  have K0 : AtC w1 w.heap.size 50 #[.slice a1 m.xs.length c1, .slice a2 m.ys.length c2, .slice a3 m.is.length c3, .slice a4 m.bs.length c4, .slice a5 m.fs.length c5, .slice a6 m.ds.length c6, .int .i64 m.nx] := ((AtC.new w 50 _).alloc _).over B1
  have K1 : AtC w1 (w.heap.size + 1) 50 #[.slice d1 m.xs.length k1, .slice d2 m.ys.length k2, .slice d3 m.is.length k3, .slice d4 m.bs.length k4, .slice d5 m.fs.length k5, .slice d6 m.ds.length k6, .int .i64 m.nx] := by
    have := (AtC.new (w.alloc (Obj.cells #[.slice a1 m.xs.length c1, .slice a2 m.ys.length c2, .slice a3 m.is.length c3, .slice a4 m.bs.length c4, .slice a5 m.fs.length c5, .slice a6 m.ds.length c6, .int .i64 m.nx] 50)) 50 #[.slice d1 m.xs.length k1, .slice d2 m.ys.length k2, .slice d3 m.is.length k3, .slice d4 m.bs.length k4, .slice d5 m.fs.length k5, .slice d6 m.ds.length k6, .int .i64 m.nx]).over B1
    simpa using this
  have p2 : w1.cell? ⟨w.heap.size, 4, none⟩ = some (.slice a5 m.fs.length c5) := K0.cell 4
  have q2 : w1.cell? ⟨w.heap.size + 1, 4, none⟩ = some (.slice d5 m.fs.length k5) := K1.cell 4
  have HBW := hide BW
  have HK0 := hide K0
  have HK1 := hide K1
  clear B1 BW K0 K1
  go_wp2_with fail
  refine (eqB_sameB _ _ m.fs _ (H.out.f.below HBW.out (Nat.le_refl _)) (H'.out.f.below HBW.out (Nat.le_refl _)) (Nat.le_trans HG.out.f (by decide))).mono ?_
  rintro e w2 ⟨rfl, B2⟩
  have BW2 := HBW.out.trans (B2.mono HBW.out.size)
  have K0 := HK0.out.over B2
  have K1 := HK1.out.over B2
  have p3 : w2.cell? ⟨w.heap.size, 5, none⟩ = some (.slice a6 m.ds.length c6) := K0.cell 5
  have q3 : w2.cell? ⟨w.heap.size + 1, 5, none⟩ = some (.slice d6 m.ds.length k6) := K1.cell 5
  have HBW2 := hide BW2
  have HL0 := hide K0
  have HL1 := hide K1
  clear B2 BW2 K0 K1 HBW HK0 HK1
  go_wp2_with fail
  refine (eqDepS_same _ _ m.ds _ (H.out.p.below HBW2.out (Nat.le_refl _)) (H'.out.p.below HBW2.out (Nat.le_refl _)) HG.out.l HG.out.b).mono ?_
  rintro e w3 ⟨rfl, B3⟩
  have K0 := HL0.out.over B3
  have K1 := HL1.out.over B3
  have p4 : w3.cell? ⟨w.heap.size, 6, none⟩ = some (.int .i64 m.nx) := K0.cell 6
  have q4 : w3.cell? ⟨w.heap.size + 1, 6, none⟩ = some (.int .i64 m.nx) := K1.cell 6
  have HBW3 := hide (HBW2.out.trans (B3.mono HBW2.out.size))
  clear B3 K0 K1 p2 q2 p3 q3
  go_wp2
  go_ret
  exact ⟨rfl, HBW3.out⟩
end Go.Proofs.YtmjhgfkplolelaaGreat
/- laws.eqFs and eqWorld of the same, by their contracts. -/
namespace Go.Proofs.YtmjhgfkplolelaaGreat
open Go.RowKit Kit
set_option maxRecDepth 100000 in
set_option maxHeartbeats 3200000 in
theorem eqFs_same (u v iv bv dv pv ov u' v' i' b' d' p' o' : Value) (D : WD) (w : World) (h : MR w u v iv bv dv pv D.m) (h2 : RSt w ov D.us) (h3 : MR w u' v' i' b' d' p' D.m) (h4 : RSt w o' D.us) (hB : LimW D) :
    Calls Tryz.prog 18 #[.agg #[u, v, iv, bv, dv, pv, .int .i64 D.m.nx, ov], .agg #[u', v', i', b', d', p', .int .i64 D.m.nx, o']] w fun e w' => e = .returned (.bool true) ∧ Below w.heap.size w w' := by
  have H := hide (And.intro (And.intro h h2) (And.intro h3 h4))
  obtain ⟨a1, c1, a2, c2, a3, c3, a4, c4, a5, c5, a6, c6, rfl, rfl, rfl, rfl, rfl, rfl⟩ := h.form
  obtain ⟨a7, c7, rfl⟩ := h2.form
  obtain ⟨d1, k1, d2, k2, d3, k3, d4, k4, d5, k5, d6, k6, rfl, rfl, rfl, rfl, rfl, rfl⟩ := h3.form
  obtain ⟨d7, k7, rfl⟩ := h4.form
  clear h h2 h3 h4
  have HG := hide hB
  clear hB
  have X0 : Hid (AtC ((w.alloc (.cells #[.slice a1 D.m.xs.length c1, .slice a2 D.m.ys.length c2, .slice a3 D.m.is.length c3, .slice a4 D.m.bs.length c4, .slice a5 D.m.fs.length c5, .slice a6 D.m.ds.length c6, .int .i64 D.m.nx, .slice a7 D.us.length c7] 53)).alloc (.cells #[.slice d1 D.m.xs.length k1, .slice d2 D.m.ys.length k2, .slice d3 D.m.is.length k3, .slice d4 D.m.bs.length k4, .slice d5 D.m.fs.length k5, .slice d6 D.m.ds.length k6, .int .i64 D.m.nx, .slice d7 D.us.length k7] 53)) w.heap.size 53 #[.slice a1 D.m.xs.length c1, .slice a2 D.m.ys.length c2, .slice a3 D.m.is.length c3, .slice a4 D.m.bs.length c4, .slice a5 D.m.fs.length c5, .slice a6 D.m.ds.length c6, .int .i64 D.m.nx, .slice a7 D.us.length c7] ∧ AtC ((w.alloc (.cells #[.slice a1 D.m.xs.length c1, .slice a2 D.m.ys.length c2, .slice a3 D.m.is.length c3, .slice a4 D.m.bs.length c4, .slice a5 D.m.fs.length c5, .slice a6 D.m.ds.length c6, .int .i64 D.m.nx, .slice a7 D.us.length c7] 53)).alloc (.cells #[.slice d1 D.m.xs.length k1, .slice d2 D.m.ys.length k2, .slice d3 D.m.is.length k3, .slice d4 D.m.bs.length k4, .slice d5 D.m.fs.length k5, .slice d6 D.m.ds.length k6, .int .i64 D.m.nx, .slice d7 D.us.length k7] 53)) (w.heap.size + 1) 53 #[.slice d1 D.m.xs.length k1, .slice d2 D.m.ys.length k2, .slice d3 D.m.is.length k3, .slice d4 D.m.bs.length k4, .slice d5 D.m.fs.length k5, .slice d6 D.m.ds.length k6, .int .i64 D.m.nx, .slice d7 D.us.length k7] ∧ Below w.heap.size w ((w.alloc (.cells #[.slice a1 D.m.xs.length c1, .slice a2 D.m.ys.length c2, .slice a3 D.m.is.length c3, .slice a4 D.m.bs.length c4, .slice a5 D.m.fs.length c5, .slice a6 D.m.ds.length c6, .int .i64 D.m.nx, .slice a7 D.us.length c7] 53)).alloc (.cells #[.slice d1 D.m.xs.length k1, .slice d2 D.m.ys.length k2, .slice d3 D.m.is.length k3, .slice d4 D.m.bs.length k4, .slice d5 D.m.fs.length k5, .slice d6 D.m.ds.length k6, .int .i64 D.m.nx, .slice d7 D.us.length k7] 53))) := by
    refine ⟨(AtC.new w 53 _).alloc _, ?_, ((Below.refl _ w).alloc (Nat.le_refl _) _).alloc (by simp) _⟩
    have := AtC.new (w.alloc (.cells #[.slice a1 D.m.xs.length c1, .slice a2 D.m.ys.length c2, .slice a3 D.m.is.length c3, .slice a4 D.m.bs.length c4, .slice a5 D.m.fs.length c5, .slice a6 D.m.ds.length c6, .int .i64 D.m.nx, .slice a7 D.us.length c7] 53)) 53 #[.slice d1 D.m.xs.length k1, .slice d2 D.m.ys.length k2, .slice d3 D.m.is.length k3, .slice d4 D.m.bs.length k4, .slice d5 D.m.fs.length k5, .slice d6 D.m.ds.length k6, .int .i64 D.m.nx, .slice d7 D.us.length k7]
    simpa using this
  go_enter Tryz.func18, Tryz.ntmps18
  go_wp2_with fail
  refine (eqMem_same _ _ _ _ _ _ _ _ _ _ _ _ D.m _ (H.out.1.1.below X0.out.2.2 (Nat.le_refl _)) (H.out.2.1.below X0.out.2.2 (Nat.le_refl _)) HG.out.m).mono ?_
  rintro e w1 ⟨rfl, b1⟩
  have X1 := hide (And.intro (X0.out.1.over b1) (And.intro (X0.out.2.1.over b1) (X0.out.2.2.trans (b1.mono X0.out.2.2.size))))
  have p7 : w1.cell? ⟨w.heap.size, 7, none⟩ = some (.slice a7 D.us.length c7) := X1.out.1.cell 7
  have q7 : w1.cell? ⟨w.heap.size + 1, 7, none⟩ = some (.slice d7 D.us.length k7) := X1.out.2.1.cell 7
  clear b1 X0
  go_wp2_with fail
  refine (eqD_same _ _ D.us _ (H.out.1.2.below X1.out.2.2 (Nat.le_refl _)) (H.out.2.2.below X1.out.2.2 (Nat.le_refl _)) (Nat.le_trans HG.out.u (by decide))).mono ?_
  rintro e w2 ⟨rfl, b2⟩
  have X2 := hide (And.intro (X1.out.1.over b2) (And.intro (X1.out.2.1.over b2) (X1.out.2.2.trans (b2.mono X1.out.2.2.size))))
  clear b2 X1 p7 q7
  go_wp2
  go_ret
  exact ⟨rfl, X2.out.2.2⟩
set_option maxRecDepth 100000 in
set_option maxHeartbeats 3200000 in
theorem eqWorld_same (u v iv bv dv pv ov mv cv kv u' v' i' b' d' p' o' m' c' k' : Value) (D : WD) (w : World) (h : WR w u v iv bv dv pv ov mv cv kv D) (h2 : WR w u' v' i' b' d' p' o' m' c' k' D) (hB : LimW D) :
    Calls Tryz.prog 8 #[.agg #[u, v, iv, bv, dv, pv, .int .i64 D.m.nx, ov, mv, cv, kv], .agg #[u', v', i', b', d', p', .int .i64 D.m.nx, o', m', c', k']] w fun e w' => e = .returned (.bool true) ∧ Below w.heap.size w w' := by
  have H := hide (And.intro h h2)
  obtain ⟨a1, c1, a2, c2, a3, c3, a4, c4, a5, c5, a6, c6, a7, c7, a8, c8, a9, c9, a10, c10, rfl, rfl, rfl, rfl, rfl, rfl, rfl, rfl, rfl, rfl⟩ := h.form
  obtain ⟨d1, k1, d2, k2, d3, k3, d4, k4, d5, k5, d6, k6, d7, k7, d8, k8, d9, k9, d10, k10, rfl, rfl, rfl, rfl, rfl, rfl, rfl, rfl, rfl, rfl⟩ := h2.form
  clear h h2
  have HG := hide hB
  clear hB
  have X0 : Hid (AtC ((w.alloc (.cells #[.slice a1 D.m.xs.length c1, .slice a2 D.m.ys.length c2, .slice a3 D.m.is.length c3, .slice a4 D.m.bs.length c4, .slice a5 D.m.fs.length c5, .slice a6 D.m.ds.length c6, .int .i64 D.m.nx, .slice a7 D.us.length c7, .slice a8 D.md.length c8, .slice a9 D.cs.length c9, .slice a10 D.kp.length c10] 56)).alloc (.cells #[.slice d1 D.m.xs.length k1, .slice d2 D.m.ys.length k2, .slice d3 D.m.is.length k3, .slice d4 D.m.bs.length k4, .slice d5 D.m.fs.length k5, .slice d6 D.m.ds.length k6, .int .i64 D.m.nx, .slice d7 D.us.length k7, .slice d8 D.md.length k8, .slice d9 D.cs.length k9, .slice d10 D.kp.length k10] 56)) w.heap.size 56 #[.slice a1 D.m.xs.length c1, .slice a2 D.m.ys.length c2, .slice a3 D.m.is.length c3, .slice a4 D.m.bs.length c4, .slice a5 D.m.fs.length c5, .slice a6 D.m.ds.length c6, .int .i64 D.m.nx, .slice a7 D.us.length c7, .slice a8 D.md.length c8, .slice a9 D.cs.length c9, .slice a10 D.kp.length c10] ∧ AtC ((w.alloc (.cells #[.slice a1 D.m.xs.length c1, .slice a2 D.m.ys.length c2, .slice a3 D.m.is.length c3, .slice a4 D.m.bs.length c4, .slice a5 D.m.fs.length c5, .slice a6 D.m.ds.length c6, .int .i64 D.m.nx, .slice a7 D.us.length c7, .slice a8 D.md.length c8, .slice a9 D.cs.length c9, .slice a10 D.kp.length c10] 56)).alloc (.cells #[.slice d1 D.m.xs.length k1, .slice d2 D.m.ys.length k2, .slice d3 D.m.is.length k3, .slice d4 D.m.bs.length k4, .slice d5 D.m.fs.length k5, .slice d6 D.m.ds.length k6, .int .i64 D.m.nx, .slice d7 D.us.length k7, .slice d8 D.md.length k8, .slice d9 D.cs.length k9, .slice d10 D.kp.length k10] 56)) (w.heap.size + 1) 56 #[.slice d1 D.m.xs.length k1, .slice d2 D.m.ys.length k2, .slice d3 D.m.is.length k3, .slice d4 D.m.bs.length k4, .slice d5 D.m.fs.length k5, .slice d6 D.m.ds.length k6, .int .i64 D.m.nx, .slice d7 D.us.length k7, .slice d8 D.md.length k8, .slice d9 D.cs.length k9, .slice d10 D.kp.length k10] ∧ Below w.heap.size w ((w.alloc (.cells #[.slice a1 D.m.xs.length c1, .slice a2 D.m.ys.length c2, .slice a3 D.m.is.length c3, .slice a4 D.m.bs.length c4, .slice a5 D.m.fs.length c5, .slice a6 D.m.ds.length c6, .int .i64 D.m.nx, .slice a7 D.us.length c7, .slice a8 D.md.length c8, .slice a9 D.cs.length c9, .slice a10 D.kp.length c10] 56)).alloc (.cells #[.slice d1 D.m.xs.length k1, .slice d2 D.m.ys.length k2, .slice d3 D.m.is.length k3, .slice d4 D.m.bs.length k4, .slice d5 D.m.fs.length k5, .slice d6 D.m.ds.length k6, .int .i64 D.m.nx, .slice d7 D.us.length k7, .slice d8 D.md.length k8, .slice d9 D.cs.length k9, .slice d10 D.kp.length k10] 56))) := by
    refine ⟨(AtC.new w 56 _).alloc _, ?_, ((Below.refl _ w).alloc (Nat.le_refl _) _).alloc (by simp) _⟩
    have := AtC.new (w.alloc (.cells #[.slice a1 D.m.xs.length c1, .slice a2 D.m.ys.length c2, .slice a3 D.m.is.length c3, .slice a4 D.m.bs.length c4, .slice a5 D.m.fs.length c5, .slice a6 D.m.ds.length c6, .int .i64 D.m.nx, .slice a7 D.us.length c7, .slice a8 D.md.length c8, .slice a9 D.cs.length c9, .slice a10 D.kp.length c10] 56)) 56 #[.slice d1 D.m.xs.length k1, .slice d2 D.m.ys.length k2, .slice d3 D.m.is.length k3, .slice d4 D.m.bs.length k4, .slice d5 D.m.fs.length k5, .slice d6 D.m.ds.length k6, .int .i64 D.m.nx, .slice d7 D.us.length k7, .slice d8 D.md.length k8, .slice d9 D.cs.length k9, .slice d10 D.kp.length k10]
    simpa using this
  go_enter Tryz.func8, Tryz.ntmps8
  go_wp2_with fail
  refine (eqFs_same _ _ _ _ _ _ _ _ _ _ _ _ _ _ D _ (H.out.1.m.below X0.out.2.2 (Nat.le_refl _)) (H.out.1.o.below X0.out.2.2 (Nat.le_refl _)) (H.out.2.m.below X0.out.2.2 (Nat.le_refl _)) (H.out.2.o.below X0.out.2.2 (Nat.le_refl _)) HG.out).mono ?_
  rintro e w1 ⟨rfl, b1⟩
  have X1 := hide (And.intro (X0.out.1.over b1) (And.intro (X0.out.2.1.over b1) (X0.out.2.2.trans (b1.mono X0.out.2.2.size))))
  have p8 : w1.cell? ⟨w.heap.size, 8, none⟩ = some (.slice a8 D.md.length c8) := X1.out.1.cell 8
  have q8 : w1.cell? ⟨w.heap.size + 1, 8, none⟩ = some (.slice d8 D.md.length k8) := X1.out.2.1.cell 8
  clear b1 X0
  go_wp2_with fail
  refine (eqNodeS_same _ _ D.md _ (H.out.1.a.below X1.out.2.2 (Nat.le_refl _)) (H.out.2.a.below X1.out.2.2 (Nat.le_refl _)) (Nat.le_trans HG.out.a (by decide))).mono ?_
  rintro e w2 ⟨rfl, b2⟩
  have X2 := hide (And.intro (X1.out.1.over b2) (And.intro (X1.out.2.1.over b2) (X1.out.2.2.trans (b2.mono X1.out.2.2.size))))
  have p9 : w2.cell? ⟨w.heap.size, 9, none⟩ = some (.slice a9 D.cs.length c9) := X2.out.1.cell 9
  have q9 : w2.cell? ⟨w.heap.size + 1, 9, none⟩ = some (.slice d9 D.cs.length k9) := X2.out.2.1.cell 9
  clear b2 X1 p8 q8
  go_wp2_with fail
  refine (eqI_same _ _ D.cs _ (H.out.1.c.below X2.out.2.2 (Nat.le_refl _)) (H.out.2.c.below X2.out.2.2 (Nat.le_refl _)) (Nat.le_trans HG.out.c (by decide))).mono ?_
  rintro e w3 ⟨rfl, b3⟩
  have X3 := hide (And.intro (X2.out.1.over b3) (And.intro (X2.out.2.1.over b3) (X2.out.2.2.trans (b3.mono X2.out.2.2.size))))
  have p10 : w3.cell? ⟨w.heap.size, 10, none⟩ = some (.slice a10 D.kp.length c10) := X3.out.1.cell 10
  have q10 : w3.cell? ⟨w.heap.size + 1, 10, none⟩ = some (.slice d10 D.kp.length k10) := X3.out.2.1.cell 10
  clear b3 X2 p9 q9
  go_wp2_with fail
  refine (eqNodeS_same _ _ D.kp _ (H.out.1.k.below X3.out.2.2 (Nat.le_refl _)) (H.out.2.k.below X3.out.2.2 (Nat.le_refl _)) (Nat.le_trans HG.out.k (by decide))).mono ?_
  rintro e w4 ⟨rfl, b4⟩
  have X4 := hide (And.intro (X3.out.1.over b4) (And.intro (X3.out.2.1.over b4) (X3.out.2.2.trans (b4.mono X3.out.2.2.size))))
  clear b4 X3 p10 q10
  go_wp2
  go_ret
  exact ⟨rfl, X4.out.2.2⟩
end Go.Proofs.YtmjhgfkplolelaaGreat
/- What the specification's walk tells, as a plain function. No Go function is spoken of. -/
namespace Go.Proofs.YtmjhgfkplolelaaGreat
open Go.RowKit Kit
theorem flatMap_len {α β : Type} {f : α → List β} {m : Nat} : ∀ (l : List α), (∀ x ∈ l, (f x).length ≤ m) → (l.flatMap f).length ≤ l.length * m
  | [], _ => by simp
  | x :: r, h => by
    have h1 := h x (by simp)
    have h2 := flatMap_len r (fun y hy => h y (by simp [hy]))
    rw [List.flatMap_cons, List.length_append, List.length_cons, Nat.add_mul]
    omega
/-- A disk that is right, as far as trees go. -/
structure RD (is : List Ino) (bs : List Blk) : Prop where
  hi : is.length = 8
  hb : bs.length = 16
  kd : ∀ q ∈ is, q.1 = 0 ∨ q.1 = 1 ∨ q.1 = 2
  two : ∀ q ∈ is, q.2.2.length = 2
  four : ∀ q ∈ bs, q.2.1.length ≤ 4
  text : ∀ q ∈ bs, q.1 = false → q.2.1 = []
  nm : ∀ q ∈ bs, ∀ s ∈ q.2.1, s.1 = ⟨#[]⟩ ∨ nameOk s.1 = true
  tx : ∀ q ∈ bs, q.2.2.size ≤ 16
theorem blkAt_cases (bs : List Blk) (x : Int) : blkAt bs x = (false, [], ⟨#[]⟩) ∨ blkAt bs x ∈ bs := by
  cases h : inB x 1 bs.length with
  | false => exact .inl (blkAt_no h)
  | true =>
    obtain ⟨jb, hb, -, e⟩ := blkAt_in h
    exact .inr (by rw [e]; exact List.getElem_mem hb)
theorem kindAt_cases {is : List Ino} (i : Int) : (kindAt is i = 0 ∧ ptrsAt is i = []) ∨ ∃ q ∈ is, kindAt is i = q.1 ∧ ptrsAt is i = q.2.2 := by
  cases h : inB i 1 is.length with
  | false => exact .inl ⟨kindAt_out h, by unfold ptrsAt; rw [h]; rfl⟩
  | true =>
    obtain ⟨h1, h2⟩ := inB_true h
    obtain ⟨j, rfl⟩ : ∃ j : Nat, i = (j : Int) + 1 := ⟨(i - 1).toNat, by omega⟩
    have hj : j < is.length := by omega
    exact .inr ⟨is[j], List.getElem_mem hj, (kindAt_in hj).1, (kindAt_in hj).2⟩
theorem RD.kind {is : List Ino} {bs : List Blk} (h : RD is bs) (i : Int) : kindAt is i = 0 ∨ kindAt is i = 1 ∨ kindAt is i = 2 := by
  rcases kindAt_cases (is := is) i with ⟨e, -⟩ | ⟨q, hq, e, -⟩
  · exact .inl e
  · rw [e]; exact h.kd q hq
theorem RD.blk4 {is : List Ino} {bs : List Blk} (h : RD is bs) (x : Int) : (blkAt bs x).2.1.length ≤ 4 := by
  rcases blkAt_cases bs x with e | e
  · rw [e]; simp
  · exact h.four _ e
theorem nmd_len {is : List Ino} {bs : List Blk} (h : RD is bs) (x : Int) : (nmd (blkAt bs x)).length ≤ 4 := by
  unfold nmd
  split
  · exact Nat.le_trans (List.length_filter_le _ _) (h.blk4 x)
  · simp
theorem RD.named8 {is : List Ino} {bs : List Blk} (h : RD is bs) (i : Int) : (named is bs i).length ≤ 8 := by
  unfold named
  split
  · have h1 := flatMap_len (m := 4) (f := fun p => nmd (blkAt bs p)) (ptrsAt is i) (fun p _ => nmd_len h p)
    have h2 : (ptrsAt is i).length ≤ 2 := by
      rcases kindAt_cases (is := is) i with ⟨-, e⟩ | ⟨q, hq, -, e⟩
      · rw [e]; simp
      · rw [e, h.two q hq]; exact Nat.le_refl _
    have : nmdP bs (ptrsAt is i) = (ptrsAt is i).flatMap (fun p => nmd (blkAt bs p)) := rfl
    rw [this]
    have : (ptrsAt is i).length * 4 ≤ 2 * 4 := Nat.mul_le_mul_right _ h2
    omega
  · simp
theorem RD.name {is : List Ino} {bs : List Blk} (h : RD is bs) {i : Int} {s : Sl} (hs : s ∈ named is bs i) : nameOk s.1 = true := by
  unfold named at hs
  split at hs
  · obtain ⟨p, -, hp⟩ := List.mem_flatMap.1 hs
    unfold nmd at hp
    split at hp
    · obtain ⟨h1, h2⟩ := mem_nmdS hp
      rcases blkAt_cases bs p with e | e
      · rw [e] at h1; simp at h1
      · exact (h.nm _ e s h1).resolve_left h2
    · simp at hp
  · simp at hs
theorem nameOk_size {s : ByteArray} (h : nameOk s = true) : 1 ≤ s.size ∧ s.size ≤ 6 := (of_decide_eq_true h).1
end Go.Proofs.YtmjhgfkplolelaaGreat
/- impl.DiskOk and spec.DiskOk by their contracts. -/
namespace Go.Proofs.YtmjhgfkplolelaaGreat
open Go.RowKit Kit
set_option maxRecDepth 100000 in
set_option maxHeartbeats 1600000 in
theorem implOk_disk (u v iv bv : Value) (xs ys : List Bool) (is : List Ino) (bs : List Blk) (w : World) (h : DR w u v iv bv xs ys is bs) (hi : is.length ≤ 1048576) (hk : bs.length ≤ 1048576) :
    Calls Tryz.prog 61 #[.agg #[u, v, iv, bv]] w fun e w' => e = .returned (.bool (diskOk xs ys is bs)) ∧ Below w.heap.size w w' := by
  have H := hide h
  obtain ⟨a1, c1, a2, c2, a3, c3, a4, c4, rfl, rfl, rfl, rfl⟩ := h.form
  obtain ⟨x, hx⟩ : ∃ x, okB xs.length ys.length = x := ⟨_, rfl⟩
  obtain ⟨y, hy⟩ : ∃ y, (inosOk is && decide (is.length = 8)) = y := ⟨_, rfl⟩
  obtain ⟨z, hz⟩ : ∃ z, (blksOk bs && decide (bs.length = 16)) = z := ⟨_, rfl⟩
  have hD : diskOk xs ys is bs = (x && y && z) := by unfold diskOk; rw [hx, hy, hz]
  rw [hD]
  have HX := hide hx
  have HY := hide hy
  have HZ := hide hz
  clear h hx hy hz hD
  go_enter Tryz.func61, Tryz.ntmps61
  go_wp2_with fail
  refine (implOk_anyB _ _ _ _ _ _ _).mono ?_
  rw [HX.out]
  rintro e w1 ⟨rfl, B1⟩
  have BW : Below w.heap.size w w1 := ((Below.refl _ w).alloc (Nat.le_refl _) _).trans (B1.mono (by simp))
  have K0 : AtC w1 w.heap.size 47 #[.slice a1 xs.length c1, .slice a2 ys.length c2, .slice a3 is.length c3, .slice a4 bs.length c4] := (AtC.new w 47 _).over B1
  have p2 : w1.cell? ⟨w.heap.size, 2, none⟩ = some (.slice a3 is.length c3) := K0.cell 2
  have HBW := hide BW
  have HK0 := hide K0
  clear B1 BW K0
  cases x with
  | false =>
    go_wp2
    go_ret
    exact ⟨rfl, HBW.out⟩
  | true =>
    go_wp2_with fail
    refine (inosRight_any _ is _ (H.out.i.below HBW.out (Nat.le_refl _)) hi).mono ?_
    rw [HY.out]
    rintro e w2 ⟨rfl, B2⟩
    have BW2 := HBW.out.trans (B2.mono HBW.out.size)
    have K0 := HK0.out.over B2
    have p3 : w2.cell? ⟨w.heap.size, 3, none⟩ = some (.slice a4 bs.length c4) := K0.cell 3
    have HBW2 := hide BW2
    clear B2 BW2 K0 HBW
    cases y with
    | false =>
      go_wp2
      go_ret
      exact ⟨rfl, HBW2.out⟩
    | true =>
      go_wp2_with fail
      refine (blksRight_any _ bs _ (H.out.k.below HBW2.out (Nat.le_refl _)) hk).mono ?_
      rw [HZ.out]
      rintro e w3 ⟨rfl, B3⟩
      have HBW3 := hide (HBW2.out.trans (B3.mono HBW2.out.size))
      clear B3
      go_wp2
      go_ret
      exact ⟨rfl, HBW3.out⟩
theorem diskOk_bits {xs ys : List Bool} {is : List Ino} {bs : List Blk} (h : okB xs.length ys.length = false) : false = diskOk xs ys is bs := by unfold diskOk; rw [h]; rfl
theorem diskOk_i {xs ys : List Bool} {is : List Ino} {bs : List Blk} (h : is.length ≠ 8) : false = diskOk xs ys is bs := by unfold diskOk; simp [h]
theorem diskOk_b {xs ys : List Bool} {is : List Ino} {bs : List Blk} (h : bs.length ≠ 16) : false = diskOk xs ys is bs := by unfold diskOk; simp [h]
theorem diskOk_in {xs ys : List Bool} {is : List Ino} {bs : List Blk} (h : inosOk is = false) : false = diskOk xs ys is bs := by unfold diskOk; simp [h]
theorem diskOk_bn {xs ys : List Bool} {is : List Ino} {bs : List Blk} (h : blksOk bs = false) : false = diskOk xs ys is bs := by unfold diskOk; simp [h]
theorem diskOk_yes {xs ys : List Bool} {is : List Ino} {bs : List Blk} (h : okB xs.length ys.length = true) (h1 : is.length = 8) (h2 : bs.length = 16) (h3 : inosOk is = true) (h4 : blksOk bs = true) : true = diskOk xs ys is bs := by unfold diskOk; simp [h, h1, h2, h3, h4]
set_option maxRecDepth 100000 in
set_option maxHeartbeats 3200000 in
theorem specOk_disk (u v iv bv : Value) (xs ys : List Bool) (is : List Ino) (bs : List Blk) (w : World) (h : DR w u v iv bv xs ys is bs) (hB : ∀ (j : Nat) (h : j < bs.length) (k : Nat) (h' : k < bs[j].2.1.length), bs[j].2.1[k].1.size ≤ 1048576) :
    Calls Tryz.prog 24 #[.agg #[u, v, iv, bv]] w fun e w' => e = .returned (.bool (diskOk xs ys is bs)) ∧ Below w.heap.size w w' := by
  have H := hide h
  have HG := hide hB
  obtain ⟨a3, c3, ri, -, hii⟩ := h.i.ino
  obtain ⟨a4, c4, rb, -, hkk⟩ := h.k.blk
  have HI := hide hii
  have HK := hide hkk
  obtain ⟨a1, c1, a2, c2, -, -, -, -, rfl, rfl, -, -⟩ := h.form
  subst ri rb
  obtain ⟨x, hx⟩ : ∃ x, okB xs.length ys.length = x := ⟨_, rfl⟩
  have HX := hide hx
  obtain ⟨n, hn⟩ : ∃ n, xs.length = n := ⟨_, rfl⟩
  obtain ⟨m, hm⟩ : ∃ m, ys.length = m := ⟨_, rfl⟩
  obtain ⟨ni, hni⟩ : ∃ ni, is.length = ni := ⟨_, rfl⟩
  obtain ⟨nb, hnb⟩ : ∃ nb, bs.length = nb := ⟨_, rfl⟩
  have HN := hide (And.intro hni hnb)
  rw [hn, hm] at hx
  rw [hn, hm, hni, hnb]
  have C := hide (specOk_anyB a1 a2 n m c1 c2)
  rw [hx] at C
  clear h hB hii hkk hx hn hm hni hnb
  go_enter Tryz.func24, Tryz.ntmps24
  go_wp2_with fail
  refine (C.out _).mono ?_
  rintro e w1 ⟨rfl, B1⟩
  have BW : Below w.heap.size w w1 := ((Below.refl _ w).alloc (Nat.le_refl _) _).trans (B1.mono (by simp))
  have K0 : AtC w1 w.heap.size 47 #[.slice a1 n c1, .slice a2 m c2, .slice a3 ni c3, .slice a4 nb c4] := (AtC.new w 47 _).over B1
  have p2 : w1.cell? ⟨w.heap.size, 2, none⟩ = some (.slice a3 ni c3) := K0.cell 2
  have p3 : w1.cell? ⟨w.heap.size, 3, none⟩ = some (.slice a4 nb c4) := K0.cell 3
  have HBW := hide BW
  have HK0 := hide K0
  clear B1 BW K0 C
  cases x with
  | false =>
    go_wp2
    go_ret
    exact ⟨ret_bool (diskOk_bits HX.out), HBW.out⟩
  | true =>
    by_cases h8 : ni = 8
    · by_cases h16 : nb = 16
      · subst h8 h16
        go_wp2
        go_loopw [3] (fun i wr => ∃ j : Nat, j ≤ 8 ∧ i = .int .i64 j ∧ Hid (∀ (k : Nat) (h : k < is.length), k < j → inoOk is[k] = true) ∧ Hid (Below w1.heap.size w1 wr)) (fun i _ => 8 - (intOf i).toNat)
        case atStart => exact ⟨0, Nat.zero_le _, rfl, fun _ _ h => absurd h (Nat.not_lt_zero _), Below.refl _ _⟩
        case round =>
          obtain ⟨j, hj, rfl, HS, HBR⟩ := hrel
          have K0 := HK0.out.over HBR.out
          have p4 : wr.cell? ⟨w.heap.size, 2, none⟩ = some (.slice a3 8 c3) := K0.cell 2
          have p5 : wr.cell? ⟨w.heap.size, 3, none⟩ = some (.slice a4 16 c4) := K0.cell 3
          have HB0 := hide (HBW.out.trans (HBR.out.mono HBW.out.size))
          clear K0
          by_cases hlt : j < 8
          · obtain ⟨g1, o1, pp, rfl, hg1, m1, m2, m3, hr1⟩ := HI.out j (by rw [HN.out.1]; exact hlt)
            have q1 := (HB0.out.cell (p := ⟨g1, o1 + j * 3, none⟩) hg1).trans m1
            have q2 := (HB0.out.cell (p := ⟨g1, o1 + j * 3 + 1, none⟩) hg1).trans m2
            have q3 := (HB0.out.cell (p := ⟨g1, o1 + j * 3 + 2, none⟩) hg1).trans m3
            obtain ⟨y, hy⟩ : ∃ x, is[j]'(by rw [HN.out.1]; exact hlt) = x := ⟨_, rfl⟩
            obtain ⟨y, s, z⟩ := y
            rw [hy] at q1 q2 hr1
            obtain ⟨pa, pc, rfl⟩ := hr1.form
            simp only at q1 q2 q3 hr1
            have HR := hide (hr1.below HB0.out (Nat.le_refl _))
            have j0 : (0 : Int) ≤ (j : Int) := by omega
            have j1 : (j : Int) < 8 := by omega
            have HY := hide hy
            clear m1 m2 m3 hr1 hy
            cases hq : okL y s z with
            | true =>
              have HQ := hide hq
              clear hq
              go_wp2_with (go_at_call 48; refine (specOk_anyI _ _ z _ _ HR.out).mono ?_; rw [HQ.out]; rintro e w2 ⟨rfl, B2⟩; have HB2 := hide (HBR.out.trans (B2.mono HBR.out.size)); clear B2)
              go_roundw
              case rel =>
                refine ⟨j + 1, by omega, by go_num, fun k hk hkj => ?_, HB2.out⟩
                by_cases hkk : k = j
                · subst hkk; rw [HY.out]; exact HQ.out
                · exact HS.out k hk (by omega)
              case measure => simp [intOf]; omega
            | false =>
              have hno : inosOk is = false := all_no (by rw [HN.out.1]; exact hlt) (by rw [HY.out]; exact hq)
              have HNO := hide hno
              have HQ := hide hq
              clear hq hno
              go_wp2_with (go_at_call 48; refine (specOk_anyI _ _ z _ _ HR.out).mono ?_; rw [HQ.out]; rintro e w2 ⟨rfl, B2⟩; have HB2 := hide (HB0.out.trans (B2.mono HB0.out.size)); clear B2)
              go_ret
              exact ⟨ret_bool (diskOk_in HNO.out), HB2.out⟩
          · have hyes : inosOk is = true := all_yes fun k hk => HS.out k hk (by rw [HN.out.1] at hk; omega)
            have HYS := hide hyes
            clear hyes
            go_wp2
            go_loopw [4] (fun i wq => ∃ j : Nat, j ≤ 16 ∧ i = .int .i64 j ∧ Hid (∀ (k : Nat) (h : k < bs.length), k < j → blkOk bs[k] = true) ∧ Hid (Below wr.heap.size wr wq)) (fun i _ => 16 - (intOf i).toNat)
            case atStart => exact ⟨0, Nat.zero_le _, rfl, fun _ _ h => absurd h (Nat.not_lt_zero _), Below.refl _ _⟩
            case round =>
              obtain ⟨j, hj, rfl, HS2, HBQ⟩ := hrel
              have HB1 := hide (HB0.out.trans (HBQ.out.mono HB0.out.size))
              have K1 := HK0.out.over (HBR.out.trans (HBQ.out.mono HBR.out.size))
              have p6 : wr.cell? ⟨w.heap.size, 3, none⟩ = some (.slice a4 16 c4) := K1.cell 3
              clear K1
              by_cases hlt2 : j < 16
              · obtain ⟨g1, o1, pp, rfl, hg1, m1, m2, m3, hr1⟩ := HK.out j (by rw [HN.out.2]; exact hlt2)
                have q1 := (HB1.out.cell (p := ⟨g1, o1 + j * 3, none⟩) hg1).trans m1
                have q2 := (HB1.out.cell (p := ⟨g1, o1 + j * 3 + 1, none⟩) hg1).trans m2
                have q3 := (HB1.out.cell (p := ⟨g1, o1 + j * 3 + 2, none⟩) hg1).trans m3
                have key : ∀ b : Blk, bs[j]'(by rw [HN.out.2]; exact hlt2) = b → ∀ (k : Nat) (h' : k < b.2.1.length), b.2.1[k].1.size ≤ 1048576 := by
                  rintro b rfl
                  exact HG.out j _
                obtain ⟨y, hy⟩ : ∃ x, bs[j]'(by rw [HN.out.2]; exact hlt2) = x := ⟨_, rfl⟩
                obtain ⟨y, s, z⟩ := y
                rw [hy] at q1 q3 hr1
                have hbg : ∀ (k : Nat) (h' : k < s.length), s[k].1.size ≤ 1048576 := key _ hy
                obtain ⟨pa, pc, rfl⟩ := hr1.form
                simp only at q1 q2 q3 hr1
                have HR := hide (hr1.below HB1.out (Nat.le_refl _))
                have HBG := hide hbg
                have j0 : (0 : Int) ≤ (j : Int) := by omega
                have j1 : (j : Int) < 16 := by omega
                have HY := hide hy
                clear m1 m2 m3 hr1 hy hbg key
                cases hq : blockOk y s z with
                | true =>
                  have HQ := hide hq
                  clear hq
                  go_wp2_with (go_at_call 49; refine (specOk_anyK _ _ _ s _ HR.out HBG.out).mono ?_; rw [HQ.out]; rintro e w2 ⟨rfl, B2⟩; have HB2 := hide (HBQ.out.trans (B2.mono HBQ.out.size)); clear B2)
                  go_roundw
                  case rel =>
                    refine ⟨j + 1, by omega, by go_num, fun k hk hkj => ?_, HB2.out⟩
                    by_cases hkk : k = j
                    · subst hkk; rw [HY.out]; exact HQ.out
                    · exact HS2.out k hk (by omega)
                  case measure => simp [intOf]; omega
                | false =>
                  have hno : blksOk bs = false := all_no (by rw [HN.out.2]; exact hlt2) (by rw [HY.out]; exact hq)
                  have HNO := hide hno
                  have HQ := hide hq
                  clear hq hno
                  go_wp2_with (go_at_call 49; refine (specOk_anyK _ _ _ s _ HR.out HBG.out).mono ?_; rw [HQ.out]; rintro e w2 ⟨rfl, B2⟩; have HB2 := hide (HB1.out.trans (B2.mono HB1.out.size)); clear B2)
                  go_ret
                  exact ⟨ret_bool (diskOk_bn HNO.out), HB2.out⟩
              · have hyes : blksOk bs = true := all_yes fun k hk => HS2.out k hk (by rw [HN.out.2] at hk; omega)
                have HYS2 := hide hyes
                clear hyes
                go_wp2
                go_ret
                exact ⟨ret_bool (diskOk_yes HX.out HN.out.1 HN.out.2 HYS.out HYS2.out), HB1.out⟩
      · have hne : bs.length ≠ 16 := by rw [HN.out.2]; exact h16
        have HNE := hide hne
        have hb16 : ((nb : Int) != 16) = true := by simp; omega
        clear hne
        subst h8
        go_wp2
        go_ret
        exact ⟨ret_bool (diskOk_b HNE.out), HBW.out⟩
    · have hne : is.length ≠ 8 := by rw [HN.out.1]; exact h8
      have HNE := hide hne
      have hb8 : ((ni : Int) != 8) = true := by simp; omega
      clear hne
      go_wp2
      go_ret
      exact ⟨ret_bool (diskOk_i HNE.out), HBW.out⟩
end Go.Proofs.YtmjhgfkplolelaaGreat
/- A right disk is one as trees want it. No Go function is spoken of. -/
namespace Go.Proofs.YtmjhgfkplolelaaGreat
open Go.RowKit Kit
theorem okF_all : ∀ (l p : List Sl), okF p l = true → ∀ s ∈ l, slotOk s = true
  | [], _, _, _, h => by cases h
  | x :: r, p, h, s, hs => by
    rw [okF, Bool.and_eq_true, Bool.and_eq_true] at h
    rcases List.mem_cons.1 hs with rfl | hs
    · exact h.1.1
    · exact okF_all r _ h.2 s hs
theorem RD.of_ok {xs ys : List Bool} {is : List Ino} {bs : List Blk} (h : diskOk xs ys is bs = true) : RD is bs := by
  unfold diskOk at h
  simp only [Bool.and_eq_true, decide_eq_true_eq] at h
  obtain ⟨⟨-, h1, h2⟩, h3, h4⟩ := h
  have hi : ∀ q ∈ is, inoOk q = true := List.all_eq_true.1 h1
  have hb : ∀ q ∈ bs, blkOk q = true := List.all_eq_true.1 h3
  have hi2 : ∀ q ∈ is, ∃ a b, q.2.2 = [a, b] ∧ okR q.1 q.2.1 a b = true := fun q hq => by
    have := hi q hq
    unfold inoOk at this
    obtain ⟨k, l, ps⟩ := q
    match ps, this with
    | [a, b], h => exact ⟨a, b, rfl, h⟩
    | [], h => cases h
    | [_], h => cases h
    | _ :: _ :: _ :: _, h => cases h
  have hb2 : ∀ q ∈ bs, (q.1 = true → q.2.2.size = 0 ∧ slotsOk q.2.1 = true) ∧ (q.1 = false → q.2.1.length = 0 ∧ q.2.2.size ≤ 16) := fun q hq => by
    have := hb q hq
    unfold blkOk blockOk at this
    constructor
    · intro e; rw [e] at this; simpa using this
    · intro e; rw [e] at this; simpa using this
  refine ⟨h2, h4, fun q hq => ?_, fun q hq => ?_, fun q hq => ?_, fun q hq e => ?_, fun q hq s hs => ?_, fun q hq => ?_⟩
  · obtain ⟨a, b, -, h⟩ := hi2 q hq
    have := of_decide_eq_true h
    omega
  · obtain ⟨a, b, e, -⟩ := hi2 q hq
    rw [e]; rfl
  · cases e : q.1 with
    | true =>
      have := (hb2 q hq).1 e
      unfold slotsOk at this
      simp only [Bool.and_eq_true, decide_eq_true_eq] at this
      omega
    | false => have := (hb2 q hq).2 e; omega
  · exact List.length_eq_zero_iff.1 ((hb2 q hq).2 e).1
  · cases e : q.1 with
    | true =>
      have := ((hb2 q hq).1 e).2
      unfold slotsOk at this
      rw [Bool.and_eq_true] at this
      have := okF_all _ _ this.2 s hs
      rcases of_decide_eq_true this with h | h
      · exact .inl (size_zero h.1)
      · exact .inr h.1
    | false =>
      have := List.length_eq_zero_iff.1 ((hb2 q hq).2 e).1
      rw [this] at hs; cases hs
  · cases e : q.1 with
    | true => have := (hb2 q hq).1 e; omega
    | false => exact ((hb2 q hq).2 e).2
end Go.Proofs.YtmjhgfkplolelaaGreat
/- impl.UnitOfIno, UnitOfBlock, hasIno, hasBlock, isNode by their contracts, at right disks. -/
namespace Go.Proofs.YtmjhgfkplolelaaGreat
open Go.RowKit Kit
set_option maxHeartbeats 800000 in
theorem unitI_any (i : Int) (w : World) :
    Calls Tryz.prog 148 #[.int .i64 i] w fun e w' => ∃ r : Int, e = .returned (.int .i64 r) ∧ decide (0 ≤ r) = inB i 1 8 ∧ w' = w := by
  cases hb : inB i 1 8 with
  | false =>
    rcases inB_false hb with h | h
    · have h2 : decide (i < 1) = true := by simp; omega
      go_enter Tryz.func148, Tryz.ntmps148
      go_wp2
      go_ret
      exact ⟨-1, rfl, by decide, rfl⟩
    · have h1 : decide (i < 1) = false := by simp; omega
      have h2 : decide (8 < i) = true := by simp; omega
      go_enter Tryz.func148, Tryz.ntmps148
      go_wp2
      go_ret
      exact ⟨-1, rfl, by decide, rfl⟩
  | true =>
    obtain ⟨h0, h1⟩ := inB_true hb
    have h2 : decide (i < 1) = false := by simp; omega
    have h3 : decide (8 < i) = false := by simp; omega
    go_enter Tryz.func148, Tryz.ntmps148
    go_wp2
    go_ret
    refine ⟨_, rfl, ?_, rfl⟩
    simp
    omega
set_option maxHeartbeats 800000 in
theorem unitB_any (i : Int) (w : World) :
    Calls Tryz.prog 177 #[.int .i64 i] w fun e w' => ∃ r : Int, e = .returned (.int .i64 r) ∧ decide (0 ≤ r) = inB i 1 16 ∧ w' = w := by
  cases hb : inB i 1 16 with
  | false =>
    rcases inB_false hb with h | h
    · have h2 : decide (i < 1) = true := by simp; omega
      go_enter Tryz.func177, Tryz.ntmps177
      go_wp2
      go_ret
      exact ⟨-1, rfl, by decide, rfl⟩
    · have h1 : decide (i < 1) = false := by simp; omega
      have h2 : decide (16 < i) = true := by simp; omega
      go_enter Tryz.func177, Tryz.ntmps177
      go_wp2
      go_ret
      exact ⟨-1, rfl, by decide, rfl⟩
  | true =>
    obtain ⟨h0, h1⟩ := inB_true hb
    have h2 : decide (i < 1) = false := by simp; omega
    have h3 : decide (16 < i) = false := by simp; omega
    go_enter Tryz.func177, Tryz.ntmps177
    go_wp2
    go_ret
    refine ⟨_, rfl, ?_, rfl⟩
    simp
    omega
set_option maxHeartbeats 800000 in
theorem hasI_any (i : Int) (dx dy bv : Value) (a3 : Option Addr) (c3 : Nat) (w : World) :
    Calls Tryz.prog 101 #[.agg #[dx, dy, .slice a3 8 c3, bv], .int .i64 i] w fun e w' => e = .returned (.bool (inB i 1 8)) ∧ w' = w.alloc (.cells #[dx, dy, .slice a3 8 c3, bv] 47) := by
  have CU := hide (fun W => unitI_any i W)
  cases hb : inB i 1 8 with
  | false =>
    rw [hb] at CU
    go_enter Tryz.func101, Tryz.ntmps101
    go_wp2_with fail
    refine (CU.out _).mono ?_
    rintro e w1 ⟨r, rfl, hr, rfl⟩
    go_wp2
    go_ret
    exact ⟨rfl, rfl⟩
  | true =>
    rw [hb] at CU
    obtain ⟨h0, h1⟩ := inB_true hb
    have h2 : decide (i ≤ 8) = true := by simp; omega
    go_enter Tryz.func101, Tryz.ntmps101
    go_wp2_with fail
    refine (CU.out _).mono ?_
    rintro e w1 ⟨r, rfl, hr, rfl⟩
    go_wp2
    go_ret
    exact ⟨rfl, rfl⟩
set_option maxHeartbeats 800000 in
theorem hasB_any (i : Int) (dx dy iv : Value) (a3 : Option Addr) (c3 : Nat) (w : World) :
    Calls Tryz.prog 149 #[.agg #[dx, dy, iv, .slice a3 16 c3], .int .i64 i] w fun e w' => e = .returned (.bool (inB i 1 16)) ∧ w' = w.alloc (.cells #[dx, dy, iv, .slice a3 16 c3] 47) := by
  have CU := hide (fun W => unitB_any i W)
  cases hb : inB i 1 16 with
  | false =>
    rw [hb] at CU
    go_enter Tryz.func149, Tryz.ntmps149
    go_wp2_with fail
    refine (CU.out _).mono ?_
    rintro e w1 ⟨r, rfl, hr, rfl⟩
    go_wp2
    go_ret
    exact ⟨rfl, rfl⟩
  | true =>
    rw [hb] at CU
    obtain ⟨h0, h1⟩ := inB_true hb
    have h2 : decide (i ≤ 16) = true := by simp; omega
    go_enter Tryz.func149, Tryz.ntmps149
    go_wp2_with fail
    refine (CU.out _).mono ?_
    rintro e w1 ⟨r, rfl, hr, rfl⟩
    go_wp2
    go_ret
    exact ⟨rfl, rfl⟩
set_option maxRecDepth 100000 in
set_option maxHeartbeats 1600000 in
theorem kindI_any (i : Int) (dx dy iv bv : Value) (xs ys : List Bool) (is : List Ino) (bs : List Blk) (w : World) (h : DR w dx dy iv bv xs ys is bs) (hR : RD is bs) :
    Calls Tryz.prog 66 #[.agg #[dx, dy, iv, bv], .int .i64 i] w fun e w' => e = .returned (.int .i64 (kindAt is i)) ∧ Below w.heap.size w w' := by
  obtain ⟨a3, c3, rfl, -, hc⟩ := h.i
  have h8 := hR.hi
  have HB0 : Hid (∀ A B, Below w.heap.size w ((w.alloc (.cells A 47)).alloc (.cells B 47))) := fun A B => ((Below.refl _ w).alloc (Nat.le_refl _) _).alloc (by simp) _
  have CH := hide (fun W => hasI_any i dx dy bv a3 c3 W)
  cases hb : inB i 1 8 with
  | false =>
    rw [hb] at CH
    have e0 : kindAt is i = 0 := kindAt_out (by rw [h8]; exact hb)
    rw [e0, h8]
    clear hc h hR hb
    go_enter Tryz.func66, Tryz.ntmps66
    go_wp2_with fail
    refine (CH.out _).mono ?_
    rintro e w1 ⟨rfl, rfl⟩
    go_wp2
    go_ret
    exact ⟨rfl, HB0.out _ _⟩
  | true =>
    rw [hb] at CH
    obtain ⟨h1, h2⟩ := inB_true hb
    obtain ⟨j, rfl⟩ : ∃ j : Nat, i = (j : Int) + 1 := ⟨(i - 1).toNat, by omega⟩
    have hj : j < is.length := by omega
    obtain ⟨g2, o2, ⟨t0, t1, t2⟩, rfl, hg2, r0, r1, r2, e0, e1, rr⟩ := hc j hj
    rw [(kindAt_in hj).1]
    obtain ⟨⟨kd, ln, ps⟩, hX⟩ : ∃ X, is[j] = X := ⟨_, rfl⟩
    rw [hX] at e0 e1 rr ⊢
    simp only at e0 e1 rr r0 r1 r2 ⊢
    subst e0 e1
    have hwj : IntKind.i64.wrap (j : Int) = (j : Int) := wrap_small _ (by omega) (by omega)
    have j0 : (0 : Int) ≤ (j : Int) := by omega
    have j1 : (j : Int) < 8 := by omega
    have y0 : ((w.alloc (.cells #[dx, dy, .slice (some ⟨g2, o2, none⟩) 8 c3, bv] 47)).alloc (.cells #[dx, dy, .slice (some ⟨g2, o2, none⟩) 8 c3, bv] 47)).cell? ⟨g2, o2 + j * 3, none⟩ = some (.int .i64 kd) := ((HB0.out _ _).cell (p := ⟨g2, o2 + j * 3, none⟩) hg2).trans r0
    rw [h8]
    clear hc h hR hb h1 h2 hX rr r0 r1 r2 h8
    go_enter Tryz.func66, Tryz.ntmps66
    go_wp2_with fail
    refine (CH.out _).mono ?_
    rintro e w1 ⟨rfl, rfl⟩
    go_wp2
    go_ret
    exact ⟨rfl, HB0.out _ _⟩
set_option maxHeartbeats 1600000 in
theorem isNode_any (i : Int) (dx dy iv bv : Value) (xs ys : List Bool) (is : List Ino) (bs : List Blk) (w : World) (h : DR w dx dy iv bv xs ys is bs) (hR : RD is bs) :
    Calls Tryz.prog 63 #[.agg #[dx, dy, iv, bv], .int .i64 i] w fun e w' => e = .returned (.bool (decide (¬ kindAt is i = 0))) ∧ Below w.heap.size w w' := by
  have CK := hide (kindI_any i dx dy iv bv xs ys is bs (w.alloc (.cells #[dx, dy, iv, bv] 47)) (h.alloc _) hR)
  have HB : Hid (∀ w1, Below (w.alloc (.cells #[dx, dy, iv, bv] 47)).heap.size (w.alloc (.cells #[dx, dy, iv, bv] 47)) w1 → Below w.heap.size w w1) := fun w1 b => ((Below.refl _ w).alloc (Nat.le_refl _) _).trans (b.mono (by simp))
  obtain ⟨a1, c1, a2, c2, a3, c3, a4, c4, rfl, rfl, rfl, rfl⟩ := h.form
  have hk3 := hR.kind i
  obtain ⟨kd, hkd⟩ : ∃ k, kindAt is i = k := ⟨_, rfl⟩
  rw [hkd] at hk3 CK ⊢
  clear h hR hkd
  rcases hk3 with rfl | rfl | rfl
  all_goals
    go_enter Tryz.func63, Tryz.ntmps63
    go_wp2_with fail
    refine CK.out.mono ?_
    rintro e w1 ⟨rfl, B1⟩
    have HB1 := hide (HB.out _ B1)
    clear B1
    go_wp2
    go_ret
    exact ⟨rfl, HB1.out⟩
end Go.Proofs.YtmjhgfkplolelaaGreat
/- Library contracts laid at this translation by the shelf (its own tool, plain mode). -/
namespace Go.Proofs.YtmjhgfkplolelaaGreat
open Go.Shelf
def Tryz.lays128_ren : Go.Shelf.Ren := ⟨fun | 128 => 205 | n => n, fun | 51 => 270 | 3 => 3 | 4 => 4 | 46 => 240 | 5 => 5 | 9 => 9 | n => n, fun | n => n⟩
theorem Tryz.lays128 : Go.Proofs.Lays.n128 Tryz.prog Tryz.lays128_ren := {
  mixed := by kernel_rfl
  f128 := Tryz.func205.trans (congrArg some (by kernel_rfl))
  t3 := Tryz.underlying3
  a3 := Tryz.isAgg3
  z3 := Tryz.sizeOf3
  v3 := Tryz.zeroValue3
  t4 := Tryz.underlying4
  a4 := Tryz.isAgg4
  z4 := Tryz.sizeOf4
  v4 := Tryz.zeroValue4
  t5 := Tryz.underlying5
  a5 := Tryz.isAgg5
  z5 := Tryz.sizeOf5
  v5 := Tryz.zeroValue5
  t9 := Tryz.underlying9
  a9 := Tryz.isAgg9
  z9 := Tryz.sizeOf9
  v9 := Tryz.zeroValue9
  t46 := Tryz.underlying240
  a46 := Tryz.isAgg240
  z46 := Tryz.sizeOf240
  v46 := Tryz.zeroValue240
  t51 := Tryz.underlying270
  a51 := Tryz.isAgg270
  z51 := Tryz.sizeOf270
  v51 := Tryz.zeroValue270 }
theorem Tryz.bits_Len32 (x : Int) (w : World) (h0 : 0 ≤ x) (h1 : x ≤ 4294967295) :
    Calls Tryz.prog 205 #[.int .u32 x] w fun e w' => e = .returned (.int .i64 (Lib.bitLen x.toNat)) ∧ w' = w := Any.bits_Len32 Tryz.lays128 x w h0 h1
def Tryz.lays125_ren : Go.Shelf.Ren := ⟨fun | 125 => 180 | 128 => 205 | 129 => 206 | n => n, fun | 46 => 240 | 3 => 3 | 51 => 270 | 53 => 272 | 4 => 4 | 5 => 5 | 9 => 9 | n => n, fun | n => n⟩
theorem Tryz.lays125 : Go.Proofs.Lays.n125 Tryz.prog Tryz.lays125_ren := {
  mixed := by kernel_rfl
  f125 := Tryz.func180.trans (congrArg some (by kernel_rfl))
  f128 := Tryz.func205.trans (congrArg some (by kernel_rfl))
  f129 := Tryz.func206.trans (congrArg some (by kernel_rfl))
  t3 := Tryz.underlying3
  a3 := Tryz.isAgg3
  z3 := Tryz.sizeOf3
  v3 := Tryz.zeroValue3
  t4 := Tryz.underlying4
  a4 := Tryz.isAgg4
  z4 := Tryz.sizeOf4
  v4 := Tryz.zeroValue4
  t5 := Tryz.underlying5
  a5 := Tryz.isAgg5
  z5 := Tryz.sizeOf5
  v5 := Tryz.zeroValue5
  t9 := Tryz.underlying9
  a9 := Tryz.isAgg9
  z9 := Tryz.sizeOf9
  v9 := Tryz.zeroValue9
  t46 := Tryz.underlying240
  a46 := Tryz.isAgg240
  z46 := Tryz.sizeOf240
  v46 := Tryz.zeroValue240
  t51 := Tryz.underlying270
  a51 := Tryz.isAgg270
  z51 := Tryz.sizeOf270
  v51 := Tryz.zeroValue270
  t53 := Tryz.underlying272
  a53 := Tryz.isAgg272
  z53 := Tryz.sizeOf272
  v53 := Tryz.zeroValue272 }
theorem Tryz.bits_Len (x : Int) (w : World) (h0 : 0 ≤ x) (h1 : x ≤ 18446744073709551615) :
    Calls Tryz.prog 180 #[.int .u64 x] w fun e w' => e = .returned (.int .i64 (Lib.bitLen x.toNat)) ∧ w' = w := Any.bits_Len Tryz.lays125 x w h0 h1
def Tryz.lays215_ren : Go.Shelf.Ren := ⟨fun | 215 => 218 | n => n, fun | 3 => 3 | 4 => 4 | n => n, fun | n => n⟩
theorem Tryz.lays215 : Go.Proofs.Lays.n215 Tryz.prog Tryz.lays215_ren := {
  mixed := by kernel_rfl
  f215 := Tryz.func218.trans (congrArg some (by kernel_rfl))
  t3 := Tryz.underlying3
  a3 := Tryz.isAgg3
  z3 := Tryz.sizeOf3
  v3 := Tryz.zeroValue3
  t4 := Tryz.underlying4
  a4 := Tryz.isAgg4
  z4 := Tryz.sizeOf4
  v4 := Tryz.zeroValue4 }
open Go.RowKit in
theorem Tryz.cmp_isNaN_int (x : Int) (w : World) :
    Calls Tryz.prog 218 #[.int .i64 x] w fun e w' => e = .returned (.bool false) ∧ w' = w := Any.cmp_isNaN_int Tryz.lays215 x w
def Tryz.lays129_ren : Go.Shelf.Ren := ⟨fun | 129 => 206 | n => n, fun | 53 => 272 | 3 => 3 | 4 => 4 | 46 => 240 | 5 => 5 | 9 => 9 | n => n, fun | n => n⟩
theorem Tryz.lays129 : Go.Proofs.Lays.n129 Tryz.prog Tryz.lays129_ren := {
  mixed := by kernel_rfl
  f129 := Tryz.func206.trans (congrArg some (by kernel_rfl))
  t3 := Tryz.underlying3
  a3 := Tryz.isAgg3
  z3 := Tryz.sizeOf3
  v3 := Tryz.zeroValue3
  t4 := Tryz.underlying4
  a4 := Tryz.isAgg4
  z4 := Tryz.sizeOf4
  v4 := Tryz.zeroValue4
  t5 := Tryz.underlying5
  a5 := Tryz.isAgg5
  z5 := Tryz.sizeOf5
  v5 := Tryz.zeroValue5
  t9 := Tryz.underlying9
  a9 := Tryz.isAgg9
  z9 := Tryz.sizeOf9
  v9 := Tryz.zeroValue9
  t46 := Tryz.underlying240
  a46 := Tryz.isAgg240
  z46 := Tryz.sizeOf240
  v46 := Tryz.zeroValue240
  t53 := Tryz.underlying272
  a53 := Tryz.isAgg272
  z53 := Tryz.sizeOf272
  v53 := Tryz.zeroValue272 }
theorem Tryz.bits_Len64 (x : Int) (w : World) (h0 : 0 ≤ x) (h1 : x ≤ 18446744073709551615) :
    Calls Tryz.prog 206 #[.int .u64 x] w fun e w' => e = .returned (.int .i64 (Lib.bitLen x.toNat)) ∧ w' = w := Any.bits_Len64 Tryz.lays129 x w h0 h1
def Tryz.laysM316_ren : Go.Shelf.Ren := ⟨fun | 316 => 176 | n => n, fun | 9 => 9 | 3 => 3 | 4 => 4 | 37 => 226 | 0 => 0 | 127 => 259 | 5 => 5 | n => n, fun | n => n⟩
theorem Tryz.laysM316 : Go.Proofs.LaysM.n316 Tryz.prog Tryz.laysM316_ren := {
  mixed := by kernel_rfl
  f316 := Tryz.func176.trans (congrArg some (by kernel_rfl))
  t0 := Tryz.underlying0
  a0 := Tryz.isAgg0
  z0 := Tryz.sizeOf0
  v0 := Tryz.zeroValue0
  t3 := Tryz.underlying3
  a3 := Tryz.isAgg3
  z3 := Tryz.sizeOf3
  v3 := Tryz.zeroValue3
  t4 := Tryz.underlying4
  a4 := Tryz.isAgg4
  z4 := Tryz.sizeOf4
  v4 := Tryz.zeroValue4
  t9 := Tryz.underlying9
  a9 := Tryz.isAgg9
  z9 := Tryz.sizeOf9
  v9 := Tryz.zeroValue9
  t37 := Tryz.underlying226
  a37 := Tryz.isAgg226
  z37 := Tryz.sizeOf226
  v37 := Tryz.zeroValue226
  t127 := Tryz.underlying259
  a127 := Tryz.isAgg259
  z127 := Tryz.sizeOf259
  v127 := Tryz.zeroValue259
  t5 := Tryz.underlying5
  a5 := Tryz.isAgg5
  z5 := Tryz.sizeOf5
  v5 := Tryz.zeroValue5
  i0 := by kernel_rfl
  i3 := by kernel_rfl
  i4 := by kernel_rfl
  i5 := by kernel_rfl
  i9 := by kernel_rfl
  i37 := by kernel_rfl
  i127 := by kernel_rfl }
open Go.RowKit in
theorem Tryz.stringslite_Clone (s : ByteArray) (w : World) (hlim : s.size ≤ 281474976710656) :
    Calls Tryz.prog 176 #[.string s] w fun e w' => e = .returned (.string s) ∧ Below w.heap.size w w' := Any.stringslite_Clone Tryz.laysM316 s w hlim
def Tryz.lays189_ren : Go.Shelf.Ren := ⟨fun | 189 => 152 | 125 => 180 | 257 => 179 | 128 => 205 | 129 => 206 | 294 => 196 | 295 => 197 | 296 => 198 | 297 => 199 | 298 => 200 | 299 => 201 | 216 => 202 | 300 => 203 | 301 => 204 | 328 => 213 | 329 => 214 | 330 => 215 | 331 => 216 | 332 => 217 | 215 => 218 | 343 => 224 | n => n, fun | 28 => 38 | 3 => 3 | 46 => 240 | 0 => 0 | 51 => 270 | 53 => 272 | 4 => 4 | 183 => 262 | 182 => 261 | 131 => 267 | 5 => 5 | 9 => 9 | 218 => 283 | 222 => 287 | 228 => 299 | 229 => 300 | n => n, fun | n => n⟩
theorem Tryz.lays189 : Go.Proofs.Lays.n189 Tryz.prog Tryz.lays189_ren := {
  mixed := by kernel_rfl
  f125 := Tryz.func180.trans (congrArg some (by kernel_rfl))
  f128 := Tryz.func205.trans (congrArg some (by kernel_rfl))
  f129 := Tryz.func206.trans (congrArg some (by kernel_rfl))
  f189 := Tryz.func152.trans (congrArg some (by kernel_rfl))
  f215 := Tryz.func218.trans (congrArg some (by kernel_rfl))
  f216 := Tryz.func202.trans (congrArg some (by kernel_rfl))
  f257 := Tryz.func179.trans (congrArg some (by kernel_rfl))
  f294 := Tryz.func196.trans (congrArg some (by kernel_rfl))
  f295 := Tryz.func197.trans (congrArg some (by kernel_rfl))
  f296 := Tryz.func198.trans (congrArg some (by kernel_rfl))
  f297 := Tryz.func199.trans (congrArg some (by kernel_rfl))
  f298 := Tryz.func200.trans (congrArg some (by kernel_rfl))
  f299 := Tryz.func201.trans (congrArg some (by kernel_rfl))
  f300 := Tryz.func203.trans (congrArg some (by kernel_rfl))
  f301 := Tryz.func204.trans (congrArg some (by kernel_rfl))
  f328 := Tryz.func213.trans (congrArg some (by kernel_rfl))
  f329 := Tryz.func214.trans (congrArg some (by kernel_rfl))
  f330 := Tryz.func215.trans (congrArg some (by kernel_rfl))
  f331 := Tryz.func216.trans (congrArg some (by kernel_rfl))
  f332 := Tryz.func217.trans (congrArg some (by kernel_rfl))
  f343 := Tryz.func224.trans (congrArg some (by kernel_rfl))
  t0 := Tryz.underlying0
  a0 := Tryz.isAgg0
  z0 := Tryz.sizeOf0
  v0 := Tryz.zeroValue0
  t3 := Tryz.underlying3
  a3 := Tryz.isAgg3
  z3 := Tryz.sizeOf3
  v3 := Tryz.zeroValue3
  t4 := Tryz.underlying4
  a4 := Tryz.isAgg4
  z4 := Tryz.sizeOf4
  v4 := Tryz.zeroValue4
  t5 := Tryz.underlying5
  a5 := Tryz.isAgg5
  z5 := Tryz.sizeOf5
  v5 := Tryz.zeroValue5
  t9 := Tryz.underlying9
  a9 := Tryz.isAgg9
  z9 := Tryz.sizeOf9
  v9 := Tryz.zeroValue9
  t28 := Tryz.underlying38
  a28 := Tryz.isAgg38
  z28 := Tryz.sizeOf38
  v28 := Tryz.zeroValue38
  t46 := Tryz.underlying240
  a46 := Tryz.isAgg240
  z46 := Tryz.sizeOf240
  v46 := Tryz.zeroValue240
  t51 := Tryz.underlying270
  a51 := Tryz.isAgg270
  z51 := Tryz.sizeOf270
  v51 := Tryz.zeroValue270
  t53 := Tryz.underlying272
  a53 := Tryz.isAgg272
  z53 := Tryz.sizeOf272
  v53 := Tryz.zeroValue272
  t131 := Tryz.underlying267
  a131 := Tryz.isAgg267
  z131 := Tryz.sizeOf267
  v131 := Tryz.zeroValue267
  t182 := Tryz.underlying261
  a182 := Tryz.isAgg261
  z182 := Tryz.sizeOf261
  v182 := Tryz.zeroValue261
  t183 := Tryz.underlying262
  a183 := Tryz.isAgg262
  z183 := Tryz.sizeOf262
  v183 := Tryz.zeroValue262
  t218 := Tryz.underlying283
  a218 := Tryz.isAgg283
  z218 := Tryz.sizeOf283
  v218 := Tryz.zeroValue283
  t222 := Tryz.underlying287
  a222 := Tryz.isAgg287
  z222 := Tryz.sizeOf287
  v222 := Tryz.zeroValue287
  t228 := Tryz.underlying299
  a228 := Tryz.isAgg299
  z228 := Tryz.sizeOf299
  v228 := Tryz.zeroValue299
  t229 := Tryz.underlying300
  a229 := Tryz.isAgg300
  z229 := Tryz.sizeOf300
  v229 := Tryz.zeroValue300 }
open Go.Sort Go.RowKit in
theorem Tryz.slices_Sort_int (blk off cap : Nat) (zs : List Int) (w : World) (hH : Holds (Value.int .i64) w blk off zs.toArray) (hblk : blk < w.heap.size) (hsz : zs.length < 4611686018427387904) :
    Calls Tryz.prog 152 #[.slice (some ⟨blk, off, none⟩) zs.length cap] w fun e w' =>
      e = .returned (.tuple #[]) ∧ ∃ n os, w' = grow (putRow (Value.int .i64) (Sort.ahead w n) blk off (zs.mergeSort fun x y => decide (x ≤ y)).toArray) os := Any.slices_Sort_int Tryz.lays189 blk off cap zs w hH hblk hsz
def Tryz.lays264_ren : Go.Shelf.Ren := ⟨fun | 264 => 221 | n => n, fun | 53 => 272 | 46 => 240 | n => n, fun | n => n⟩
theorem Tryz.lays264 : Go.Proofs.Lays.n264 Tryz.prog Tryz.lays264_ren := {
  mixed := by kernel_rfl
  f264 := Tryz.func221.trans (congrArg some (by kernel_rfl))
  t46 := Tryz.underlying240
  a46 := Tryz.isAgg240
  z46 := Tryz.sizeOf240
  v46 := Tryz.zeroValue240
  t53 := Tryz.underlying272
  a53 := Tryz.isAgg272
  z53 := Tryz.sizeOf272
  v53 := Tryz.zeroValue272 }
open Go.RowKit Go.Lib in
theorem Tryz.bits_Mul64 (x y : Nat) (hx : x < 18446744073709551616) (hy : y < 18446744073709551616) (w : World) :
    Calls Tryz.prog 221 #[.int .u64 x, .int .u64 y] w fun e w' => e = .returned (.tuple #[.int .u64 ((x * y / 18446744073709551616 : Nat) : Int), .int .u64 ((x * y % 18446744073709551616 : Nat) : Int)]) ∧ w' = w := Any.bits_Mul64 Tryz.lays264 x y hx hy w
def Tryz.lays212_ren : Go.Shelf.Ren := ⟨fun | 212 => 208 | 263 => 220 | 264 => 221 | n => n, fun | 46 => 240 | 51 => 270 | 146 => 290 | 53 => 272 | 148 => 292 | n => n, fun | n => n⟩
theorem Tryz.lays212 : Go.Proofs.Lays.n212 Tryz.prog Tryz.lays212_ren := {
  mixed := by kernel_rfl
  f212 := Tryz.func208.trans (congrArg some (by kernel_rfl))
  f263 := Tryz.func220.trans (congrArg some (by kernel_rfl))
  f264 := Tryz.func221.trans (congrArg some (by kernel_rfl))
  t46 := Tryz.underlying240
  a46 := Tryz.isAgg240
  z46 := Tryz.sizeOf240
  v46 := Tryz.zeroValue240
  t51 := Tryz.underlying270
  a51 := Tryz.isAgg270
  z51 := Tryz.sizeOf270
  v51 := Tryz.zeroValue270
  t53 := Tryz.underlying272
  a53 := Tryz.isAgg272
  z53 := Tryz.sizeOf272
  v53 := Tryz.zeroValue272
  t146 := Tryz.underlying290
  a146 := Tryz.isAgg290
  z146 := Tryz.sizeOf290
  v146 := Tryz.zeroValue290
  t148 := Tryz.underlying292
  a148 := Tryz.isAgg292
  z148 := Tryz.sizeOf292
  v148 := Tryz.zeroValue292 }
open Go.RowKit Go.Lib in
theorem Tryz.bits_Mul (x y : Nat) (hx : x < 18446744073709551616) (hy : y < 18446744073709551616) (w : World) :
    Calls Tryz.prog 208 #[.int .u64 x, .int .u64 y] w fun e w' => e = .returned (.tuple #[.int .u64 ((x * y / 18446744073709551616 : Nat) : Int), .int .u64 ((x * y % 18446744073709551616 : Nat) : Int)]) ∧ w' = w := Any.bits_Mul Tryz.lays212 x y hx hy w
def Tryz.lays108_ren : Go.Shelf.Ren := ⟨fun | 108 => 178 | n => n, fun | 28 => 38 | 3 => 3 | 0 => 0 | 4 => 4 | n => n, fun | n => n⟩
theorem Tryz.lays108 : Go.Proofs.Lays.n108 Tryz.prog Tryz.lays108_ren := {
  mixed := by kernel_rfl
  f108 := Tryz.func178.trans (congrArg some (by kernel_rfl))
  t0 := Tryz.underlying0
  a0 := Tryz.isAgg0
  z0 := Tryz.sizeOf0
  v0 := Tryz.zeroValue0
  t3 := Tryz.underlying3
  a3 := Tryz.isAgg3
  z3 := Tryz.sizeOf3
  v3 := Tryz.zeroValue3
  t4 := Tryz.underlying4
  a4 := Tryz.isAgg4
  z4 := Tryz.sizeOf4
  v4 := Tryz.zeroValue4
  t28 := Tryz.underlying38
  a28 := Tryz.isAgg38
  z28 := Tryz.sizeOf38
  v28 := Tryz.zeroValue38 }
open Go.Lib in
theorem Tryz.slices_Index_int (b off n c : Nat) (zs : List Int) (x : Int) (w : World) (hz : n ≤ zs.length) (hbig : n ≤ 9223372036854775807) (hc : ∀ j, j < zs.length → w.cell? ⟨b, off + j, none⟩ = some (.int .i64 (zs.getD j 0))) :
    Calls Tryz.prog 178 #[.slice (some ⟨b, off, none⟩) n c, .int .i64 x] w fun e w' => e = .returned (.int .i64 (Lib.idxOf (zs.take n) x)) ∧ w' = w := Any.slices_Index_int Tryz.lays108 b off n c zs x w hz hbig hc
open Go.Lib in
theorem Tryz.slices_Index_int_empty (a : Option Addr) (c : Nat) (x : Int) (w : World) :
    Calls Tryz.prog 178 #[.slice a 0 c, .int .i64 x] w fun e w' => e = .returned (.int .i64 (Lib.idxOf [] x)) ∧ w' = w := Any.slices_Index_int_empty Tryz.lays108 a c x w
def Tryz.lays107_ren : Go.Shelf.Ren := ⟨fun | 107 => 151 | 108 => 178 | n => n, fun | 28 => 38 | 3 => 3 | 4 => 4 | 0 => 0 | n => n, fun | n => n⟩
theorem Tryz.lays107 : Go.Proofs.Lays.n107 Tryz.prog Tryz.lays107_ren := {
  mixed := by kernel_rfl
  f107 := Tryz.func151.trans (congrArg some (by kernel_rfl))
  f108 := Tryz.func178.trans (congrArg some (by kernel_rfl))
  t0 := Tryz.underlying0
  a0 := Tryz.isAgg0
  z0 := Tryz.sizeOf0
  v0 := Tryz.zeroValue0
  t3 := Tryz.underlying3
  a3 := Tryz.isAgg3
  z3 := Tryz.sizeOf3
  v3 := Tryz.zeroValue3
  t4 := Tryz.underlying4
  a4 := Tryz.isAgg4
  z4 := Tryz.sizeOf4
  v4 := Tryz.zeroValue4
  t28 := Tryz.underlying38
  a28 := Tryz.isAgg38
  z28 := Tryz.sizeOf38
  v28 := Tryz.zeroValue38 }
open Go.Lib in
theorem Tryz.slices_Contains_int (b off n c : Nat) (zs : List Int) (x : Int) (w : World) (hz : n ≤ zs.length) (hbig : n ≤ 9223372036854775807) (hc : ∀ j, j < zs.length → w.cell? ⟨b, off + j, none⟩ = some (.int .i64 (zs.getD j 0))) :
    Calls Tryz.prog 151 #[.slice (some ⟨b, off, none⟩) n c, .int .i64 x] w fun e w' => e = .returned (.bool ((zs.take n).contains x)) ∧ w' = w := Any.slices_Contains_int Tryz.lays107 b off n c zs x w hz hbig hc
open Go.Lib in
theorem Tryz.slices_Contains_int_empty (a : Option Addr) (c : Nat) (x : Int) (w : World) :
    Calls Tryz.prog 151 #[.slice a 0 c, .int .i64 x] w fun e w' => e = .returned (.bool false) ∧ w' = w := Any.slices_Contains_int_empty Tryz.lays107 a c x w
def Tryz.laysNm237_ren : Go.Shelf.Ren := ⟨fun | 37 => 218 | n => n, fun | 3 => 3 | 4 => 4 | n => n, fun | n => n⟩
theorem Tryz.laysNm237 : Go.Proofs.Lays2.n37 Tryz.prog Tryz.laysNm237_ren := {
  mixed := by kernel_rfl
  f37 := Tryz.func218.trans (congrArg some (by kernel_rfl))
  t3 := Tryz.underlying3
  a3 := Tryz.isAgg3
  z3 := Tryz.sizeOf3
  v3 := Tryz.zeroValue3
  t4 := Tryz.underlying4
  a4 := Tryz.isAgg4
  z4 := Tryz.sizeOf4
  v4 := Tryz.zeroValue4 }
open Go.RowKit Go.Lib in
theorem Tryz.cmp_isNaN_int2 (x : Int) (w : World) :
    Calls Tryz.prog 218 #[.int .i64 x] w fun e w' => e = .returned (.bool false) ∧ w' = w := Any.cmp_isNaN_int2 Tryz.laysNm237 x w
def Tryz.laysNm231_ren : Go.Shelf.Ren := ⟨fun | 31 => 202 | 37 => 218 | n => n, fun | 3 => 3 | 4 => 4 | n => n, fun | n => n⟩
theorem Tryz.laysNm231 : Go.Proofs.Lays2.n31 Tryz.prog Tryz.laysNm231_ren := {
  mixed := by kernel_rfl
  f31 := Tryz.func202.trans (congrArg some (by kernel_rfl))
  f37 := Tryz.func218.trans (congrArg some (by kernel_rfl))
  t3 := Tryz.underlying3
  a3 := Tryz.isAgg3
  z3 := Tryz.sizeOf3
  v3 := Tryz.zeroValue3
  t4 := Tryz.underlying4
  a4 := Tryz.isAgg4
  z4 := Tryz.sizeOf4
  v4 := Tryz.zeroValue4 }
open Go.RowKit Go.Lib in
theorem Tryz.cmp_Less_int2 (x y : Int) (w : World) :
    Calls Tryz.prog 202 #[.int .i64 x, .int .i64 y] w fun e w' => e = .returned (.bool (decide (x < y))) ∧ w' = w := Any.cmp_Less_int2 Tryz.laysNm231 x y w
open Go.RowKit Go.Sort in
theorem Tryz.slices_Sort_int_none (p : Option Addr) (cap : Nat) (w : World) :
    Calls Tryz.prog 152 #[.slice p 0 cap] w fun e w' => e = .returned (.tuple #[]) ∧ w' = w := Any.slices_Sort_int_none Tryz.lays189 p cap w
def Tryz.laysSlE33_f165_ren : Go.Shelf.Ren := ⟨fun | 33 => 165 | n => n, fun | 22 => 22 | 23 => 4 | 4 => 4 | 3 => 3 | 0 => 0 | n => n, fun | n => n⟩
theorem Tryz.laysSlE33_f165 : Go.Proofs.SlLaysE.n33 Tryz.prog Tryz.laysSlE33_f165_ren := {
  mixed := by kernel_rfl
  f33 := ⟨Tryz.f165.name, by decide, Tryz.func165.trans (congrArg some (by kernel_rfl))⟩
  t0 := Tryz.underlying0
  a0 := Tryz.isAgg0
  z0 := Tryz.sizeOf0
  v0 := Tryz.zeroValue0
  t3 := Tryz.underlying3
  a3 := Tryz.isAgg3
  z3 := Tryz.sizeOf3
  v3 := Tryz.zeroValue3
  t4 := Tryz.underlying4
  a4 := Tryz.isAgg4
  z4 := Tryz.sizeOf4
  v4 := Tryz.zeroValue4
  t22 := Tryz.underlying22
  a22 := Tryz.isAgg22
  z22 := Tryz.sizeOf22
  v22 := Tryz.zeroValue22
  a23 := Tryz.isAgg4
  z23 := Tryz.sizeOf4 }
open Go.RowKit Go.Lib in
theorem Tryz.slices_Equal_f165 {α : Type} [Inhabited α] (enc : α → Value) (eq : α → α → Bool) (hne : NeqAt Tryz.prog 4 enc eq) (b1 o1 n c b2 o2 m d : Nat) (xs ys : List α) (w : World) (hx : n ≤ xs.length) (hy : m ≤ ys.length) (hbig : n ≤ 9223372036854775807) (hbig2 : m ≤ 9223372036854775807) (hc1 : ∀ j, j < xs.length → w.cell? ⟨b1, o1 + j, none⟩ = some (enc xs[j]!)) (hc2 : ∀ j, j < ys.length → w.cell? ⟨b2, o2 + j, none⟩ = some (enc ys[j]!)) :
    Calls Tryz.prog 165 #[.slice (some ⟨b1, o1, none⟩) n c, .slice (some ⟨b2, o2, none⟩) m d] w fun e w' => e = .returned (.bool (Lib.allEq eq (xs.take n) (ys.take m))) ∧ ∃ q, w' = w.drewN q := AnyE.slices_Equal Tryz.laysSlE33_f165 enc eq hne b1 o1 n c b2 o2 m d xs ys w hx hy hbig hbig2 hc1 hc2
def Tryz.laysSlE33_f166_ren : Go.Shelf.Ren := ⟨fun | 33 => 166 | n => n, fun | 22 => 38 | 23 => 3 | 4 => 4 | 3 => 3 | 0 => 0 | n => n, fun | n => n⟩
theorem Tryz.laysSlE33_f166 : Go.Proofs.SlLaysE.n33 Tryz.prog Tryz.laysSlE33_f166_ren := {
  mixed := by kernel_rfl
  f33 := ⟨Tryz.f166.name, by decide, Tryz.func166.trans (congrArg some (by kernel_rfl))⟩
  t0 := Tryz.underlying0
  a0 := Tryz.isAgg0
  z0 := Tryz.sizeOf0
  v0 := Tryz.zeroValue0
  t3 := Tryz.underlying3
  a3 := Tryz.isAgg3
  z3 := Tryz.sizeOf3
  v3 := Tryz.zeroValue3
  t4 := Tryz.underlying4
  a4 := Tryz.isAgg4
  z4 := Tryz.sizeOf4
  v4 := Tryz.zeroValue4
  t22 := Tryz.underlying38
  a22 := Tryz.isAgg38
  z22 := Tryz.sizeOf38
  v22 := Tryz.zeroValue38
  a23 := Tryz.isAgg3
  z23 := Tryz.sizeOf3 }
open Go.RowKit Go.Lib in
theorem Tryz.slices_Equal_f166 {α : Type} [Inhabited α] (enc : α → Value) (eq : α → α → Bool) (hne : NeqAt Tryz.prog 3 enc eq) (b1 o1 n c b2 o2 m d : Nat) (xs ys : List α) (w : World) (hx : n ≤ xs.length) (hy : m ≤ ys.length) (hbig : n ≤ 9223372036854775807) (hbig2 : m ≤ 9223372036854775807) (hc1 : ∀ j, j < xs.length → w.cell? ⟨b1, o1 + j, none⟩ = some (enc xs[j]!)) (hc2 : ∀ j, j < ys.length → w.cell? ⟨b2, o2 + j, none⟩ = some (enc ys[j]!)) :
    Calls Tryz.prog 166 #[.slice (some ⟨b1, o1, none⟩) n c, .slice (some ⟨b2, o2, none⟩) m d] w fun e w' => e = .returned (.bool (Lib.allEq eq (xs.take n) (ys.take m))) ∧ ∃ q, w' = w.drewN q := AnyE.slices_Equal Tryz.laysSlE33_f166 enc eq hne b1 o1 n c b2 o2 m d xs ys w hx hy hbig hbig2 hc1 hc2
end Go.Proofs.YtmjhgfkplolelaaGreat
/- impl.blocksOf, namedSlots, TextOf, nodeAt by their contracts, at right disks. -/
namespace Go.Proofs.YtmjhgfkplolelaaGreat
open Go.RowKit Kit
theorem clone1_any (s : ByteArray) (w : World) (hs : s.size ≤ 1000) :
    Calls Tryz.prog 147 #[.string s] w fun e w' => e = .returned (.string s) ∧ Below w.heap.size w w' := by
  have CS := hide (Tryz.stringslite_Clone s w (by omega))
  go_enter Tryz.func147, Tryz.ntmps147
  go_wp2_with fail
  refine CS.out.mono ?_
  rintro e w1 ⟨rfl, B1⟩
  have HB := hide B1
  clear B1
  go_wp2
  go_ret
  exact ⟨rfl, HB.out⟩
/-- What blocksOf answers. -/
def blocksOf (is : List Ino) (bs : List Blk) (i kind : Int) : List Blk := if kindAt is i = kind then (ptrsAt is i).map (blkAt bs) else []
/-- A block's cells and its reading. -/
theorem blk_cells {w : World} {bv : Value} {bs : List Blk} (h : R3 KB w bv bs) (x : Int) : ∃ t : V3, KB.R w t (blkAt bs x) ∧ (inB x 1 bs.length = false → t = (.bool false, .slice none 0 0, .string ⟨#[]⟩)) ∧ (inB x 1 bs.length = true → ∃ (j : Nat) (g off c : Nat), x = (j : Int) + 1 ∧ j < bs.length ∧ bv = .slice (some ⟨g, off, none⟩) bs.length c ∧ g < w.heap.size ∧ w.cell? ⟨g, off + j * 3, none⟩ = some t.1 ∧ w.cell? ⟨g, off + j * 3 + 1, none⟩ = some t.2.1 ∧ w.cell? ⟨g, off + j * 3 + 2, none⟩ = some t.2.2) := by
  cases hb : inB x 1 bs.length with
  | false =>
    rw [blkAt_no hb]
    exact ⟨(.bool false, .slice none 0 0, .string ⟨#[]⟩), ⟨rfl, ⟨none, 0, rfl, Nat.le_refl _, fun j hj => by simp at hj⟩, rfl⟩, (fun _ => rfl), fun e => by cases e⟩
  | true =>
    obtain ⟨j, hj, rfl, e⟩ := blkAt_in hb
    obtain ⟨a, c, rfl, -, hc⟩ := h
    obtain ⟨g, off, t, rfl, hg, k0, k1, k2, hr⟩ := hc j hj
    exact ⟨t, by rw [e]; exact hr, (fun e => by cases e), fun _ => ⟨j, g, off, c, rfl, hj, rfl, hg, k0, k1, k2⟩⟩
/-- The cells of a list of two blocks, the first j of them put. -/
def cellsJ (u v : V3) : Nat → Array Value
  | 0 => #[.bool false, .slice none 0 0, .string ⟨#[]⟩, .bool false, .slice none 0 0, .string ⟨#[]⟩]
  | 1 => #[u.1, u.2.1, u.2.2, .bool false, .slice none 0 0, .string ⟨#[]⟩]
  | _ => #[u.1, u.2.1, u.2.2, v.1, v.2.1, v.2.2]
theorem cellsJ_1 (u v : V3) : (((cellsJ u v 0).setIfInBounds 0 u.1).setIfInBounds 1 u.2.1).setIfInBounds 2 u.2.2 = cellsJ u v 1 := by simp [cellsJ]
theorem cellsJ_2 (u v : V3) : (((cellsJ u v 1).setIfInBounds 3 v.1).setIfInBounds 4 v.2.1).setIfInBounds 5 v.2.2 = cellsJ u v 2 := by simp [cellsJ]
/-- blocksOf under way. -/
structure BoR (w wr : World) (D L : Array Value) : Prop where
  b : Below w.heap.size w wr
  d : AtC wr w.heap.size 47 D
  l : AtC wr (w.heap.size + 1 + 1) 101 L
theorem BoR.below {w wr wr' : World} {D L : Array Value} (h : BoR w wr D L) (hb : Below wr.heap.size wr wr') : BoR w wr' D L := ⟨h.b.trans (hb.mono h.b.size), h.d.over hb, h.l.over hb⟩
theorem BoR.set {w wr : World} {D L : Array Value} (h : BoR w wr D L) (j : Nat) (x : Value) : BoR w (wr.setCell ⟨w.heap.size + 1 + 1, j, none⟩ x) D (L.setIfInBounds j x) :=
  ⟨h.b.setCell (p := ⟨w.heap.size + 1 + 1, j, none⟩) (by show w.heap.size ≤ w.heap.size + 1 + 1; omega) x, h.d.other (by omega) _, h.l.set j x⟩
theorem BoR.set3 {w wr : World} {D L : Array Value} (h : BoR w wr D L) (o : Nat) (x y z : Value) : BoR w (((wr.setCell ⟨w.heap.size + 1 + 1, o, none⟩ x).setCell ⟨w.heap.size + 1 + 1, o + 1, none⟩ y).setCell ⟨w.heap.size + 1 + 1, o + 2, none⟩ z) D (((L.setIfInBounds o x).setIfInBounds (o + 1) y).setIfInBounds (o + 2) z) := ((h.set o x).set (o + 1) y).set (o + 2) z
theorem r3_two {w : World} {g : Nat} {u v : V3} {x y : Blk} (h : AtC w g 101 #[u.1, u.2.1, u.2.2, v.1, v.2.1, v.2.2]) (hu : KB.R w u x) (hv : KB.R w v y) : R3 KB w (.slice (some ⟨g, 0, none⟩) 2 2) [x, y] := by
  refine ⟨some ⟨g, 0, none⟩, 2, rfl, Nat.le_refl _, fun j hj => ?_⟩
  have hj' : j = 0 ∨ j = 1 := by simp at hj; omega
  rcases hj' with rfl | rfl
  · exact ⟨g, 0, u, rfl, h.lt, h.cell 0, h.cell 1, h.cell 2, hu⟩
  · exact ⟨g, 0, v, rfl, h.lt, h.cell 3, h.cell 4, h.cell 5, hv⟩
set_option maxRecDepth 100000 in
set_option maxHeartbeats 3200000 in
theorem blocksOf_any (i kind : Int) (dx dy iv bv : Value) (xs ys : List Bool) (is : List Ino) (bs : List Blk) (w : World) (h : DR w dx dy iv bv xs ys is bs) (hR : RD is bs) (hk0 : ¬ kind = 0) :
    Calls Tryz.prog 146 #[.agg #[dx, dy, iv, bv], .int .i64 i, .int .i64 kind] w fun e w' => ∃ v, e = .returned v ∧ R3 KB w' v (blocksOf is bs i kind) ∧ Below w.heap.size w w' := by
  have HH := hide h
  have HRD := hide hR
  obtain ⟨a1, c1, a2, c2, a3, c3, a4, c4, rfl, rfl, rfl, rfl⟩ := h.form
  have h8 := hR.hi
  have h16 := hR.hb
  have hc := h.i
  rw [h8, h16]
  have HB0 : Hid (∀ A B, Below w.heap.size w ((w.alloc (.cells A 47)).alloc (.cells B 47))) := fun A B => ((Below.refl _ w).alloc (Nat.le_refl _) _).alloc (by simp) _
  have CH := hide (fun W => hasI_any i (.slice a1 xs.length c1) (.slice a2 ys.length c2) (.slice a4 16 c4) a3 c3 W)
  have hnil : ∀ W, R3 KB W (.slice none 0 0) [] := fun W => ⟨none, 0, rfl, Nat.le_refl _, fun j hj => by simp at hj⟩
  have HNIL := hide hnil
  clear hnil
  cases hb : inB i 1 8 with
  | false =>
    rw [hb] at CH
    have e0 : blocksOf is bs i kind = [] := by unfold blocksOf; rw [kindAt_out (by rw [h8]; exact hb), if_neg (fun e => hk0 e.symm)]
    rw [e0]
    clear hc h hR hb e0 h8 h16
    go_enter Tryz.func146, Tryz.ntmps146
    go_wp2_with fail
    refine (CH.out _).mono ?_
    rintro e w1 ⟨rfl, rfl⟩
    go_wp2
    go_ret
    exact ⟨_, rfl, HNIL.out _, HB0.out _ _⟩
  | true =>
    rw [hb] at CH
    obtain ⟨h1, h2⟩ := inB_true hb
    obtain ⟨j, rfl⟩ : ∃ j : Nat, i = (j : Int) + 1 := ⟨(i - 1).toNat, by omega⟩
    have hj : j < is.length := by omega
    obtain ⟨qa, qc, qe, -, qh⟩ := hc
    simp only [Value.slice.injEq, true_and] at qe
    obtain ⟨rfl, rfl⟩ := qe
    obtain ⟨g2, o2, ⟨t0, t1, t2⟩, rfl, hg2, r0, r1, r2, e0, e1, rr⟩ := qh j hj
    have hpl := hR.two _ (List.getElem_mem hj)
    have hB : blocksOf is bs ((j : Int) + 1) kind = if is[j].1 = kind then is[j].2.2.map (blkAt bs) else [] := by unfold blocksOf; rw [(kindAt_in hj).1, (kindAt_in hj).2]
    rw [hB]
    obtain ⟨⟨kd, ln, ps⟩, hX⟩ : ∃ X, is[j] = X := ⟨_, rfl⟩
    rw [hX] at e0 e1 rr hpl ⊢
    simp only at e0 e1 rr r0 r1 r2 hpl ⊢
    subst e0 e1
    obtain ⟨p0, p1, rfl⟩ : ∃ p0 p1, ps = [p0, p1] := by
      match ps, hpl with
      | [p0, p1], _ => exact ⟨p0, p1, rfl⟩
    obtain ⟨sa, sc, e1, hcp⟩ := rr
    have e2 : t2 = .slice sa 2 sc := e1
    subst e2
    obtain ⟨gp, op, rfl, hgp, kp0⟩ := hcp 0 (by simp)
    obtain ⟨gp', op', e3, -, kp1⟩ := hcp 1 (by simp)
    simp only [Option.some.injEq, Addr.mk.injEq, and_true] at e3
    obtain ⟨rfl, rfl⟩ := e3
    simp only [List.getElem_cons_zero, List.getElem_cons_succ, Nat.add_zero] at kp0 kp1
    have HP0 : Hid (∀ W, Below w.heap.size w W → W.cell? ⟨gp, op, none⟩ = some (.int .i64 p0)) := fun W b => (b.cell (p := ⟨gp, op, none⟩) hgp).trans kp0
    have HP1 : Hid (∀ W, Below w.heap.size w W → W.cell? ⟨gp, op + 1, none⟩ = some (.int .i64 p1)) := fun W b => (b.cell (p := ⟨gp, op + 1, none⟩) hgp).trans kp1
    have HI : Hid (∀ W, Below w.heap.size w W → W.cell? ⟨g2, o2 + j * 3, none⟩ = some (.int .i64 kd) ∧ W.cell? ⟨g2, o2 + j * 3 + 1, none⟩ = some (.int .i64 ln) ∧ W.cell? ⟨g2, o2 + j * 3 + 2, none⟩ = some (.slice (some ⟨gp, op, none⟩) 2 sc)) := fun W bb => ⟨(bb.cell (p := ⟨g2, o2 + j * 3, none⟩) hg2).trans r0, (bb.cell (p := ⟨g2, o2 + j * 3 + 1, none⟩) hg2).trans r1, (bb.cell (p := ⟨g2, o2 + j * 3 + 2, none⟩) hg2).trans r2⟩
    have hwj : IntKind.i64.wrap (j : Int) = (j : Int) := wrap_small _ (by omega) (by omega)
    have j0 : (0 : Int) ≤ (j : Int) := by omega
    have j1 : (j : Int) < 8 := by omega
    obtain ⟨y0, y1, y2⟩ := HI.out _ (HB0.out #[.slice a1 xs.length c1, .slice a2 ys.length c2, .slice (some ⟨g2, o2, none⟩) 8 c3, .slice a4 16 c4] #[.slice a1 xs.length c1, .slice a2 ys.length c2, .slice (some ⟨g2, o2, none⟩) 8 c3, .slice a4 16 c4])
    obtain ⟨⟨u0, u1, u2⟩, RU, FU, GU⟩ := blk_cells HH.out.k p0
    obtain ⟨⟨v0, v1, v2⟩, RV, FV, GV⟩ := blk_cells HH.out.k p1
    obtain ⟨ub, ua, un, uc, ut, hu0, hu1, hu2⟩ : ∃ ub ua un uc ut, u0 = .bool ub ∧ u1 = .slice ua un uc ∧ u2 = .string ut := by
      obtain ⟨q0, ⟨sa', sc', q1, -⟩, q2⟩ := RU
      exact ⟨_, _, _, _, _, q0, q1, q2⟩
    obtain ⟨vb, va, vn, vc, vt, hv0, hv1, hv2⟩ : ∃ ub ua un uc ut, v0 = .bool ub ∧ v1 = .slice ua un uc ∧ v2 = .string ut := by
      obtain ⟨q0, ⟨sa', sc', q1, -⟩, q2⟩ := RV
      exact ⟨_, _, _, _, _, q0, q1, q2⟩
    subst hu0 hu1 hu2 hv0 hv1 hv2
    rw [h16] at FU GU FV GV
    have HF0 := hide FU
    have HF1 := hide FV
    have HG0 := hide GU
    have HG1 := hide GV
    have HRU := hide (And.intro RU RV)
    have CB := hide (fun (p : Int) W => hasB_any p (.slice a1 xs.length c1) (.slice a2 ys.length c2) (.slice (some ⟨g2, o2, none⟩) 8 c3) a4 c4 W)
    clear hB hX hb h1 h2 hcp h r0 r1 r2 kp0 kp1 hpl hR qh RU RV FU FV GU GV h8 h16
    by_cases hkd : kd = kind
    rotate_left
    · have hkb : (kd != kind) = true := by simp [hkd]
      rw [if_neg hkd]
      go_enter Tryz.func146, Tryz.ntmps146
      go_wp2_with fail
      refine (CH.out _).mono ?_
      rintro e w1 ⟨rfl, rfl⟩
      go_wp2
      go_ret
      exact ⟨_, rfl, HNIL.out _, HB0.out _ _⟩
    subst hkd
    rw [if_pos rfl]
    have mk : ∀ W : World, (Instr.makeSlice 45 (.int .i64 2) (.int .i64 2)).run Tryz.prog W = .ok (.slice (some ⟨W.heap.size, 0, none⟩) 2 2) (W.alloc (.cells #[.bool false, .slice none 0 0, .string ⟨#[]⟩, .bool false, .slice none 0 0, .string ⟨#[]⟩] 101)) := fun W => by
      have := make_blk 2 (by decide) W
      rw [show madeCells #[.bool false, .slice none 0 0, .string ⟨#[]⟩] (2 * 3) = cellsJ (.bool ub, .slice ua un uc, .string ut) (.bool vb, .slice va vn vc, .string vt) 0 from Array.toList_inj.1 (by rw [made_three]; rfl)] at this
      exact this
    go_enter Tryz.func146, Tryz.ntmps146
    go_wp2_with fail
    refine (CH.out _).mono ?_
    rintro e w1 ⟨rfl, rfl⟩
    have HBOX : Hid (BoR w (((w.alloc (.cells #[.slice a1 xs.length c1, .slice a2 ys.length c2, .slice (some ⟨g2, o2, none⟩) 8 c3, .slice a4 16 c4] 47)).alloc (.cells #[.slice a1 xs.length c1, .slice a2 ys.length c2, .slice (some ⟨g2, o2, none⟩) 8 c3, .slice a4 16 c4] 47)).alloc (.cells #[.bool false, .slice none 0 0, .string ⟨#[]⟩, .bool false, .slice none 0 0, .string ⟨#[]⟩] 101)) #[.slice a1 xs.length c1, .slice a2 ys.length c2, .slice (some ⟨g2, o2, none⟩) 8 c3, .slice a4 16 c4] (cellsJ (.bool ub, .slice ua un uc, .string ut) (.bool vb, .slice va vn vc, .string vt) 0)) := by
      refine ⟨(HB0.out _ _).alloc (HB0.out #[.slice a1 xs.length c1, .slice a2 ys.length c2, .slice (some ⟨g2, o2, none⟩) 8 c3, .slice a4 16 c4] #[.slice a1 xs.length c1, .slice a2 ys.length c2, .slice (some ⟨g2, o2, none⟩) 8 c3, .slice a4 16 c4]).size _, ((AtC.new w 47 _).alloc _).alloc _, ?_⟩
      have := AtC.new ((w.alloc (.cells #[.slice a1 xs.length c1, .slice a2 ys.length c2, .slice (some ⟨g2, o2, none⟩) 8 c3, .slice a4 16 c4] 47)).alloc (.cells #[.slice a1 xs.length c1, .slice a2 ys.length c2, .slice (some ⟨g2, o2, none⟩) 8 c3, .slice a4 16 c4] 47)) 101 #[.bool false, .slice none 0 0, .string ⟨#[]⟩, .bool false, .slice none 0 0, .string ⟨#[]⟩]
      rw [World.size_alloc, World.size_alloc] at this
      exact this
    go_wp2_with fail
    clear y0 y1 y2 CH HNIL HB0
    go_loopw [38] (fun iv wr => ∃ q : Nat, q ≤ 2 ∧ iv = .int .i64 q ∧ Hid (BoR w wr #[.slice a1 xs.length c1, .slice a2 ys.length c2, .slice (some ⟨g2, o2, none⟩) 8 c3, .slice a4 16 c4] (cellsJ (.bool ub, .slice ua un uc, .string ut) (.bool vb, .slice va vn vc, .string vt) q))) (fun iv _ => 2 - (intOf iv).toNat)
    case atStart => exact ⟨0, by omega, rfl, HBOX.out⟩
    case round =>
      obtain ⟨q, hq, rfl, HS⟩ := hrel
      clear HBOX mk
      have hq3 : q = 0 ∨ q = 1 ∨ q = 2 := by omega
      rcases hq3 with rfl | rfl | rfl
      · skip
        have y1 : wr.cell? ⟨gp, op, none⟩ = some (.int .i64 p0) := HP0.out _ HS.out.b
        have z0 : wr.cell? ⟨w.heap.size, 0, none⟩ = some (.slice a1 xs.length c1) := HS.out.d.cell 0
        have z1 : wr.cell? ⟨w.heap.size, 1, none⟩ = some (.slice a2 ys.length c2) := HS.out.d.cell 1
        have z2 : wr.cell? ⟨w.heap.size, 2, none⟩ = some (.slice (some ⟨g2, o2, none⟩) 8 c3) := HS.out.d.cell 2
        have z3 : wr.cell? ⟨w.heap.size, 3, none⟩ = some (.slice a4 16 c4) := HS.out.d.cell 3
        cases hb : inB p0 1 16 with
        | false =>
          have HZ := hide (HF0.out hb)
          have CB2 := hide (fun W => CB.out p0 W)
          rw [hb] at CB2
          clear hb
          go_wp2_with fail
          refine (CB2.out _).mono ?_
          rintro e w5 ⟨rfl, rfl⟩
          have HS2 := hide (HS.out.below ((Below.refl _ wr).alloc (Nat.le_refl _) (.cells #[.slice a1 xs.length c1, .slice a2 ys.length c2, .slice (some ⟨g2, o2, none⟩) 8 c3, .slice a4 16 c4] 47)))
          clear z0 z1 z2 z3 y1
          go_wp2
          go_roundw
          case rel =>
            refine ⟨1, by omega, rfl, hide ?_⟩
            have := HS2.out
            rw [show cellsJ (.bool ub, .slice ua un uc, .string ut) (.bool vb, .slice va vn vc, .string vt) 1 = cellsJ (.bool ub, .slice ua un uc, .string ut) (.bool vb, .slice va vn vc, .string vt) 0 from by have := HZ.out; simp only [Prod.mk.injEq] at this; obtain ⟨q0, q1, q2⟩ := this; simp only [cellsJ, q0, q1, q2]]
            exact this
          case measure => simp [intOf]
        | true =>
          obtain ⟨jb, gb, ob, cb, hpj, hjb, eb, hgb, b0, b1, b2⟩ := HG0.out hb
          simp only [Value.slice.injEq, true_and] at eb
          obtain ⟨rfl, -⟩ := eb
          have CB2 := hide (fun W => CB.out p0 W)
          rw [hb] at CB2
          clear hb
          subst hpj
          have jb16 : jb < 16 := by omega
          have hwj2 : IntKind.i64.wrap (jb : Int) = (jb : Int) := wrap_small _ (by omega) (by omega)
          have jb0 : (0 : Int) ≤ (jb : Int) := by omega
          have jb1 : (jb : Int) < 16 := by omega
          go_wp2_with fail
          refine (CB2.out _).mono ?_
          rintro e w5 ⟨rfl, rfl⟩
          obtain ⟨w5, hw5⟩ : ∃ w5, wr.alloc (.cells #[.slice a1 xs.length c1, .slice a2 ys.length c2, .slice (some ⟨g2, o2, none⟩) 8 c3, .slice (some ⟨gb, ob, none⟩) 16 c4] 47) = w5 := ⟨_, rfl⟩
          have HS2 : Hid (BoR w w5 #[.slice a1 xs.length c1, .slice a2 ys.length c2, .slice (some ⟨g2, o2, none⟩) 8 c3, .slice (some ⟨gb, ob, none⟩) 16 c4] (cellsJ (.bool ub, .slice ua un uc, .string ut) (.bool vb, .slice va vn vc, .string vt) 0)) := by rw [← hw5]; exact HS.out.below ((Below.refl _ wr).alloc (Nat.le_refl _) _)
          have d0 := (HS2.out.b.cell (p := ⟨gb, ob + jb * 3, none⟩) hgb).trans b0
          have d1 := (HS2.out.b.cell (p := ⟨gb, ob + jb * 3 + 1, none⟩) hgb).trans b1
          have d2 := (HS2.out.b.cell (p := ⟨gb, ob + jb * 3 + 2, none⟩) hgb).trans b2
          have z3 : w5.cell? ⟨w.heap.size, 3, none⟩ = some (.slice (some ⟨gb, ob, none⟩) 16 c4) := HS2.out.d.cell 3
          rw [hw5]
          clear hw5 b0 b1 b2 y1 z0 z1 z2 HS CB2
          have k0 : w5.cell? ⟨w.heap.size + 1 + 1, 0, none⟩ = some (.bool false) := HS2.out.l.cell 0
          have k1 : w5.cell? ⟨w.heap.size + 1 + 1, 1, none⟩ = some (.slice none 0 0) := HS2.out.l.cell 1
          have k2 : w5.cell? ⟨w.heap.size + 1 + 1, 2, none⟩ = some (.string ⟨#[]⟩) := HS2.out.l.cell 2
          have f0 := HS2.out.l.frozen 0
          have f1 := HS2.out.l.frozen 1
          have f2 := HS2.out.l.frozen 2
          have l5 : w.heap.size + 1 + 1 < w5.heap.size := HS2.out.l.lt
          have hgb2 : ¬ gb = w.heap.size + 1 + 1 := by omega
          have HS3 := hide (HS2.out.set3 0 (.bool ub) (.slice ua un uc) (.string ut))
          rw [cellsJ_1 (.bool ub, .slice ua un uc, .string ut) (.bool vb, .slice va vn vc, .string vt)] at HS3
          clear HS2
          go_wp2
          go_roundw
          case rel => exact ⟨1, by omega, rfl, HS3.out⟩
          case measure => simp [intOf]
      · skip
        have y1 : wr.cell? ⟨gp, op + 1, none⟩ = some (.int .i64 p1) := HP1.out _ HS.out.b
        have z0 : wr.cell? ⟨w.heap.size, 0, none⟩ = some (.slice a1 xs.length c1) := HS.out.d.cell 0
        have z1 : wr.cell? ⟨w.heap.size, 1, none⟩ = some (.slice a2 ys.length c2) := HS.out.d.cell 1
        have z2 : wr.cell? ⟨w.heap.size, 2, none⟩ = some (.slice (some ⟨g2, o2, none⟩) 8 c3) := HS.out.d.cell 2
        have z3 : wr.cell? ⟨w.heap.size, 3, none⟩ = some (.slice a4 16 c4) := HS.out.d.cell 3
        cases hb : inB p1 1 16 with
        | false =>
          have HZ := hide (HF1.out hb)
          have CB2 := hide (fun W => CB.out p1 W)
          rw [hb] at CB2
          clear hb
          go_wp2_with fail
          refine (CB2.out _).mono ?_
          rintro e w5 ⟨rfl, rfl⟩
          have HS2 := hide (HS.out.below ((Below.refl _ wr).alloc (Nat.le_refl _) (.cells #[.slice a1 xs.length c1, .slice a2 ys.length c2, .slice (some ⟨g2, o2, none⟩) 8 c3, .slice a4 16 c4] 47)))
          clear z0 z1 z2 z3 y1
          go_wp2
          go_roundw
          case rel =>
            refine ⟨2, by omega, rfl, hide ?_⟩
            have := HS2.out
            rw [show cellsJ (.bool ub, .slice ua un uc, .string ut) (.bool vb, .slice va vn vc, .string vt) 2 = cellsJ (.bool ub, .slice ua un uc, .string ut) (.bool vb, .slice va vn vc, .string vt) 1 from by have := HZ.out; simp only [Prod.mk.injEq] at this; obtain ⟨q0, q1, q2⟩ := this; simp only [cellsJ, q0, q1, q2]]
            exact this
          case measure => simp [intOf]
        | true =>
          obtain ⟨jb, gb, ob, cb, hpj, hjb, eb, hgb, b0, b1, b2⟩ := HG1.out hb
          simp only [Value.slice.injEq, true_and] at eb
          obtain ⟨rfl, -⟩ := eb
          have CB2 := hide (fun W => CB.out p1 W)
          rw [hb] at CB2
          clear hb
          subst hpj
          have jb16 : jb < 16 := by omega
          have hwj2 : IntKind.i64.wrap (jb : Int) = (jb : Int) := wrap_small _ (by omega) (by omega)
          have jb0 : (0 : Int) ≤ (jb : Int) := by omega
          have jb1 : (jb : Int) < 16 := by omega
          go_wp2_with fail
          refine (CB2.out _).mono ?_
          rintro e w5 ⟨rfl, rfl⟩
          obtain ⟨w5, hw5⟩ : ∃ w5, wr.alloc (.cells #[.slice a1 xs.length c1, .slice a2 ys.length c2, .slice (some ⟨g2, o2, none⟩) 8 c3, .slice (some ⟨gb, ob, none⟩) 16 c4] 47) = w5 := ⟨_, rfl⟩
          have HS2 : Hid (BoR w w5 #[.slice a1 xs.length c1, .slice a2 ys.length c2, .slice (some ⟨g2, o2, none⟩) 8 c3, .slice (some ⟨gb, ob, none⟩) 16 c4] (cellsJ (.bool ub, .slice ua un uc, .string ut) (.bool vb, .slice va vn vc, .string vt) 1)) := by rw [← hw5]; exact HS.out.below ((Below.refl _ wr).alloc (Nat.le_refl _) _)
          have d0 := (HS2.out.b.cell (p := ⟨gb, ob + jb * 3, none⟩) hgb).trans b0
          have d1 := (HS2.out.b.cell (p := ⟨gb, ob + jb * 3 + 1, none⟩) hgb).trans b1
          have d2 := (HS2.out.b.cell (p := ⟨gb, ob + jb * 3 + 2, none⟩) hgb).trans b2
          have z3 : w5.cell? ⟨w.heap.size, 3, none⟩ = some (.slice (some ⟨gb, ob, none⟩) 16 c4) := HS2.out.d.cell 3
          rw [hw5]
          clear hw5 b0 b1 b2 y1 z0 z1 z2 HS CB2
          have k0 : w5.cell? ⟨w.heap.size + 1 + 1, 3, none⟩ = some (.bool false) := HS2.out.l.cell 3
          have k1 : w5.cell? ⟨w.heap.size + 1 + 1, 4, none⟩ = some (.slice none 0 0) := HS2.out.l.cell 4
          have k2 : w5.cell? ⟨w.heap.size + 1 + 1, 5, none⟩ = some (.string ⟨#[]⟩) := HS2.out.l.cell 5
          have f0 := HS2.out.l.frozen 3
          have f1 := HS2.out.l.frozen 4
          have f2 := HS2.out.l.frozen 5
          have l5 : w.heap.size + 1 + 1 < w5.heap.size := HS2.out.l.lt
          have hgb2 : ¬ gb = w.heap.size + 1 + 1 := by omega
          have HS3 := hide (HS2.out.set3 3 (.bool vb) (.slice va vn vc) (.string vt))
          rw [cellsJ_2 (.bool ub, .slice ua un uc, .string ut) (.bool vb, .slice va vn vc, .string vt)] at HS3
          clear HS2
          go_wp2
          go_roundw
          case rel => exact ⟨2, by omega, rfl, HS3.out⟩
          case measure => simp [intOf]
      · go_wp2
        go_ret
        exact ⟨_, rfl, r3_two HS.out.l (KB.bel HRU.out.1 HS.out.b (Nat.le_refl _)) (KB.bel HRU.out.2 HS.out.b (Nat.le_refl _)), HS.out.b⟩
end Go.Proofs.YtmjhgfkplolelaaGreat
