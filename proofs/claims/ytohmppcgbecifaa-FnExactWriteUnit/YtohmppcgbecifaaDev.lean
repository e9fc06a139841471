/- Where a device lies; laws.szStringS, szDevice, eqDevice, markDevice, heldDevice, toDevice, spec.DeviceOk and impl.DeviceOk by their contracts. -/
import Derived.Test.YtohmppcgbecifaaIn
namespace Go.Proofs.Ytohmppcgbecifaa.Kit
open Go.RowKit
theorem heap_new (w : World) (o : Obj) : (w.alloc o).heap[w.heap.size]? = some o := by
  show (w.heap.push o)[w.heap.size]? = some o
  simp
theorem ROwns.setCell_other {w : World} {base : Nat} {e : TypeId} {v : Value} {l : List Value} (h : ROwns w base e v l) {b j : Nat} (hp : b < base) (x : Value) : ROwns (w.setCell ⟨b, j, none⟩ x) base e v l :=
  h.of_heap fun k hk => heap_setCell_other w ⟨b, j, none⟩ k x (fun e => by have := (h.lt k hk).1; simp at e; omega)
/-- A variable of one cell lies in block b. -/
def AtO (T : TypeId) (w : World) (b : Nat) (v : Value) : Prop := w.heap[b]? = some (.cells #[v] T (0, 0))
theorem AtO.lt {T : TypeId} {w : World} {b : Nat} {v : Value} (h : AtO T w b v) : b < w.heap.size := (Array.getElem?_eq_some_iff.1 h).1
theorem AtO.new (T : TypeId) (w : World) (v : Value) : AtO T (w.alloc (.cells #[v] T)) w.heap.size v := heap_new w _
theorem AtO.alloc {T : TypeId} {w : World} {b : Nat} {v : Value} (h : AtO T w b v) (o : Obj) : AtO T (w.alloc o) b v := (Below.heap_alloc _ _ _ h.lt).trans h
theorem AtO.below {T : TypeId} {w w' : World} {b B : Nat} {v : Value} (h : AtO T w b v) (hb : Below B w w') (hB : b < B) : AtO T w' b v := (hb.block b hB).trans h
theorem AtO.grown {T : TypeId} {w w' : World} {b : Nat} {v : Value} {row : Option Nat} (h : AtO T w b v) (hg : w.grownBy w' row) (hr : row ≠ some b) : AtO T w' b v := (hg.block b h.lt (fun e => hr e.symm)).trans h
theorem AtO.cell {T : TypeId} {w : World} {b : Nat} {v : Value} (h : AtO T w b v) : w.cell? ⟨b, 0, none⟩ = some v := by
  have h' : w.heap[b]? = some (.cells #[v] T (0, 0)) := h
  simp [World.cell?, h']
theorem AtO.frozen {T : TypeId} {w : World} {b : Nat} {v : Value} (h : AtO T w b v) : w.frozen? ⟨b, 0, none⟩ = false := by
  have h' : w.heap[b]? = some (.cells #[v] T (0, 0)) := h
  simp [World.frozen?, h']
theorem AtO.set_other {T : TypeId} {w : World} {b : Nat} {v : Value} (h : AtO T w b v) {B j : Nat} (hne : b ≠ B) (x : Value) : AtO T (w.setCell ⟨B, j, none⟩ x) b v := (heap_setCell_other w ⟨B, j, none⟩ b x hne).trans h
theorem AtO.set {T : TypeId} {w : World} {b : Nat} {v : Value} (h : AtO T w b v) (x : Value) : AtO T (w.setCell ⟨b, 0, none⟩ x) b x := heap_setCell_same w b 0 _ T x h
theorem AtO.drew {T : TypeId} {w : World} {b : Nat} {v : Value} (h : AtO T w b v) : AtO T w.drew b v := h
/-- Texts of at most 60 bytes. -/
def shortAll (xs : List ByteArray) : Bool := xs.all fun t => decide (t.size ≤ 60)
/-- A device that is right. -/
def okD (xs : List ByteArray) : Bool := (xs.length == 21) && shortAll xs
theorem short_of {xs : List ByteArray} {j : Nat} (h : ∀ k (hk : k < xs.length), k < j → xs[k].size ≤ 60) (hj : xs.length ≤ j) : shortAll xs = true := by
  unfold shortAll
  rw [List.all_eq_true]
  intro t ht
  obtain ⟨k, hk, rfl⟩ := List.getElem_of_mem ht
  simpa using h k hk (by omega)
theorem short_no {xs : List ByteArray} {j : Nat} (hj : j < xs.length) (h : 60 < xs[j].size) : shortAll xs = false := by
  unfold shortAll
  rw [List.all_eq_false]
  exact ⟨xs[j], List.getElem_mem hj, by simpa using h⟩
theorem okD_len {xs : List ByteArray} (h : ¬ xs.length = 21) : okD xs = false := by simp [okD, h]
theorem okD_no {xs : List ByteArray} (h : shortAll xs = false) : okD xs = false := by simp [okD, h]
theorem okD_short {xs : List ByteArray} (h : shortAll xs = true) : okD xs = ((xs.length : Int) == 21) := by
  unfold okD
  rw [h, Bool.and_true, Bool.eq_iff_iff]
  simp
  omega
end Go.Proofs.Ytohmppcgbecifaa.Kit
namespace Go.Proofs.Ytohmppcgbecifaa
open Go.RowKit Kit

set_option maxRecDepth 100000 in
set_option maxHeartbeats 1600000 in
theorem szS_any (v : Value) (xs : List ByteArray) (w : World) (hv : RSt w v xs) (hlen : xs.length ≤ maxLen) (hbig : ∀ (j : Nat) (h : j < xs.length), xs[j].size ≤ maxLen) :
    Calls Try.prog 26 #[v, .int .i64 1048576] w fun e w' => ∃ r, e = .returned (.int .i64 r) ∧ (r = -1 ∨ (0 ≤ r ∧ r ≤ 1048576 ∧ xs.length ≤ 1048576 ∧ ∀ (j : Nat) (h : j < xs.length), xs[j].size ≤ 1048576)) ∧ Below w.heap.size w w' := by
  obtain ⟨a, c, rfl, hc⟩ := hv
  have HC := hide hc
  have HG := hide hbig
  have hl' : xs.length ≤ 9223372036854775807 := hlen
  clear hc hbig hlen
  by_cases hn : 1048576 < xs.length
  · go_enter Try.func26, Try.ntmps26
    go_wp2
    go_ret
    exact ⟨-1, rfl, .inl rfl, Below.refl _ _⟩
  · have hn2 : decide ((1048576 : Int) - (xs.length : Int) < 0) = false := by simp; omega
    go_enter Try.func26, Try.ntmps26
    go_wp2
    go_loopw [1, 5] (fun x i wr => ∃ (j : Nat) (L : Int), j ≤ xs.length ∧ i = .int .i64 j ∧ x = .int .i64 L ∧ 0 ≤ L ∧ L ≤ 1048576 ∧ Hid (∀ (k : Nat) (h : k < xs.length), k < j → xs[k].size ≤ 1048576) ∧ w = wr) (fun _ i _ => xs.length - (intOf i).toNat)
    case atStart => exact ⟨0, _, Nat.zero_le _, rfl, rfl, by omega, by omega, fun _ _ h => absurd h (Nat.not_lt_zero _), rfl⟩
    case round =>
      obtain ⟨j, L, hj, rfl, rfl, hL0, hL1, HS, rfl⟩ := hrel
      by_cases hlt : j < xs.length
      · obtain ⟨g, off, rfl, hg, m1⟩ := HC.out j hlt
        have hgt : xs[j].size ≤ 9223372036854775807 := HG.out j hlt
        obtain ⟨t, ht⟩ : ∃ t, xs[j] = t := ⟨_, rfl⟩
        rw [ht] at m1 hgt
        have HT := hide ht
        have j0 : (0 : Int) ≤ (j : Int) := by omega
        have j1 : (j : Int) < (xs.length : Int) := by omega
        clear ht hn2
        by_cases hs : L - (t.size : Int) < 0
        · go_wp2
          go_ret
          exact ⟨-1, rfl, .inl rfl, Below.refl _ _⟩
        · go_wp2
          go_roundw
          case rel => exact ⟨j + 1, L - (t.size : Int), by omega, by go_num, rfl, by omega, by omega, fun k hk h => by
              by_cases hkj : k < j
              · exact HS.out k hk hkj
              · have : k = j := by omega
                subst this
                rw [HT.out]; omega, by trivial⟩
          case measure => simp [intOf]; omega
      · have HF := hide (fun (k : Nat) (h : k < xs.length) => HS.out k h (by omega))
        go_wp2
        go_ret
        exact ⟨L, rfl, .inr ⟨hL0, hL1, by omega, HF.out⟩, Below.refl _ _⟩

set_option maxHeartbeats 800000 in
theorem szD_any (v : Value) (xs : List ByteArray) (w : World) (hv : RSt w v xs) (hlen : xs.length ≤ maxLen) (hbig : ∀ (j : Nat) (h : j < xs.length), xs[j].size ≤ maxLen) :
    Calls Try.prog 12 #[.agg #[v], .int .i64 1048576] w fun e w' => ∃ r, e = .returned (.int .i64 r) ∧ (r = -1 ∨ (0 ≤ r ∧ r ≤ 1048576 ∧ xs.length ≤ 1048576 ∧ ∀ (j : Nat) (h : j < xs.length), xs[j].size ≤ 1048576)) ∧ Below w.heap.size w w' := by
  have HV := hide hv
  have HG := hide (And.intro hlen hbig)
  obtain ⟨a, c, rfl⟩ := hv.form
  clear hv hlen hbig
  go_enter Try.func12, Try.ntmps12
  go_wp2_with fail
  refine (szS_any _ xs _ (HV.out.alloc _) HG.out.1 HG.out.2).mono ?_
  rintro e w1 ⟨r, rfl, hr, B1⟩
  have HB := hide (((Below.refl _ w).alloc (Nat.le_refl _) (.cells #[.slice a xs.length c] 29)).trans (B1.mono (by simp)))
  clear B1
  rcases hr with rfl | hr
  · go_wp2
    go_ret
    exact ⟨-1, rfl, .inl rfl, HB.out⟩
  · have hr0 := hr.1
    have hr1 := hr.2.1
    have HR := hide hr
    clear hr
    go_wp2
    go_ret
    exact ⟨r, rfl, .inr HR.out, HB.out⟩

set_option maxHeartbeats 800000 in
theorem eqD_same (u v : Value) (xs : List ByteArray) (w : World) (h1 : RSt w u xs) (h2 : RSt w v xs) (hx : xs.length ≤ 1000000000) :
    Calls Try.prog 16 #[.agg #[u], .agg #[v]] w fun e w' => e = .returned (.bool true) ∧ Below w.heap.size w w' := by
  obtain ⟨a1, c1, rfl⟩ := h1.form
  obtain ⟨a2, c2, rfl⟩ := h2.form
  have H1 := hide h1
  have H2 := hide h2
  clear h1 h2
  go_enter Try.func16, Try.ntmps16
  go_wp2_with fail
  refine (eqS_same _ _ xs _ ((H1.out.alloc _).alloc _) ((H2.out.alloc _).alloc _) hx).mono ?_
  rintro e w1 ⟨rfl, B1⟩
  have b1 : Below w.heap.size w w1 := ((((Below.refl _ w).alloc (Nat.le_refl _) _).alloc (by simp) _).trans (B1.mono (by simp; omega)))
  have HB := hide b1
  clear B1 b1
  go_wp2
  go_ret
  exact ⟨rfl, HB.out⟩

set_option maxHeartbeats 800000 in
theorem markD_any (v : Value) (l : List ByteArray) (base k : Nat) (w : World) (ha : ROwns w base 9 v (sc l)) (hk : k ≠ 0) (hk1 : k ≤ 1000000000) (hl : l.length ≤ 1000000000) :
    Calls Try.prog 21 #[.agg #[v], .int .i64 k] w fun e w' => e = .returned (.int .i64 (k + l.length : Nat)) ∧ ROwns w' base 9 v (sc (marks k l.length)) ∧ w.grownBy w' v.ownBlock := by
  obtain ⟨a1, c1, rfl⟩ := ha.rst.form
  have HA := hide ha
  have C1 := hide (fun w h => markS_any (.slice a1 l.length c1) l base k w h hk hk1 hl)
  clear ha
  generalize hn : k + l.length = n at *
  clear hn
  go_enter Try.func21, Try.ntmps21
  go_wp2_with fail
  refine (C1.out _ (HA.out.alloc _)).mono ?_
  rintro e w1 ⟨rfl, O1, G1⟩
  have HO := hide (And.intro O1 G1)
  clear O1 G1
  go_wp2
  go_ret
  refine ⟨rfl, HO.out.1, ⟨HO.out.2.os, HO.out.2.tape, HO.out.2.output, by have := HO.out.2.size; simp at this; omega, fun j hj hne => (HO.out.2.block j (by simp; omega) hne).trans (Below.heap_alloc _ _ _ hj)⟩⟩

set_option maxHeartbeats 800000 in
theorem heldD_any (v : Value) (n base k : Nat) (w : World) (ha : ROwns w base 9 v (sc (marks k n))) (hk : k ≠ 0) (hk1 : k ≤ 1000000000) (hl : n ≤ 1000000000) :
    Calls Try.prog 22 #[.agg #[v], .int .i64 k] w fun e w' => e = .returned (.int .i64 (k + n : Nat)) ∧ Below w.heap.size w w' := by
  obtain ⟨a1, c1, rfl⟩ := ha.rst.form
  have HA := hide ha
  have C1 := hide (fun v w h => heldS_any v n base k w h hk hk1 hl)
  clear ha
  have hm : ¬ ((k + n : Nat) : Int) < 0 := by omega
  generalize hn : k + n = m at *
  clear hn
  go_enter Try.func22, Try.ntmps22
  go_wp2_with fail
  refine (C1.out _ _ (HA.out.alloc _)).mono ?_
  rintro e w1 ⟨rfl, B1⟩
  have HB := hide (((Below.refl _ w).alloc (Nat.le_refl _) _).trans (B1.mono (by simp)))
  clear B1
  go_wp2
  go_ret
  exact ⟨rfl, HB.out⟩

set_option maxHeartbeats 1600000 in
theorem toD_any (v : Value) (xs : List ByteArray) (w : World) (hv : RSt w v xs) (hx : xs.length ≤ 1048576) :
    Calls Try.prog 14 #[.agg #[v]] w fun e w' => ∃ v', e = .returned (.agg #[v']) ∧ ROwns w' w.heap.size 9 v' (sc xs) ∧ Below w.heap.size w w' := by
  have HV := hide hv
  obtain ⟨a, c, rfl, -⟩ := hv
  go_enter Try.func14, Try.ntmps14
  go_wp2_with fail
  refine (toS_any _ xs _ (((HV.out.alloc _).alloc _).alloc _) hx).mono ?_
  rintro e w1 ⟨u1, rfl, O1, B1⟩
  obtain ⟨s1, t1, rfl⟩ := O1.rst.form
  have K1 : AtO 32 w1 (w.heap.size + 1) (.slice none 0 0) := by
    have := ((AtO.new 32 (w.alloc (Obj.cells #[.slice a xs.length c] 29)) (.slice none 0 0)).alloc (Obj.cells #[.slice none 0 0] 32)).below B1 (by simp)
    rwa [World.size_alloc] at this
  have K2 : AtO 32 w1 (w.heap.size + 1 + 1) (.slice none 0 0) := by
    have := (AtO.new 32 ((w.alloc (Obj.cells #[.slice a xs.length c] 29)).alloc (Obj.cells #[.slice none 0 0] 32)) (.slice none 0 0)).below B1 (by simp)
    rwa [World.size_alloc, World.size_alloc] at this
  have B2 : Below w.heap.size w w1 := ((((Below.refl _ w).alloc (Nat.le_refl _) _).alloc (by simp) _).alloc (by simp; omega) _).trans (B1.mono (by simp; omega))
  have O2 : ROwns w1 (w.heap.size + 1 + 1 + 1) 9 (.slice s1 xs.length t1) (sc xs) := O1.base_le (by simp)
  have p0 := K2.cell
  have f0 := K2.frozen
  have q0 := K1.cell
  have g0 := K1.frozen
  have m1 := K2.lt
  have m3 := K1.lt
  have H3 := hide (And.intro O2 B2)
  clear K1 K2 O1 O2 B1 B2 HV
  go_wp2
  refine bodyPost_ret (v := .agg #[.slice s1 xs.length t1]) (by simp [results, go_sem, q0]) rfl ⟨_, rfl, ?_, ?_⟩
  · exact ((H3.out.1.setCell_other (by omega) _).setCell_other (by omega) _).base_le (by omega)
  · exact ((H3.out.2.setCell (by simp; omega) _).setCell (by simp) _)

set_option maxRecDepth 100000 in
set_option maxHeartbeats 1600000 in
theorem specOk_any (v : Value) (xs : List ByteArray) (w : World) (hv : RSt w v xs) (hl : xs.length ≤ 1048576) (hs : ∀ (j : Nat) (h : j < xs.length), xs[j].size ≤ 1048576) :
    Calls Try.prog 13 #[.agg #[v]] w fun e w' => e = .returned (.bool (okD xs)) ∧ Below w.heap.size w w' := by
  obtain ⟨a, c, rfl, hc⟩ := hv
  have HC := hide hc
  have HS := hide hs
  obtain ⟨r, hr⟩ : ∃ r, okD xs = r := ⟨_, rfl⟩
  rw [hr]
  have HR := hide hr
  clear hc hs hr
  have hB := (Below.refl w.heap.size w).alloc (Nat.le_refl _) (.cells #[.slice a xs.length c] 32)
  have c0 := (AtO.new 32 w (.slice a xs.length c)).cell
  have l0 := (AtO.new 32 w (.slice a xs.length c)).lt
  obtain ⟨W, hW⟩ : ∃ W, w.alloc (.cells #[.slice a xs.length c] 32) = W := ⟨_, rfl⟩
  rw [hW] at hB c0 l0
  have HB := hide hB
  clear hB
  go_enter Try.func13, Try.ntmps13
  go_wp2
  go_loopw [3] (fun i wr => ∃ j : Nat, j ≤ xs.length ∧ i = .int .i64 j ∧ Hid (∀ (k : Nat) (h : k < xs.length), k < j → xs[k].size ≤ 60) ∧ W = wr) (fun i _ => xs.length - (intOf i).toNat)
  case atStart => exact ⟨0, Nat.zero_le _, rfl, fun _ _ h => absurd h (Nat.not_lt_zero _), rfl⟩
  case round =>
    obtain ⟨j, hj, rfl, HK, rfl⟩ := hrel
    clear hW
    by_cases hlt : j < xs.length
    · obtain ⟨g, off, rfl, hg, m1⟩ := HC.out j hlt
      have m2 := (HB.out.cell (p := ⟨g, off + j, none⟩) hg).trans m1
      have hgt := HS.out j hlt
      obtain ⟨t, ht⟩ : ∃ t, xs[j] = t := ⟨_, rfl⟩
      rw [ht] at m2 hgt
      have HT := hide ht
      have j0 : (0 : Int) ≤ (j : Int) := by omega
      have j1 : (j : Int) < (xs.length : Int) := by omega
      clear ht m1
      by_cases hs : 60 < t.size
      · go_wp2
        go_ret
        exact ⟨by rw [← HR.out, okD_no (short_no hlt (by rw [HT.out]; exact hs))]; rfl, HB.out⟩
      · go_wp2
        go_roundw
        case rel => exact ⟨j + 1, by omega, by go_num, fun k hk h => by
            by_cases hkj : k < j
            · exact HK.out k hk hkj
            · have : k = j := by omega
              subst this
              rw [HT.out]; omega, by trivial⟩
        case measure => simp [intOf]; omega
    · have HF := hide (short_of HK.out (by omega))
      go_wp2
      go_ret
      exact ⟨by rw [← HR.out, okD_short HF.out]; rfl, HB.out⟩

set_option maxRecDepth 100000 in
set_option maxHeartbeats 1600000 in
theorem implOk_any (v : Value) (xs : List ByteArray) (w : World) (hv : RSt w v xs) (hl : xs.length ≤ 1048576) (hs : ∀ (j : Nat) (h : j < xs.length), xs[j].size ≤ 1048576) :
    Calls Try.prog 15 #[.agg #[v]] w fun e w' => e = .returned (.bool (okD xs)) ∧ Below w.heap.size w w' := by
  obtain ⟨a, c, rfl, hc⟩ := hv
  have HC := hide hc
  have HS := hide hs
  obtain ⟨r, hr⟩ : ∃ r, okD xs = r := ⟨_, rfl⟩
  rw [hr]
  have HR := hide hr
  clear hc hs hr
  have hB := (Below.refl w.heap.size w).alloc (Nat.le_refl _) (.cells #[.slice a xs.length c] 32)
  have c0 := (AtO.new 32 w (.slice a xs.length c)).cell
  have l0 := (AtO.new 32 w (.slice a xs.length c)).lt
  obtain ⟨W, hW⟩ : ∃ W, w.alloc (.cells #[.slice a xs.length c] 32) = W := ⟨_, rfl⟩
  rw [hW] at hB c0 l0
  have HB := hide hB
  clear hB
  by_cases h21 : xs.length = 21
  · have b21 : ((xs.length : Int) == 21) = true := by simp; omega
    have H21 := hide h21
    clear h21
    go_enter Try.func15, Try.ntmps15
    go_wp2
    go_loopw [12] (fun i wr => ∃ j : Nat, j ≤ xs.length ∧ i = .int .i64 j ∧ Hid (∀ (k : Nat) (h : k < xs.length), k < j → xs[k].size ≤ 60) ∧ W = wr) (fun i _ => xs.length - (intOf i).toNat)
    case atStart => exact ⟨0, Nat.zero_le _, rfl, fun _ _ h => absurd h (Nat.not_lt_zero _), rfl⟩
    case round =>
      obtain ⟨j, hj, rfl, HK, rfl⟩ := hrel
      clear hW
      by_cases hlt : j < xs.length
      · obtain ⟨g, off, rfl, hg, m1⟩ := HC.out j hlt
        have m2 := (HB.out.cell (p := ⟨g, off + j, none⟩) hg).trans m1
        have hgt := HS.out j hlt
        obtain ⟨t, ht⟩ : ∃ t, xs[j] = t := ⟨_, rfl⟩
        rw [ht] at m2 hgt
        have HT := hide ht
        have j0 : (0 : Int) ≤ (j : Int) := by omega
        have j1 : (j : Int) < (xs.length : Int) := by omega
        clear ht m1
        by_cases hs : 60 < t.size
        · go_wp2
          go_ret
          exact ⟨by rw [← HR.out, okD_no (short_no hlt (by rw [HT.out]; exact hs))]; rfl, HB.out⟩
        · go_wp2
          go_roundw
          case rel => exact ⟨j + 1, by omega, by go_num, fun k hk h => by
              by_cases hkj : k < j
              · exact HK.out k hk hkj
              · have : k = j := by omega
                subst this
                rw [HT.out]; omega, by trivial⟩
          case measure => simp [intOf]; omega
      · have HF := hide (short_of HK.out (by omega))
        go_wp2
        go_ret
        exact ⟨by rw [← HR.out, okD_short HF.out, H21.out]; rfl, HB.out⟩
  · have b21 : ((xs.length : Int) == 21) = false := by simp; omega
    go_enter Try.func15, Try.ntmps15
    go_wp2
    go_ret
    exact ⟨by rw [← HR.out, okD_len h21]; rfl, HB.out⟩
end Go.Proofs.Ytohmppcgbecifaa
