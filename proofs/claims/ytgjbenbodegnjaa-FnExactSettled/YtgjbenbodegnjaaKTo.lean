
/- laws.szSlot, szSlotS, szBlock, toSlot, toSlotS and toBlock by their contracts. -/
import Derived.Test.YtgjbenbodegnjaaCom
import Derived.Test.YtgjbenbodegnjaaKEq
import Derived.Deep.OwnRows
namespace Go.Proofs.Ytgjbenbodegnjaa.Kit
open Go.RowKit
/-- A slot without anything. -/
def no1 : Sl := (⟨#[]⟩, 0)
/-- The first j slots are copiedK, the others are without anything yet. -/
def copiedK (j : Nat) (xs : List Sl) : List Sl := xs.take j ++ List.replicate (xs.length - j) no1
theorem copied_lengthK (j : Nat) (xs : List Sl) (h : j ≤ xs.length) : (copiedK j xs).length = xs.length := by simp [copiedK]; omega
theorem copied_zeroK (xs : List Sl) : copiedK 0 xs = List.replicate xs.length no1 := by simp [copiedK]
theorem copied_allK (xs : List Sl) : copiedK xs.length xs = xs := by simp [copiedK]
theorem copied_setK (j : Nat) (xs : List Sl) (h : j < xs.length) : (copiedK j xs).set j xs[j] = copiedK (j + 1) xs := by
  unfold copiedK
  rw [List.set_append_right _ _ (by simp; omega), List.take_succ_eq_append_getElem h, List.length_take, Nat.min_eq_left (by omega), Nat.sub_self, show xs.length - j = (xs.length - (j + 1)) + 1 by omega, List.replicate_succ, List.set_cons_zero, List.append_assoc]
  rfl
theorem made_two (n : Nat) : (madeCells #[.string ⟨#[]⟩, .int .i64 0] (n * 2)).toList = sc (List.replicate n no1) := by
  apply List.ext_getElem?
  intro j
  by_cases hj : j < n * 2
  · have e : (madeCells #[.string ⟨#[]⟩, .int .i64 0] (n * 2)).toList[j]? = some (#[Value.string ⟨#[]⟩, .int .i64 0][j % 2]!) := by simp [madeCells, hj]
    rw [e]
    rcases Nat.mod_two_eq_zero_or_one j with h | h
    · obtain ⟨q, rfl⟩ : ∃ q, j = q * 2 := ⟨j / 2, by omega⟩
      rw [sc_name _ q (by simp; omega), h]
      simp [no1]
    · obtain ⟨q, rfl⟩ : ∃ q, j = q * 2 + 1 := ⟨j / 2, by omega⟩
      rw [sc_ino _ q (by simp; omega), h]
      simp [no1]
  · rw [List.getElem?_eq_none (by simp [madeCells]; omega), List.getElem?_eq_none (by rw [sc_length]; simp; omega)]
end Go.Proofs.Ytgjbenbodegnjaa.Kit
namespace Go.Proofs.Ytgjbenbodegnjaa
open Go.RowKit Kit
theorem Try.u82 : Try.prog.underlying 82 = some (.slice 96) := by kernel_rfl
theorem Try.i96 : (Try.prog.info? 96).map (fun i => (i.zero, i.size, i.bytes)) = some (some (.agg #[.string ⟨#[]⟩, .int .i64 0]), 2, 24) := by kernel_rfl
theorem make_nK (n : Nat) (h : n ≤ 1048576) (w : World) : (Instr.makeSlice 82 (.int .i64 (n : Int)) (.int .i64 (n : Int))).run Try.prog w = .ok (.slice (some ⟨w.heap.size, 0, none⟩) n n) (w.alloc (.cells (madeCells #[.string ⟨#[]⟩, .int .i64 0] (n * 2)) 96)) := by
  obtain ⟨i0, hi, hz0, hz1, hz2⟩ := info_parts Try.i96
  rw [run_make w 82 96 i0 _ Try.u82 hi hz0 .i64 .i64 n n (by omega) (by omega) (by rw [hz2]; omega) (by omega), hz1]
  rfl
set_option maxHeartbeats 800000 in
theorem szOne_any (t : ByteArray) (z L : Int) (w : World) (h0 : 0 ≤ L) (hL : L ≤ 1048576) (ht : t.size ≤ maxLen) :
    Calls Try.prog 44 #[.agg #[.string t, .int .i64 z], .int .i64 L] w fun e w' => ∃ r, e = .returned (.int .i64 r) ∧ (r = -1 ∨ (0 ≤ r ∧ r ≤ L ∧ (t.size : Int) ≤ L)) ∧ Below w.heap.size w w' := by
  have ht' : t.size ≤ 9223372036854775807 := ht
  clear ht
  by_cases h : L - (t.size : Int) < 0
  · go_enter Try.func44, Try.ntmps44
    go_wp2
    go_ret
    exact ⟨-1, rfl, .inl rfl, by go_grown⟩
  · go_enter Try.func44, Try.ntmps44
    go_wp2
    go_ret
    exact ⟨L - (t.size : Int), rfl, .inr ⟨by omega, by omega, by omega⟩, by go_grown⟩
set_option maxRecDepth 100000 in
set_option maxHeartbeats 1600000 in
theorem szS_any (v : Value) (xs : List Sl) (w : World) (hv : RSl w v xs) (hlen : xs.length ≤ maxLen) (hbig : ∀ (j : Nat) (h : j < xs.length), xs[j].1.size ≤ maxLen) :
    Calls Try.prog 41 #[v, .int .i64 1048576] w fun e w' => ∃ r, e = .returned (.int .i64 r) ∧ (r = -1 ∨ (0 ≤ r ∧ r ≤ 1048576 ∧ xs.length ≤ 1048576 ∧ ∀ (j : Nat) (h : j < xs.length), xs[j].1.size ≤ 1048576)) ∧ Below w.heap.size w w' := by
  obtain ⟨a, c, rfl, -, hc⟩ := hv
  have HC := hide hc
  have HG := hide hbig
  have hl' : xs.length ≤ 9223372036854775807 := hlen
  clear hc hbig hlen
  by_cases hn : 1048576 < xs.length
  · go_enter Try.func41, Try.ntmps41
    go_wp2
    go_ret
    exact ⟨-1, rfl, .inl rfl, Below.refl _ _⟩
  · have hn2 : decide ((1048576 : Int) - (xs.length : Int) < 0) = false := by simp; omega
    go_enter Try.func41, Try.ntmps41
    go_wp2
    go_loopw [1, 5] (fun x i wr => ∃ (j : Nat) (L : Int), j ≤ xs.length ∧ i = .int .i64 j ∧ x = .int .i64 L ∧ 0 ≤ L ∧ L ≤ 1048576 ∧ Hid (∀ (k : Nat) (h : k < xs.length), k < j → xs[k].1.size ≤ 1048576) ∧ Below w.heap.size w wr) (fun _ i _ => xs.length - (intOf i).toNat)
    case atStart => exact ⟨0, _, Nat.zero_le _, rfl, rfl, by omega, by omega, fun _ _ h => absurd h (Nat.not_lt_zero _), Below.refl _ _⟩
    case round =>
      obtain ⟨j, L, hj, rfl, rfl, hL0, hL1, HS, hb⟩ := hrel
      by_cases hlt : j < xs.length
      · obtain ⟨g, off, rfl, hg, m1, m2⟩ := HC.out j hlt
        have q1 := (hb.cell (p := ⟨g, off + j * 2, none⟩) hg).trans m1
        have q2 := (hb.cell (p := ⟨g, off + j * 2 + 1, none⟩) hg).trans m2
        have hgt := HG.out j hlt
        obtain ⟨t, ht⟩ : ∃ t, xs[j].1 = t := ⟨_, rfl⟩
        obtain ⟨z, hz⟩ : ∃ z, xs[j].2 = z := ⟨_, rfl⟩
        rw [ht] at q1 hgt
        rw [hz] at q2
        have HT := hide ht
        have HGT := hide hgt
        have HB := hide hb
        have hsz := hb.size
        have j0 : (0 : Int) ≤ (j : Int) := by omega
        have j1 : (j : Int) < (xs.length : Int) := by omega
        clear m1 m2 ht hz hb hgt
        go_wp2_with (go_at_call 44; refine (szOne_any _ _ _ _ hL0 hL1 HGT.out).mono ?_; rintro e w1 ⟨r, rfl, hr, B1⟩; have HB1 := hide (HB.out.trans (B1.mono hsz)); have HRR := hide hr; have hr1 : -1 ≤ r := by { rcases hr with h | h <;> omega }; clear B1 hr)
        · go_ret
          exact ⟨-1, rfl, .inl rfl, HB1.out⟩
        · have hr0 : 0 ≤ r := by omega
          have hrr : r ≤ L ∧ (t.size : Int) ≤ L := by rcases HRR.out with h | h <;> omega
          go_roundw
          case rel =>
            refine ⟨j + 1, r, by omega, by go_num, rfl, hr0, by omega, fun k hk hkj => ?_, HB1.out⟩
            by_cases hkk : k = j
            · subst hkk; rw [HT.out]; omega
            · exact HS.out k hk (by omega)
          case measure => simp [intOf]; omega
      · have HB := hide hb
        clear hb
        go_wp2
        go_ret
        exact ⟨L, rfl, .inr ⟨hL0, hL1, by omega, fun k hk => HS.out k hk (by omega)⟩, HB.out⟩
set_option maxHeartbeats 800000 in
theorem szB_any (d : Bool) (v : Value) (t : ByteArray) (xs : List Sl) (w : World) (hv : RSl w v xs) (hlen : xs.length ≤ maxLen) (hbig : ∀ (j : Nat) (h : j < xs.length), xs[j].1.size ≤ maxLen) (ht : t.size ≤ maxLen) :
    Calls Try.prog 33 #[.agg #[.bool d, v, .string t], .int .i64 1048576] w fun e w' => ∃ r, e = .returned (.int .i64 r) ∧ (r = -1 ∨ (0 ≤ r ∧ xs.length ≤ 1048576 ∧ (∀ (j : Nat) (h : j < xs.length), xs[j].1.size ≤ 1048576) ∧ t.size ≤ 1048576)) ∧ Below w.heap.size w w' := by
  have HV := hide hv
  have HL := hide hlen
  have HG := hide hbig
  obtain ⟨a, c, rfl, -⟩ := hv
  have ht' : t.size ≤ 9223372036854775807 := ht
  clear ht hlen hbig
  go_enter Try.func33, Try.ntmps33
  go_wp2_with fail
  refine (szS_any _ xs _ (HV.out.alloc _) HL.out HG.out).mono ?_
  rintro e w1 ⟨r, rfl, hr, B1⟩
  obtain ⟨r0, r1, r2, r3⟩ := ((AtC.new w 78 #[.bool d, .slice a xs.length c, .string t]).over B1).three
  have HB := hide (((Below.refl _ w).alloc (Nat.le_refl _) (.cells #[.bool d, .slice a xs.length c, .string t] 78)).trans (B1.mono (by simp)))
  have HR := hide hr
  have hr1 : -1 ≤ r := by rcases hr with h | h <;> omega
  have hr2 : r ≤ 1048576 := by rcases hr with h | h <;> omega
  clear hr B1
  by_cases hneg : r < 0
  · go_wp2
    go_ret
    exact ⟨-1, rfl, .inl rfl, HB.out⟩
  · by_cases h : r - (t.size : Int) < 0
    · go_wp2
      go_ret
      exact ⟨-1, rfl, .inl rfl, HB.out⟩
    · go_wp2
      go_ret
      have := HR.out.resolve_left (by omega)
      exact ⟨r - (t.size : Int), rfl, .inr ⟨by omega, this.2.2.1, this.2.2.2, by omega⟩, HB.out⟩
set_option maxHeartbeats 800000 in
theorem toOne_any (t : ByteArray) (z : Int) (w : World) :
    Calls Try.prog 45 #[.agg #[.string t, .int .i64 z]] w fun e w' => e = .returned (.agg #[.string t, .int .i64 z]) ∧ Below w.heap.size w w' := by
  go_enter Try.func45, Try.ntmps45
  go_wp2
  refine bodyPost_ret (v := .agg #[.string t, .int .i64 z]) (by simp [results, go_sem]) rfl ⟨rfl, by go_grown⟩
set_option maxRecDepth 100000 in
set_option maxHeartbeats 1600000 in
theorem toS_any (v : Value) (xs : List Sl) (w : World) (hv : RSl w v xs) (hl : xs.length ≤ 1048576) :
    Calls Try.prog 42 #[v] w fun e w' => ∃ u, e = .returned u ∧ SOwns w' w.heap.size 96 u xs ∧ Below w.heap.size w w' := by
  obtain ⟨a, c, rfl, -, hc⟩ := hv
  have HC := hide hc
  clear hc
  have mk := make_nK xs.length hl
  go_enter Try.func42, Try.ntmps42
  go_wp2
  go_loopw [4] (fun i wr => ∃ j : Nat, j ≤ xs.length ∧ i = .int .i64 j ∧ SOwns wr w.heap.size 96 (.slice (some ⟨w.heap.size, 0, none⟩) xs.length xs.length) (copiedK j xs) ∧ Below w.heap.size w wr) (fun i _ => xs.length - (intOf i).toNat)
  case atStart =>
    refine ⟨0, Nat.zero_le _, rfl, ?_, (Below.refl _ w).alloc (Nat.le_refl _) _⟩
    have := SOwns.lit w w.heap.size 96 (madeCells #[.string ⟨#[]⟩, .int .i64 0] (xs.length * 2)) (copiedK 0 xs) (by rw [made_two, copied_zeroK]) (Nat.le_refl _) (by rw [copied_lengthK _ _ (Nat.zero_le _)]; unfold maxLen; omega)
    rwa [copied_lengthK _ _ (Nat.zero_le _)] at this
  case round =>
    obtain ⟨j, hj, rfl, hown, hb⟩ := hrel
    by_cases hlt : j < xs.length
    · obtain ⟨g, off, rfl, hg, m1, m2⟩ := HC.out j hlt
      have q1 := (hb.cell (p := ⟨g, off + j * 2, none⟩) hg).trans m1
      have q2 := (hb.cell (p := ⟨g, off + j * 2 + 1, none⟩) hg).trans m2
      have HML := hide (copied_lengthK j xs hj)
      have CS := hide (copied_setK j xs hlt)
      obtain ⟨t, ht⟩ : ∃ t, xs[j].1 = t := ⟨_, rfl⟩
      obtain ⟨z, hz⟩ : ∃ z, xs[j].2 = z := ⟨_, rfl⟩
      have e1 : xs[j] = (t, z) := by rw [← ht, ← hz]
      rw [e1] at CS
      rw [ht] at q1
      rw [hz] at q2
      have HOWN := hide hown
      have HB := hide hb
      have hsz := hb.size
      have hgw : ¬ g = w.heap.size := by omega
      have j0 : (0 : Int) ≤ (j : Int) := by omega
      have j1 : (j : Int) < (xs.length : Int) := by omega
      clear hown hb m1 m2 ht hz e1 mk
      go_wp2_with (go_at_call 45; refine (toOne_any _ _ _).mono ?_; rintro e w1 ⟨rfl, B1⟩; have O0 : SOwns w1 w.heap.size 96 (.slice (some ⟨w.heap.size, 0, none⟩) (copiedK j xs).length xs.length) (copiedK j xs) := by { rw [HML.out]; exact HOWN.out.below B1 (Nat.le_refl _) }; obtain ⟨g3, c3, e3, k1, k2, k3, k4, k5, -⟩ := O0.at j (by rw [HML.out]; exact hlt); simp only [Value.slice.injEq, Option.some.injEq, Addr.mk.injEq] at e3; obtain ⟨⟨rfl, -, -⟩, -, rfl⟩ := e3; have O2 := O0.set_both j (by rw [HML.out]; exact hlt) t z; rw [HML.out, CS.out] at O2; have HO := hide (And.intro O2.1 (((HB.out.trans (B1.mono hsz)).setCell (p := ⟨w.heap.size, j * 2, none⟩) (Nat.le_refl _) (.string t)).setCell (p := ⟨w.heap.size, j * 2 + 1, none⟩) (Nat.le_refl _) (.int .i64 z))); clear O0 O2 B1)
      go_roundw
      case rel => exact ⟨j + 1, by omega, by go_num, HO.out.1, HO.out.2⟩
      case measure => simp [intOf]; omega
    · have hjl : j = xs.length := by omega
      have HR := hide (And.intro hown hb)
      have HJ := hide hjl
      clear hown hb hjl mk
      go_wp2
      go_ret
      exact ⟨_, rfl, by have := HR.out.1; rwa [HJ.out, copied_allK] at this, HR.out.2⟩
set_option maxHeartbeats 1600000 in
theorem toB_anyK (d : Bool) (v : Value) (t : ByteArray) (xs : List Sl) (w : World) (hv : RSl w v xs) (hl : xs.length ≤ 1048576) :
    Calls Try.prog 36 #[.agg #[.bool d, v, .string t]] w fun e w' => ∃ u, e = .returned (.agg #[.bool d, u, .string t]) ∧ SOwns w' w.heap.size 96 u xs ∧ Below w.heap.size w w' := by
  have HV := hide hv
  obtain ⟨a, c, rfl, -⟩ := hv
  go_enter Try.func36, Try.ntmps36
  go_wp2_with fail
  refine (toS_any _ xs _ (((HV.out.alloc _).alloc _).alloc _) hl).mono ?_
  rintro e w1 ⟨u, rfl, O1, B1⟩
  obtain ⟨a1, c1, rfl⟩ := O1.rsl.form
  have K0 : AtC w1 (w.heap.size + 1) 84 #[.bool false, .slice none 0 0, .string ⟨#[]⟩] := by
    have := ((AtC.new (w.alloc (Obj.cells #[.bool d, .slice a xs.length c, .string t] 78)) 84 #[.bool false, .slice none 0 0, .string ⟨#[]⟩]).alloc (Obj.cells #[.bool d, .slice none 0 0, .string ⟨#[]⟩] 84)).over B1
    simpa using this
  have K1 : AtC w1 (w.heap.size + 1 + 1) 84 #[.bool d, .slice none 0 0, .string ⟨#[]⟩] := by
    have := (AtC.new ((w.alloc (Obj.cells #[.bool d, .slice a xs.length c, .string t] 78)).alloc (Obj.cells #[.bool false, .slice none 0 0, .string ⟨#[]⟩] 84)) 84 #[.bool d, .slice none 0 0, .string ⟨#[]⟩]).over B1
    simpa using this
  have K2 : AtC w1 w.heap.size 78 #[.bool d, .slice a xs.length c, .string t] := (((AtC.new w 78 #[.bool d, .slice a xs.length c, .string t]).alloc _).alloc _).over B1
  obtain ⟨q0, q1, q2, m0⟩ := K0.three
  obtain ⟨z0, z1, z2⟩ := K0.frz
  obtain ⟨d0, d1, d2, m1⟩ := K1.three
  obtain ⟨f0, f1, f2⟩ := K1.frz
  obtain ⟨g0, g1, g2, m2⟩ := K2.three
  have B2 : Below w.heap.size w w1 := ((((Below.refl _ w).alloc (Nat.le_refl _) _).alloc (by simp) _).alloc (by simp; omega) _).trans (B1.mono (by simp; omega))
  have O2 : SOwns w1 (w.heap.size + 1 + 1 + 1) 96 (.slice a1 xs.length c1) xs := O1.base_le (by simp)
  have HO := hide O2
  have HB := hide B2
  clear O1 O2 B1 B2 K0 K1 K2
  go_wp2
  refine bodyPost_ret (v := .agg #[.bool d, .slice a1 xs.length c1, .string t]) (by simp [results, go_sem, q0, q1, q2]) rfl ⟨_, rfl, ?_, ?_⟩
  · exact (((((HO.out.setCell_low (by omega) _).setCell_low (by omega) _).setCell_low (by omega) _).setCell_low (by omega) _).setCell_low (by omega) _).base_le (by omega)
  · exact (((((HB.out.setCell (by simp; omega) _).setCell (by simp; omega) _).setCell (by simp) _).setCell (by simp) _).setCell (by simp) _)
end Go.Proofs.Ytgjbenbodegnjaa
