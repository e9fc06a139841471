/- laws.szNode, szNodeS, toNode, toNodeS, eqNode, eqNodeS by their contracts. -/
import Derived.Test.YtklmaeepoijecaaNd
import Derived.Handy
import Derived.Deep.RegionHeld3
namespace Go.Proofs.Ytklmaeepoijecaa
open Go.RowKit Kit

set_option maxRecDepth 100000 in
set_option maxHeartbeats 800000 in
theorem szNode_any (x0 : ByteArray) (x1 : Bool) (x2 x3 : ByteArray) (L : Int) (w : World) (h0 : 0 ≤ L) (h1 : L ≤ 1048576) (b0 : x0.size ≤ maxLen) (b2 : x2.size ≤ maxLen) (b3 : x3.size ≤ maxLen) :
    Calls Try.prog 9 #[.agg #[.string x0, .bool x1, .string x2, .string x3], .int .i64 L] w fun e w' => ∃ r, e = .returned (.int .i64 r) ∧ (r = -1 ∨ (0 ≤ r ∧ r + ((x0.size : Int) + x2.size + x3.size) = L)) ∧ Below w.heap.size w w' := by
  have hB := (Below.refl w.heap.size w).alloc (Nat.le_refl _) (.cells #[.string x0, .bool x1, .string x2, .string x3] 31)
  have a0 : x0.size ≤ 9223372036854775807 := b0
  have a2 : x2.size ≤ 9223372036854775807 := b2
  have a3 : x3.size ≤ 9223372036854775807 := b3
  clear b0 b2 b3
  go_enter Try.func9, Try.ntmps9
  by_cases q0 : L - (x0.size : Int) < 0
  · go_wp2
    go_ret
    exact ⟨-1, rfl, .inl rfl, hB⟩
  · have n0 : decide (L - (x0.size : Int) < 0) = false := by simp; omega
    by_cases q2 : L - (x0.size : Int) - (x2.size : Int) < 0
    · go_wp2
      go_ret
      exact ⟨-1, rfl, .inl rfl, hB⟩
    · have n2 : decide (L - (x0.size : Int) - (x2.size : Int) < 0) = false := by simp; omega
      by_cases q3 : L - (x0.size : Int) - (x2.size : Int) - (x3.size : Int) < 0
      · go_wp2
        go_ret
        exact ⟨-1, rfl, .inl rfl, hB⟩
      · have n3 : decide (L - (x0.size : Int) - (x2.size : Int) - (x3.size : Int) < 0) = false := by simp; omega
        go_wp2
        go_ret
        exact ⟨_, rfl, .inr ⟨by omega, by omega⟩, hB⟩

/-- All bytes of nodes. -/
def szs (xs : List Nd) : Nat := (xs.map fun x => x.1.size + x.2.2.1.size + x.2.2.2.size).sum
theorem szs_step (xs : List Nd) (j : Nat) (h : j < xs.length) : szs (xs.take (j + 1)) = szs (xs.take j) + (xs[j].1.size + xs[j].2.2.1.size + xs[j].2.2.2.size) := by
  rw [List.take_succ_eq_append_getElem h]
  simp only [szs, List.map_append, List.map_cons, List.map_nil, List.sum_append, List.sum_cons, List.sum_nil, Nat.add_zero]
set_option maxRecDepth 100000 in
set_option maxHeartbeats 1600000 in
theorem szNodeS_any (v : Value) (xs : List Nd) (L0 : Int) (w : World) (hv : RNd w v xs) (hL0 : 0 ≤ L0) (hL1 : L0 ≤ 1048576) (hlen : xs.length ≤ maxLen) (hbig : ∀ (j : Nat) (h : j < xs.length), xs[j].1.size ≤ maxLen ∧ xs[j].2.2.1.size ≤ maxLen ∧ xs[j].2.2.2.size ≤ maxLen) :
    Calls Try.prog 4 #[v, .int .i64 L0] w fun e w' => ∃ r, e = .returned (.int .i64 r) ∧ (r = -1 ∨ (0 ≤ r ∧ r + (xs.length : Int) + (szs xs : Int) = L0)) ∧ Below w.heap.size w w' := by
  obtain ⟨a, c, rfl, hc⟩ := hv
  have HC := hide hc
  have HG := hide hbig
  have hl' : xs.length ≤ 9223372036854775807 := hlen
  clear hc hbig hlen
  by_cases hn : L0 - (xs.length : Int) < 0
  · go_enter Try.func4, Try.ntmps4
    go_wp2
    go_ret
    exact ⟨-1, rfl, .inl rfl, Below.refl _ _⟩
  · have hn2 : decide (L0 - (xs.length : Int) < 0) = false := by simp; omega
    go_enter Try.func4, Try.ntmps4
    go_wp2
    go_loopw [1, 5] (fun x i wr => ∃ (j : Nat) (L : Int), j ≤ xs.length ∧ i = .int .i64 j ∧ x = .int .i64 L ∧ 0 ≤ L ∧ Hid (L + (xs.length : Int) + (szs (xs.take j) : Int) = L0) ∧ Below w.heap.size w wr) (fun _ i _ => xs.length - (intOf i).toNat)
    case atStart => exact ⟨0, _, Nat.zero_le _, rfl, rfl, by omega, hide (by simp [szs]), Below.refl _ _⟩
    case round =>
      obtain ⟨j, L, hj, rfl, rfl, hLp, HE, hb⟩ := hrel
      have hLq : L ≤ 1048576 := by have := HE.out; omega
      have hsz := hb.size
      by_cases hlt : j < xs.length
      · obtain ⟨g, off, rfl, hg, m0, m1, m2, m3⟩ := HC.out j hlt
        have k0 := (hb.cell (p := ⟨g, off + j * 4, none⟩) hg).trans m0
        have k1 := (hb.cell (p := ⟨g, off + j * 4 + 1, none⟩) hg).trans m1
        have k2 := (hb.cell (p := ⟨g, off + j * 4 + 2, none⟩) hg).trans m2
        have k3 := (hb.cell (p := ⟨g, off + j * 4 + 3, none⟩) hg).trans m3
        have hgt := HG.out j hlt
        have HS := hide (szs_step xs j hlt)
        obtain ⟨⟨x0, x1, x2, x3⟩, hx⟩ : ∃ x, xs[j] = x := ⟨_, rfl⟩
        rw [hx] at k0 k1 k2 k3 hgt HS
        have HT := hide hgt
        have HB := hide hb
        have j0 : (0 : Int) ≤ (j : Int) := by omega
        have j1 : (j : Int) < (xs.length : Int) := by omega
        clear hx m0 m1 m2 m3 hn2 hgt hb
        simp only at k0 k1 k2 k3
        go_wp2_with fail
        refine (szNode_any x0 x1 x2 x3 L _ hLp hLq HT.out.1 HT.out.2.1 HT.out.2.2).mono ?_
        rintro e w1 ⟨r, rfl, r0, B1⟩
        have HR := hide r0
        clear r0
        have HB1 := hide (HB.out.trans (B1.mono hsz))
        clear B1 k0 k1 k2 k3
        by_cases hr : r < 0
        · go_wp2
          go_ret
          exact ⟨-1, rfl, .inl rfl, HB1.out⟩
        · have hr2 : decide (r < 0) = false := by simp; omega
          go_wp2
          go_roundw
          case rel =>
            refine ⟨j + 1, r, by omega, by go_num, rfl, by omega, hide ?_, HB1.out⟩
            have e1 := HE.out
            have e2 := HS.out
            have e3 := HR.out
            omega
          case measure => simp [intOf]; omega
      · go_wp2
        go_ret
        refine ⟨L, rfl, .inr ⟨hLp, ?_⟩, hb⟩
        have e1 := HE.out
        rw [List.take_of_length_le (by omega)] at e1
        exact e1

set_option maxRecDepth 100000 in
set_option maxHeartbeats 800000 in
theorem toNode_any (x0 : ByteArray) (x1 : Bool) (x2 x3 : ByteArray) (w : World) :
    Calls Try.prog 10 #[.agg #[.string x0, .bool x1, .string x2, .string x3]] w fun e w' => e = .returned (.agg #[.string x0, .bool x1, .string x2, .string x3]) ∧ Below w.heap.size w w' := by
  go_enter Try.func10, Try.ntmps10
  go_wp2
  refine bodyPost_ret (v := .agg #[.string x0, .bool x1, .string x2, .string x3]) (by simp [results, go_sem]) rfl ⟨rfl, ?_⟩
  go_grown

/-- The first j nodes are copied, the others are without anything yet. -/
def copiedN (j : Nat) (xs : List Nd) : List Nd := xs.take j ++ List.replicate (xs.length - j) (ByteArray.empty, false, ByteArray.empty, ByteArray.empty)
theorem copiedN_length (j : Nat) (xs : List Nd) (h : j ≤ xs.length) : (copiedN j xs).length = xs.length := by simp [copiedN]; omega
theorem copiedN_all (xs : List Nd) : copiedN xs.length xs = xs := by simp [copiedN]
theorem copiedN_at (j : Nat) (xs : List Nd) (h : j < xs.length) : (copiedN j xs)[j]'(by rw [copiedN_length j xs (by omega)]; exact h) = (ByteArray.empty, false, ByteArray.empty, ByteArray.empty) := by
  simp only [copiedN]
  rw [List.getElem_append_right (by simp; omega), List.getElem_replicate]
theorem copiedN_set (j : Nat) (xs : List Nd) (h : j < xs.length) : (copiedN j xs).set j xs[j] = copiedN (j + 1) xs := by
  unfold copiedN
  rw [List.set_append_right _ _ (by simp; omega), List.take_succ_eq_append_getElem h, List.length_take, Nat.min_eq_left (by omega), Nat.sub_self, show xs.length - j = (xs.length - (j + 1)) + 1 by omega, List.replicate_succ, List.set_cons_zero, List.append_assoc]
  rfl
theorem ndcs_cons (x : Nd) (r : List Nd) : ndcs (x :: r) = .string x.1 :: .bool x.2.1 :: .string x.2.2.1 :: .string x.2.2.2 :: ndcs r := by simp [ndcs, ndc]
theorem ndcs_set (ns : List Nd) (j : Nat) (hj : j < ns.length) (x : Nd) : ((((ndcs ns).set (j * 4) (.string x.1)).set (j * 4 + 1) (.bool x.2.1)).set (j * 4 + 2) (.string x.2.2.1)).set (j * 4 + 3) (.string x.2.2.2) = ndcs (ns.set j x) := by
  induction ns generalizing j with
  | nil => simp at hj
  | cons y r ih =>
    cases j with
    | zero => simp [ndcs_cons]
    | succ j =>
      have := ih j (by simpa using hj)
      rw [List.set_cons_succ, ndcs_cons, ndcs_cons, ← this]
      rw [show (j + 1) * 4 = j * 4 + 1 + 1 + 1 + 1 by omega]
      simp only [List.set_cons_succ, Nat.add_assoc]
theorem Try.u25 : Try.prog.underlying 25 = some (.slice 32) := by kernel_rfl
theorem Try.i31 : (Try.prog.info? 32).map (fun i => (i.zero, i.size, i.bytes)) = some (some (.agg #[.string ByteArray.empty, .bool false, .string ByteArray.empty, .string ByteArray.empty]), 4, 56) := by kernel_rfl
theorem make_nd (n : Nat) (h : n ≤ 1048576) (w : World) : (Instr.makeSlice 25 (.int .i64 (n : Int)) (.int .i64 (n : Int))).run Try.prog w = .ok (.slice (some ⟨w.heap.size, 0, none⟩) n n) (w.alloc (.cells (madeCells #[.string ByteArray.empty, .bool false, .string ByteArray.empty, .string ByteArray.empty] (n * 4)) 32)) := by
  obtain ⟨i0, hi, hz0, hz1, hz2⟩ := info_parts Try.i31
  rw [run_make w 25 32 i0 _ Try.u25 hi hz0 .i64 .i64 n n (by omega) (by omega) (by rw [hz2]; omega) (by omega), hz1]
  rfl
theorem made_nd (xs : List Nd) : madeCells #[.string ByteArray.empty, .bool false, .string ByteArray.empty, .string ByteArray.empty] (xs.length * 4) = (ndcs (copiedN 0 xs)).toArray := by
  apply Array.toList_inj.1
  apply List.ext_getElem?
  intro j
  have hlen : (copiedN 0 xs).length = xs.length := copiedN_length 0 xs (Nat.zero_le _)
  by_cases hj : j < xs.length * 4
  · have e : (madeCells #[.string ByteArray.empty, .bool false, .string ByteArray.empty, .string ByteArray.empty] (xs.length * 4)).toList[j]? = some (#[.string ByteArray.empty, .bool false, .string ByteArray.empty, .string ByteArray.empty][j % 4]!) := by simp [madeCells, hj]
    rw [e]
    have hq : j / 4 < (copiedN 0 xs).length := by omega
    have k := ndcs_at (copiedN 0 xs) (j / 4) (j % 4) hq (by omega)
    have hz : (copiedN 0 xs)[j / 4] = (ByteArray.empty, false, ByteArray.empty, ByteArray.empty) := by simp [copiedN]
    rw [show j / 4 * 4 + j % 4 = j by omega, hz] at k
    simp only at k ⊢
    rw [k]
    have hm : j % 4 = 0 ∨ j % 4 = 1 ∨ j % 4 = 2 ∨ j % 4 = 3 := by omega
    rcases hm with h | h | h | h <;> simp [h, ndc]
  · rw [List.getElem?_eq_none (by simp [madeCells]; omega), List.getElem?_eq_none (by simp only [ndcs_length]; omega)]
theorem At.rnd {w : World} {g : Nat} {ns : List Nd} (h : At w g 32 (ndcs ns)) (c : Nat) : RNd w (.slice (some ⟨g, 0, none⟩) ns.length c) ns := by
  refine ⟨some ⟨g, 0, none⟩, c, rfl, fun j hj => ⟨g, 0, rfl, h.lt, ?_, ?_, ?_, ?_⟩⟩ <;> rw [Nat.zero_add, h.cell]
  · have := ndcs_at ns j 0 hj (by decide); simpa [ndc] using this
  · have := ndcs_at ns j 1 hj (by decide); simpa [ndc] using this
  · have := ndcs_at ns j 2 hj (by decide); simpa [ndc] using this
  · have := ndcs_at ns j 3 hj (by decide); simpa [ndc] using this

set_option maxRecDepth 100000 in
set_option maxHeartbeats 1600000 in
theorem toNodeS_any (v : Value) (xs : List Nd) (w : World) (hv : RNd w v xs) (hl : xs.length ≤ 1048576) :
    Calls Try.prog 6 #[v] w fun e w' => ∃ u, e = .returned u ∧ RNd w' u xs ∧ Below w.heap.size w w' := by
  obtain ⟨a, c, rfl, hc⟩ := hv
  have HC := hide hc
  clear hc
  have mk := make_nd xs.length hl
  rw [made_nd] at mk
  have HN := hide (At.new w 32 (ndcs (copiedN 0 xs)))
  go_enter Try.func6, Try.ntmps6
  go_wp2
  go_loopw [4] (fun i wr => ∃ (j : Nat), j ≤ xs.length ∧ i = .int .i64 j ∧ At wr w.heap.size 32 (ndcs (copiedN j xs)) ∧ Below w.heap.size w wr) (fun i _ => xs.length - (intOf i).toNat)
  case atStart => exact ⟨0, Nat.zero_le _, rfl, HN.out, (Below.refl _ w).alloc (Nat.le_refl _) _⟩
  case round =>
    obtain ⟨j, hj, rfl, hown, hb⟩ := hrel
    clear mk HN
    have hsz := hown.lt
    by_cases hlt : j < xs.length
    · obtain ⟨g, off, rfl, hg, m0, m1, m2, m3⟩ := HC.out j hlt
      have k0 := (hb.cell (p := ⟨g, off + j * 4, none⟩) hg).trans m0
      have k1 := (hb.cell (p := ⟨g, off + j * 4 + 1, none⟩) hg).trans m1
      have k2 := (hb.cell (p := ⟨g, off + j * 4 + 2, none⟩) hg).trans m2
      have k3 := (hb.cell (p := ⟨g, off + j * 4 + 3, none⟩) hg).trans m3
      obtain ⟨⟨x0, x1, x2, x3⟩, hx⟩ : ∃ x, xs[j] = x := ⟨_, rfl⟩
      rw [hx] at k0 k1 k2 k3
      have HS := hide (copiedN_set j xs hlt)
      rw [hx] at HS
      have hcl : j < (copiedN j xs).length := by rw [copiedN_length j xs hj]; exact hlt
      have HST := hide (ndcs_set (copiedN j xs) j hcl (x0, x1, x2, x3))
      rw [HS.out] at HST
      have HCELL : Hid (∀ w1, Below wr.heap.size wr w1 → w1.cell? ⟨w.heap.size, j * 4, none⟩ = some (.string ByteArray.empty) ∧ w1.cell? ⟨w.heap.size, j * 4 + 1, none⟩ = some (.bool false) ∧ w1.cell? ⟨w.heap.size, j * 4 + 2, none⟩ = some (.string ByteArray.empty) ∧ w1.cell? ⟨w.heap.size, j * 4 + 3, none⟩ = some (.string ByteArray.empty) ∧ (∀ i, w1.frozen? ⟨w.heap.size, i, none⟩ = false) ∧ At w1 w.heap.size 32 (ndcs (copiedN j xs)) ∧ Below w.heap.size w w1) := fun w1 b => by
        have h1 := hown.below b hsz
        have hz := copiedN_at j xs hlt
        refine ⟨?_, ?_, ?_, ?_, fun i => h1.frozen i, h1, hb.trans (b.mono (by omega))⟩ <;> rw [h1.cell]
        · have := ndcs_at (copiedN j xs) j 0 hcl (by decide); rw [hz] at this; exact this
        · have := ndcs_at (copiedN j xs) j 1 hcl (by decide); rw [hz] at this; exact this
        · have := ndcs_at (copiedN j xs) j 2 hcl (by decide); rw [hz] at this; exact this
        · have := ndcs_at (copiedN j xs) j 3 hcl (by decide); rw [hz] at this; exact this
      have hgw : ¬ g = w.heap.size := by omega
      have j0 : (0 : Int) ≤ (j : Int) := by omega
      have j1 : (j : Int) < (xs.length : Int) := by omega
      clear hown hb m0 m1 m2 m3 hx hcl
      simp only at k0 k1 k2 k3
      go_wp2_with fail
      refine (toNode_any x0 x1 x2 x3 _).mono ?_
      rintro e w1 ⟨rfl, B1⟩
      obtain ⟨c0, c1, c2, c3, f, h1, b1⟩ := HCELL.out w1 B1
      have f0 := f (j * 4)
      have f1 := f (j * 4 + 1)
      have f2 := f (j * 4 + 2)
      have f3 := f (j * 4 + 3)
      have h5 := (((h1.set (j * 4) (.string x0)).set (j * 4 + 1) (.bool x1)).set (j * 4 + 2) (.string x2)).set (j * 4 + 3) (.string x3)
      rw [HST.out] at h5
      have b5 := (((b1.setCell (p := ⟨w.heap.size, j * 4, none⟩) (Nat.le_refl _) (.string x0)).setCell (p := ⟨w.heap.size, j * 4 + 1, none⟩) (Nat.le_refl _) (.bool x1)).setCell (p := ⟨w.heap.size, j * 4 + 2, none⟩) (Nat.le_refl _) (.string x2)).setCell (p := ⟨w.heap.size, j * 4 + 3, none⟩) (Nat.le_refl _) (.string x3)
      have HF := hide (And.intro h5 b5)
      have l1 := B1.size
      clear h5 b5 B1 h1 b1 HCELL k0 k1 k2 k3 f
      go_wp2
      go_roundw
      case rel => exact ⟨j + 1, by omega, by go_num, HF.out.1, HF.out.2⟩
      case measure => simp [intOf]; omega
    · have hjl : j = xs.length := by omega
      have HR := hide (And.intro hown hb)
      have HJ := hide hjl
      clear hown hb hjl
      go_wp2
      go_ret
      refine ⟨_, rfl, ?_, HR.out.2⟩
      have := HR.out.1
      rw [HJ.out, copiedN_all] at this
      exact At.rnd this _

set_option maxRecDepth 100000 in
set_option maxHeartbeats 800000 in
theorem eqNode_same (x0 : ByteArray) (x1 : Bool) (x2 x3 : ByteArray) (w : World) :
    Calls Try.prog 14 #[.agg #[.string x0, .bool x1, .string x2, .string x3], .agg #[.string x0, .bool x1, .string x2, .string x3]] w fun e w' => e = .returned (.bool true) ∧ Below w.heap.size w w' := by
  go_enter Try.func14, Try.ntmps14
  go_wp2
  go_ret
  refine ⟨rfl, ?_⟩
  go_grown

set_option maxRecDepth 100000 in
set_option maxHeartbeats 800000 in
theorem eqNodeS_same (va vb : Value) (l : List Nd) (w : World) (ha : RNd w va l) (hb : RNd w vb l) (hl : l.length ≤ 1000000000) :
    Calls Try.prog 8 #[va, vb] w fun e w' => e = .returned (.bool true) ∧ Below w.heap.size w w' := by
  obtain ⟨a1, c1, rfl, ha⟩ := ha
  obtain ⟨a2, c2, rfl, hb⟩ := hb
  have HA := hide ha
  have HB := hide hb
  clear ha hb
  go_enter Try.func8, Try.ntmps8
  go_wp2
  go_loopw [5] (fun i wr => ∃ j : Nat, j ≤ l.length ∧ i = .int .i64 j ∧ Below w.heap.size w wr) (fun i _ => l.length - (intOf i).toNat)
  case atStart => exact ⟨0, Nat.zero_le _, rfl, Below.refl _ _⟩
  case round =>
    obtain ⟨j, hj, rfl, hb⟩ := hrel
    have hsz := hb.size
    by_cases hlt : j < l.length
    · obtain ⟨g1, o1, rfl, hg1, m0, m1, m2, m3⟩ := HA.out j hlt
      obtain ⟨g2, o2, rfl, hg2, n0, n1, n2, n3⟩ := HB.out j hlt
      obtain ⟨⟨x0, x1, x2, x3⟩, hx⟩ : ∃ x, l[j] = x := ⟨_, rfl⟩
      rw [hx] at m0 m1 m2 m3 n0 n1 n2 n3
      have HK : Hid (∀ w1, Below w.heap.size w w1 → w1.cell? ⟨g1, o1 + j * 4, none⟩ = some (.string x0) ∧ w1.cell? ⟨g1, o1 + j * 4 + 1, none⟩ = some (.bool x1) ∧ w1.cell? ⟨g1, o1 + j * 4 + 2, none⟩ = some (.string x2) ∧ w1.cell? ⟨g1, o1 + j * 4 + 3, none⟩ = some (.string x3) ∧ w1.cell? ⟨g2, o2 + j * 4, none⟩ = some (.string x0) ∧ w1.cell? ⟨g2, o2 + j * 4 + 1, none⟩ = some (.bool x1) ∧ w1.cell? ⟨g2, o2 + j * 4 + 2, none⟩ = some (.string x2) ∧ w1.cell? ⟨g2, o2 + j * 4 + 3, none⟩ = some (.string x3)) := fun w1 b =>
        ⟨(b.cell (p := ⟨g1, o1 + j * 4, none⟩) hg1).trans m0, (b.cell (p := ⟨g1, o1 + j * 4 + 1, none⟩) hg1).trans m1, (b.cell (p := ⟨g1, o1 + j * 4 + 2, none⟩) hg1).trans m2, (b.cell (p := ⟨g1, o1 + j * 4 + 3, none⟩) hg1).trans m3, (b.cell (p := ⟨g2, o2 + j * 4, none⟩) hg2).trans n0, (b.cell (p := ⟨g2, o2 + j * 4 + 1, none⟩) hg2).trans n1, (b.cell (p := ⟨g2, o2 + j * 4 + 2, none⟩) hg2).trans n2, (b.cell (p := ⟨g2, o2 + j * 4 + 3, none⟩) hg2).trans n3⟩
      obtain ⟨k0, k1, k2, k3, p0, p1, p2, p3⟩ := HK.out wr hb
      have BB := hb.drew
      have j0 : (0 : Int) ≤ (j : Int) := by omega
      have j1 : (j : Int) < (l.length : Int) := by omega
      clear m0 m1 m2 m3 n0 n1 n2 n3 hx hb
      go_wp2
      go_region_held3 (fun w' => w'.cell? ⟨g1, o1 + j * 4, none⟩ = some (.string x0) ∧ w'.cell? ⟨g1, o1 + j * 4 + 1, none⟩ = some (.bool x1) ∧ w'.cell? ⟨g1, o1 + j * 4 + 2, none⟩ = some (.string x2) ∧ w'.cell? ⟨g1, o1 + j * 4 + 3, none⟩ = some (.string x3) ∧ w'.cell? ⟨g2, o2 + j * 4, none⟩ = some (.string x0) ∧ w'.cell? ⟨g2, o2 + j * 4 + 1, none⟩ = some (.bool x1) ∧ w'.cell? ⟨g2, o2 + j * 4 + 2, none⟩ = some (.string x2) ∧ w'.cell? ⟨g2, o2 + j * 4 + 3, none⟩ = some (.string x3)) (exact HK.out _ BB) ((go_at_call 14; refine (eqNode_same x0 x1 x2 x3 _).mono ?_; rintro e w3 ⟨rfl, B3⟩; replace BB := BB.trans (B3.mono BB.size)))
      have HBB := hide BB
      clear BB B3 k0 k1 k2 k3 p0 p1 p2 p3
      go_wp2
      go_roundw
      case rel => exact ⟨j + 1, by omega, by go_num, HBB.out⟩
      case measure => simp [intOf]; omega
    · go_wp2
      go_ret
      exact ⟨rfl, hb⟩
end Go.Proofs.Ytklmaeepoijecaa
