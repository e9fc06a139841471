/- spec.SameTree, slices.Equal over nodes, impl.SameTree by their contracts. -/
import Derived.Test.YtonpnjijbdopmaaNd
import Derived.Laws.StructEq
namespace Go.Proofs.Ytonpnjijbdopmaa
open Go.RowKit Kit
theorem ret_bool {a b : Bool} (h : b = a) : Ending.returned (.bool b) = .returned (.bool a) := by rw [h]
/-- Two nodes are the same. -/
def sameNd (x y : Nd) : Bool := decide (x = y)
theorem Try.fieldsOf31 : Try.prog.underlying 31 = some (.struct (Try.prog.fieldsOf 31)) := by kernel_rfl
theorem Try.stood31 : Try.prog.stoodInHeld 31 = false := by kernel_rfl
theorem Try.guard31 : Try.prog.eqGuardType Try.prog.depth 31 = false := by kernel_rfl
theorem Try.fields31 : ∃ n0 n1 n2 n3 : String, (Try.prog.fieldsOf 31).toList.map (fun f => (f.name, f.type, f.offset)) = [(n0, 9, 0), (n1, 4, 1), (n2, 9, 2), (n3, 9, 3)] ∧ n0 ≠ "_" ∧ n1 ≠ "_" ∧ n2 ≠ "_" ∧ n3 ≠ "_" := ⟨ "Path", "Dir", "Head", "Tail", by kernel_rfl, by decide, by decide, by decide, by decide⟩
theorem u9 : Try.prog.underlying 9 = some .string := by kernel_rfl
theorem u4 : Try.prog.underlying 4 = some .bool := by kernel_rfl
theorem i9 : (Try.prog.info? 9).map (fun i => (i.zero, i.size, i.bytes)) = some (some (.string ByteArray.empty), 1, 16) := by kernel_rfl
theorem i4 : (Try.prog.info? 4).map (fun i => (i.zero, i.size, i.bytes)) = some (some (.bool false), 1, 1) := by kernel_rfl
theorem beq_bytes (a b : ByteArray) : (a.toList == b.toList) = decide (a = b) := by
  rw [ByteArray.toList_eq, ByteArray.toList_eq, Bool.eq_iff_iff]
  simp [ByteArray.ext_iff]
theorem eqNdD (d : Nat) (x0 : ByteArray) (x1 : Bool) (x2 x3 y0 : ByteArray) (y1 : Bool) (y2 y3 : ByteArray) (w : World) : (Op.equalIn (d + 1 + 1) 31 (.agg #[.string x0, .bool x1, .string x2, .string x3]) (.agg #[.string y0, .bool y1, .string y2, .string y3])).run Try.prog w = .ok (sameNd (x0, x1, x2, x3) (y0, y1, y2, y3)) w := by
  rw [run_equalIn_struct w (d + 1) 31 _ _ Try.fieldsOf31 Try.stood31]
  obtain ⟨n0, n1, n2, n3, hf, h0, h1, h2, h3⟩ := Try.fields31
  obtain ⟨z9, e9, a9, b9, c9⟩ := info_parts i9
  obtain ⟨z4, e4, a4, b4, c4⟩ := info_parts i4
  generalize (Try.prog.fieldsOf 31).toList = fs at hf
  have h4 : fs.length = 4 := by have := congrArg List.length hf; simpa using this
  rcases fs with _ | ⟨f0, _ | ⟨f1, _ | ⟨f2, _ | ⟨f3, _ | ⟨f4, fs⟩⟩⟩⟩⟩
  · simp at h4
  · simp at h4
  · simp at h4
  · simp at h4
  · simp only [List.map_cons, List.map_nil, List.cons.injEq, Prod.mk.injEq, and_true] at hf
    obtain ⟨⟨rfl, t0, o0⟩, ⟨rfl, t1, o1⟩, ⟨rfl, t2, o2⟩, rfl, t3, o3⟩ := hf
    simp only [Op.eqFields, ne_eq, h0, h1, h2, h3, not_false_eq_true, if_true, t0, t1, t2, t3, o0, o1, o2, o3]
    simp [part, sizeOf, typeInfo, e9, b9, e4, b4, go_sem, beq_bytes]
    simp only [sameNd, Prod.mk.injEq]
    by_cases q0 : x0 = y0 <;> by_cases q1 : x1 = y1 <;> by_cases q2 : x2 = y2 <;> by_cases q3 : x3 = y3 <;> simp [q0, q1, q2, q3]
  · simp at h4
theorem eqNd (x0 : ByteArray) (x1 : Bool) (x2 x3 y0 : ByteArray) (y1 : Bool) (y2 y3 : ByteArray) (w : World) : (Op.equalIn 10000 31 (.agg #[.string x0, .bool x1, .string x2, .string x3]) (.agg #[.string y0, .bool y1, .string y2, .string y3])).run Try.prog w = .ok (sameNd (x0, x1, x2, x3) (y0, y1, y2, y3)) w := eqNdD 9998 x0 x1 x2 x3 y0 y1 y2 y3 w

set_option maxRecDepth 100000 in
set_option maxHeartbeats 800000 in
theorem specSame_any (va vb : Value) (l m : List Nd) (w : World) (ha : RNd w va l) (hb : RNd w vb m) (hl : l.length ≤ 1000000000) (hm : m.length ≤ 1000000000) :
    Calls Try.prog 5 #[va, vb] w fun e w' => e = .returned (.bool (decide (l = m))) ∧ Below w.heap.size w w' := by
  obtain ⟨a1, c1, rfl, ha⟩ := ha
  obtain ⟨a2, c2, rfl, hb⟩ := hb
  have HA := hide ha
  have HB := hide hb
  clear ha hb
  by_cases hlen : l.length = m.length
  · go_enter Try.func5, Try.ntmps5
    rw [← hlen]
    have HL := hide hlen
    clear hlen
    go_wp2
    go_loopw [5] (fun i wr => ∃ j : Nat, j ≤ l.length ∧ i = .int .i64 j ∧ Hid (l.take j = m.take j) ∧ ∃ q, wr = w.drewN q) (fun i _ => l.length - (intOf i).toNat)
    case atStart => exact ⟨0, Nat.zero_le _, rfl, hide (by simp), 0, rfl⟩
    case round =>
      obtain ⟨j, hj, rfl, HJ, q, rfl⟩ := hrel
      by_cases hlt : j < l.length
      · obtain ⟨g1, o1, rfl, _, k0, k1, k2, k3⟩ := HA.out j hlt
        obtain ⟨g2, o2, rfl, _, m0, m1, m2, m3⟩ := HB.out j (by rw [← HL.out]; exact hlt)
        have j0 : (0 : Int) ≤ (j : Int) := by omega
        have j1 : (j : Int) < (l.length : Int) := by omega
        obtain ⟨⟨x0, x1, x2, x3⟩, hx⟩ : ∃ x, l[j] = x := ⟨_, rfl⟩
        obtain ⟨⟨y0, y1, y2, y3⟩, hy⟩ : ∃ y, m[j]'(by rw [← HL.out]; exact hlt) = y := ⟨_, rfl⟩
        rw [hx] at k0 k1 k2 k3
        rw [hy] at m0 m1 m2 m3
        have HX := hide hx
        have HY := hide hy
        clear hx hy
        simp only at k0 k1 k2 k3 m0 m1 m2 m3
        have eN := eqNd x0 x1 x2 x3 y0 y1 y2 y3
        have eG := Try.guard31
        cases hs : sameNd (x0, x1, x2, x3) (y0, y1, y2, y3) with
        | false =>
          rw [hs] at eN
          have HS := hide hs
          clear hs
          go_wp2
          go_quiet (fail)
          go_wp2
          go_ret
          refine ⟨ret_bool ?_, below_drewN (below_drewN (Below.refl _ _) _) _⟩
          have hne : ¬ l = m := by
            intro e
            subst e
            have := HS.out
            simp only [sameNd, decide_eq_false_iff_not] at this
            exact this (HX.out.symm.trans HY.out)
          simp [hne]
        | true =>
          rw [hs] at eN
          have HS := hide hs
          clear hs
          go_wp2
          go_quiet (fail)
          go_wp2
          go_roundw
          case rel =>
            refine ⟨j + 1, by omega, by go_num, hide ?_, _, rfl⟩
            have e := HS.out
            simp only [sameNd, decide_eq_true_eq] at e
            rw [List.take_succ_eq_append_getElem hlt, List.take_succ_eq_append_getElem (by rw [← HL.out]; exact hlt), HJ.out, HX.out, HY.out, e]
          case measure => simp [intOf]; omega
      · have HF := hide HJ.out
        clear HJ
        go_wp2
        go_ret
        refine ⟨ret_bool ?_, below_drewN (Below.refl _ _) _⟩
        have e := HF.out
        rw [List.take_of_length_le (by omega), List.take_of_length_le (by rw [← HL.out]; omega)] at e
        simp [e]
  · have hne : ¬ l = m := fun e => hlen (by rw [e])
    have hn : ((l.length : Int) == (m.length : Int)) = false := by simp; omega
    have HN := hide hne
    clear hne
    go_enter Try.func5, Try.ntmps5
    go_wp2
    go_ret
    exact ⟨ret_bool (by simp [HN.out]), Below.refl _ _⟩
set_option maxRecDepth 100000 in
set_option maxHeartbeats 800000 in
theorem equal_any (va vb : Value) (l m : List Nd) (w : World) (ha : RNd w va l) (hb : RNd w vb m) (hl : l.length ≤ 1000000000) (hm : m.length ≤ 1000000000) :
    Calls Try.prog 11 #[va, vb] w fun e w' => e = .returned (.bool (decide (l = m))) ∧ Below w.heap.size w w' := by
  obtain ⟨a1, c1, rfl, ha⟩ := ha
  obtain ⟨a2, c2, rfl, hb⟩ := hb
  have HA := hide ha
  have HB := hide hb
  clear ha hb
  by_cases hlen : l.length = m.length
  · go_enter Try.func11, Try.ntmps11
    rw [← hlen]
    have HL := hide hlen
    clear hlen
    go_wp2
    go_loopw [13] (fun i wr => ∃ j : Nat, j ≤ l.length ∧ i = .int .i64 j ∧ Hid (l.take j = m.take j) ∧ ∃ q, wr = w.drewN q) (fun i _ => l.length - (intOf i).toNat)
    case atStart => exact ⟨0, Nat.zero_le _, rfl, hide (by simp), 0, rfl⟩
    case round =>
      obtain ⟨j, hj, rfl, HJ, q, rfl⟩ := hrel
      by_cases hlt : j < l.length
      · obtain ⟨g1, o1, rfl, _, k0, k1, k2, k3⟩ := HA.out j hlt
        obtain ⟨g2, o2, rfl, _, m0, m1, m2, m3⟩ := HB.out j (by rw [← HL.out]; exact hlt)
        have j0 : (0 : Int) ≤ (j : Int) := by omega
        have j1 : (j : Int) < (l.length : Int) := by omega
        obtain ⟨⟨x0, x1, x2, x3⟩, hx⟩ : ∃ x, l[j] = x := ⟨_, rfl⟩
        obtain ⟨⟨y0, y1, y2, y3⟩, hy⟩ : ∃ y, m[j]'(by rw [← HL.out]; exact hlt) = y := ⟨_, rfl⟩
        rw [hx] at k0 k1 k2 k3
        rw [hy] at m0 m1 m2 m3
        have HX := hide hx
        have HY := hide hy
        clear hx hy
        simp only at k0 k1 k2 k3 m0 m1 m2 m3
        have eN := eqNd x0 x1 x2 x3 y0 y1 y2 y3
        have eG := Try.guard31
        cases hs : sameNd (x0, x1, x2, x3) (y0, y1, y2, y3) with
        | false =>
          rw [hs] at eN
          have HS := hide hs
          clear hs
          go_wp2
          go_quiet (fail)
          go_wp2
          go_ret
          refine ⟨ret_bool ?_, below_drewN (below_drewN (Below.refl _ _) _) _⟩
          have hne : ¬ l = m := by
            intro e
            subst e
            have := HS.out
            simp only [sameNd, decide_eq_false_iff_not] at this
            exact this (HX.out.symm.trans HY.out)
          simp [hne]
        | true =>
          rw [hs] at eN
          have HS := hide hs
          clear hs
          go_wp2
          go_quiet (fail)
          go_wp2
          go_roundw
          case rel =>
            refine ⟨j + 1, by omega, by go_num, hide ?_, _, rfl⟩
            have e := HS.out
            simp only [sameNd, decide_eq_true_eq] at e
            rw [List.take_succ_eq_append_getElem hlt, List.take_succ_eq_append_getElem (by rw [← HL.out]; exact hlt), HJ.out, HX.out, HY.out, e]
          case measure => simp [intOf]; omega
      · have HF := hide HJ.out
        clear HJ
        go_wp2
        go_ret
        refine ⟨ret_bool ?_, below_drewN (Below.refl _ _) _⟩
        have e := HF.out
        rw [List.take_of_length_le (by omega), List.take_of_length_le (by rw [← HL.out]; omega)] at e
        simp [e]
  · have hne : ¬ l = m := fun e => hlen (by rw [e])
    have hn : ((l.length : Int) == (m.length : Int)) = false := by simp; omega
    have HN := hide hne
    clear hne
    go_enter Try.func11, Try.ntmps11
    go_wp2
    go_ret
    exact ⟨ret_bool (by simp [HN.out]), Below.refl _ _⟩

set_option maxHeartbeats 800000 in
theorem implSame_any (va vb : Value) (l m : List Nd) (w : World) (ha : RNd w va l) (hb : RNd w vb m) (hl : l.length ≤ 1000000000) (hm : m.length ≤ 1000000000) :
    Calls Try.prog 7 #[va, vb] w fun e w' => e = .returned (.bool (decide (l = m))) ∧ Below w.heap.size w w' := by
  have HC := hide (equal_any va vb l m w ha hb hl hm)
  clear ha hb
  generalize decide (l = m) = r at *
  go_enter Try.func7, Try.ntmps7
  go_wp2_with fail
  refine HC.out.mono ?_
  rintro e w1 ⟨rfl, B1⟩
  have HB := hide B1
  clear B1
  go_wp2
  go_ret
  exact ⟨rfl, HB.out⟩
end Go.Proofs.Ytonpnjijbdopmaa
