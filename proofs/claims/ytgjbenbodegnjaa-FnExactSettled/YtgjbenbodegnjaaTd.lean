
/- laws.toDep, laws.toDepS and laws.toMem by their contracts. -/
import Derived.Test.YtgjbenbodegnjaaDd
import Derived.Test.YtgjbenbodegnjaaCq
import Derived.Test.YtgjbenbodegnjaaDm
namespace Go.Proofs.Ytgjbenbodegnjaa.Kit
open Go.RowKit
theorem made_n (Z : Row) (hZ : 0 < Z.length) (n : Nat) : (madeCells Z.toArray (n * Z.length)).toList = (List.replicate n Z).flatten := by
  have he : Even Z.length (List.replicate n Z) := fun t ht => by rw [List.eq_of_mem_replicate ht]
  apply List.ext_getElem?
  intro j
  by_cases hj : j < n * Z.length
  · have e : (madeCells Z.toArray (n * Z.length)).toList[j]? = some (Z.toArray[j % Z.length]!) := by simp [madeCells, hj]
    have hq : j / Z.length < n := (Nat.div_lt_iff_lt_mul hZ).2 hj
    have hm := Nat.mod_lt j hZ
    have k := flat_at he (j / Z.length) (j % Z.length) (by simpa using hq) hm
    rw [show j / Z.length * Z.length + j % Z.length = j by rw [Nat.mul_comm]; exact Nat.div_add_mod j Z.length] at k
    rw [e, k, List.getElem_replicate, List.getElem?_eq_getElem hm]
    simp [hm]
  · rw [List.getElem?_eq_none (by simp [madeCells]; omega), List.getElem?_eq_none (by rw [flat_length he]; simp; omega)]
/-- One that leans without anything. -/
def zDp : Dp := ⟨0, 0, 0, 0, 0, 0, ⟨#[]⟩, false, false, 0, []⟩
def zRow : Row := zDp.row (.slice none 0 0)
theorem GN.made (w : World) (n : Nat) (hm : n ≤ maxLen) : GN KDep (w.alloc (.cells (madeCells zRow.toArray (n * 11)) 65)) (fun k => w.heap.size ≤ k) (.slice (some ⟨w.heap.size, 0, none⟩) n n) (List.replicate n zRow) (List.replicate n zDp) := by
  refine ⟨by simp, ?_, fun j hj hj' => ?_, fun i j hi hj _ k e => ?_, fun j hj k e => ?_, fun k e => ?_, fun j hj k e => ?_⟩
  · have := NOwns.of_at (n := 11) (AtC.new w 65 (madeCells zRow.toArray (n * 11))) (made_n zRow (by decide) n) (fun t ht => by rw [List.eq_of_mem_replicate ht]; rfl) (by simpa using hm)
    simp at this
    exact this
  · simp only [List.getElem_replicate]
    exact ⟨_, rfl, ROwns.nil _ _ _⟩
  · simp only [List.getElem_replicate] at e
    cases e
  · simp only [List.getElem_replicate] at e
    cases e
  · simp only [Value.ownBlock, Option.some.injEq] at e
    omega
  · simp only [List.getElem_replicate] at e
    cases e
end Go.Proofs.Ytgjbenbodegnjaa.Kit
namespace Go.Proofs.Ytgjbenbodegnjaa
open Go.RowKit Kit
theorem Try.u39 : Try.prog.underlying 39 = some (.slice 65) := by kernel_rfl
theorem Try.i65 : (Try.prog.info? 65).map (fun i => (i.zero, i.size, i.bytes)) = some (some (.agg #[.int .i64 0, .int .i64 0, .int .i64 0, .int .i64 0, .int .i64 0, .int .i64 0, .string ⟨#[]⟩, .bool false, .bool false, .int .i64 0, .slice none 0 0]), 11, 104) := by kernel_rfl
theorem make_dep (n : Nat) (h : n ≤ 1048576) (w : World) : (Instr.makeSlice 39 (.int .i64 (n : Int)) (.int .i64 (n : Int))).run Try.prog w = .ok (.slice (some ⟨w.heap.size, 0, none⟩) n n) (w.alloc (.cells (madeCells zRow.toArray (n * 11)) 65)) := by
  obtain ⟨i0, hi, hz0, hz1, hz2⟩ := info_parts Try.i65
  rw [run_make w 39 65 i0 _ Try.u39 hi hz0 .i64 .i64 n n (by omega) (by omega) (by rw [hz2]; omega) (by omega), hz1]
  rfl
set_option maxRecDepth 100000 in
set_option maxHeartbeats 1600000 in
theorem toDep_any (id kd io pt bk sl : Int) (nm : ByteArray) (bt ot : Bool) (af : Int) (bl : List Int) (p : Value) (w : World) (hv : RInts w p bl) (hl : bl.length ≤ 1048576) :
    Calls Try.prog 26 #[.agg #[.int .i64 id, .int .i64 kd, .int .i64 io, .int .i64 pt, .int .i64 bk, .int .i64 sl, .string nm, .bool bt, .bool ot, .int .i64 af, p]] w fun e w' => ∃ u, e = .returned (.agg #[.int .i64 id, .int .i64 kd, .int .i64 io, .int .i64 pt, .int .i64 bk, .int .i64 sl, .string nm, .bool bt, .bool ot, .int .i64 af, u]) ∧ ROwns w' w.heap.size 3 u (ic bl) ∧ Below w.heap.size w w' := by
  have HV := hide hv
  obtain ⟨a, c, rfl⟩ := hv.form
  clear hv
  go_enter Try.func26, Try.ntmps26
  go_wp2_with fail
  refine (toI_any _ bl _ (((HV.out.alloc _).alloc _).alloc _) hl).mono ?_
  rintro e w1 ⟨u, rfl, O1, B1⟩
  obtain ⟨a1, c1, rfl⟩ := O1.rints.form
  have K0 : AtC w1 (w.heap.size + 1) 65 #[.int .i64 0, .int .i64 0, .int .i64 0, .int .i64 0, .int .i64 0, .int .i64 0, .string ⟨#[]⟩, .bool false, .bool false, .int .i64 0, .slice none 0 0] := by
    have := ((AtC.new (w.alloc (.cells #[.int .i64 id, .int .i64 kd, .int .i64 io, .int .i64 pt, .int .i64 bk, .int .i64 sl, .string nm, .bool bt, .bool ot, .int .i64 af, .slice a bl.length c] 61)) 65 #[.int .i64 0, .int .i64 0, .int .i64 0, .int .i64 0, .int .i64 0, .int .i64 0, .string ⟨#[]⟩, .bool false, .bool false, .int .i64 0, .slice none 0 0]).alloc (.cells #[.int .i64 id, .int .i64 kd, .int .i64 io, .int .i64 pt, .int .i64 bk, .int .i64 sl, .string nm, .bool bt, .bool ot, .int .i64 af, .slice none 0 0] 65)).over B1
    simpa using this
  have K1 : AtC w1 (w.heap.size + 1 + 1) 65 #[.int .i64 id, .int .i64 kd, .int .i64 io, .int .i64 pt, .int .i64 bk, .int .i64 sl, .string nm, .bool bt, .bool ot, .int .i64 af, .slice none 0 0] := by
    have := (AtC.new ((w.alloc (.cells #[.int .i64 id, .int .i64 kd, .int .i64 io, .int .i64 pt, .int .i64 bk, .int .i64 sl, .string nm, .bool bt, .bool ot, .int .i64 af, .slice a bl.length c] 61)).alloc (.cells #[.int .i64 0, .int .i64 0, .int .i64 0, .int .i64 0, .int .i64 0, .int .i64 0, .string ⟨#[]⟩, .bool false, .bool false, .int .i64 0, .slice none 0 0] 65)) 65 #[.int .i64 id, .int .i64 kd, .int .i64 io, .int .i64 pt, .int .i64 bk, .int .i64 sl, .string nm, .bool bt, .bool ot, .int .i64 af, .slice none 0 0]).over B1
    simpa using this
  have B2 : Below w.heap.size w w1 := ((((Below.refl _ w).alloc (Nat.le_refl _) _).alloc (by simp) _).alloc (by simp; omega) _).trans (B1.mono (by simp; omega))
  have O2 : ROwns w1 (w.heap.size + 1 + 1 + 1) 3 (.slice a1 bl.length c1) (ic bl) := O1.base_le (by simp)
  have q0 : w1.cell? ⟨w.heap.size + 1, 0, none⟩ = some (.int .i64 0) := K0.cell 0
  have q1 : w1.cell? ⟨w.heap.size + 1, 1, none⟩ = some (.int .i64 0) := K0.cell 1
  have q2 : w1.cell? ⟨w.heap.size + 1, 2, none⟩ = some (.int .i64 0) := K0.cell 2
  have q3 : w1.cell? ⟨w.heap.size + 1, 3, none⟩ = some (.int .i64 0) := K0.cell 3
  have q4 : w1.cell? ⟨w.heap.size + 1, 4, none⟩ = some (.int .i64 0) := K0.cell 4
  have q5 : w1.cell? ⟨w.heap.size + 1, 5, none⟩ = some (.int .i64 0) := K0.cell 5
  have q6 : w1.cell? ⟨w.heap.size + 1, 6, none⟩ = some (.string ⟨#[]⟩) := K0.cell 6
  have q7 : w1.cell? ⟨w.heap.size + 1, 7, none⟩ = some (.bool false) := K0.cell 7
  have q8 : w1.cell? ⟨w.heap.size + 1, 8, none⟩ = some (.bool false) := K0.cell 8
  have q9 : w1.cell? ⟨w.heap.size + 1, 9, none⟩ = some (.int .i64 0) := K0.cell 9
  have q10 : w1.cell? ⟨w.heap.size + 1, 10, none⟩ = some (.slice none 0 0) := K0.cell 10
  have z0 := K0.frozen 0
  have z1 := K0.frozen 1
  have z2 := K0.frozen 2
  have z3 := K0.frozen 3
  have z4 := K0.frozen 4
  have z5 := K0.frozen 5
  have z6 := K0.frozen 6
  have z7 := K0.frozen 7
  have z8 := K0.frozen 8
  have z9 := K0.frozen 9
  have z10 := K0.frozen 10
  have d0 : w1.cell? ⟨w.heap.size + 1 + 1, 0, none⟩ = some (.int .i64 id) := K1.cell 0
  have d1 : w1.cell? ⟨w.heap.size + 1 + 1, 1, none⟩ = some (.int .i64 kd) := K1.cell 1
  have d2 : w1.cell? ⟨w.heap.size + 1 + 1, 2, none⟩ = some (.int .i64 io) := K1.cell 2
  have d3 : w1.cell? ⟨w.heap.size + 1 + 1, 3, none⟩ = some (.int .i64 pt) := K1.cell 3
  have d4 : w1.cell? ⟨w.heap.size + 1 + 1, 4, none⟩ = some (.int .i64 bk) := K1.cell 4
  have d5 : w1.cell? ⟨w.heap.size + 1 + 1, 5, none⟩ = some (.int .i64 sl) := K1.cell 5
  have d6 : w1.cell? ⟨w.heap.size + 1 + 1, 6, none⟩ = some (.string nm) := K1.cell 6
  have d7 : w1.cell? ⟨w.heap.size + 1 + 1, 7, none⟩ = some (.bool bt) := K1.cell 7
  have d8 : w1.cell? ⟨w.heap.size + 1 + 1, 8, none⟩ = some (.bool ot) := K1.cell 8
  have d9 : w1.cell? ⟨w.heap.size + 1 + 1, 9, none⟩ = some (.int .i64 af) := K1.cell 9
  have d10 : w1.cell? ⟨w.heap.size + 1 + 1, 10, none⟩ = some (.slice none 0 0) := K1.cell 10
  have y10 := K1.frozen 10
  have HO := hide O2
  have HB := hide B2
  clear O1 O2 B1 B2 K0 K1
  go_wp2
  refine bodyPost_ret (v := .agg #[.int .i64 id, .int .i64 kd, .int .i64 io, .int .i64 pt, .int .i64 bk, .int .i64 sl, .string nm, .bool bt, .bool ot, .int .i64 af, .slice a1 bl.length c1]) (by simp [results, go_sem, q0, q1, q2, q3, q4, q5, q6, q7, q8, q9, q10]) rfl ⟨_, rfl, ?_, ?_⟩
  · exact ((((((((((((HO.out.setCell_other (by omega) _).setCell_other (by omega) _).setCell_other (by omega) _).setCell_other (by omega) _).setCell_other (by omega) _).setCell_other (by omega) _).setCell_other (by omega) _).setCell_other (by omega) _).setCell_other (by omega) _).setCell_other (by omega) _).setCell_other (by omega) _).setCell_other (by omega) _).base_le (by omega)
  · exact ((((((((((((HB.out.setCell (by simp; omega) _).setCell (by simp) _).setCell (by simp) _).setCell (by simp) _).setCell (by simp) _).setCell (by simp) _).setCell (by simp) _).setCell (by simp) _).setCell (by simp) _).setCell (by simp) _).setCell (by simp) _).setCell (by simp) _)
set_option maxRecDepth 100000 in
set_option maxHeartbeats 3200000 in
theorem toDepS_any (v : Value) (xs : List Dp) (w : World) (hv : RN KDep w v xs) (hl : xs.length ≤ 1048576) (hp : ∀ (j : Nat) (h : j < xs.length), xs[j].bl.length ≤ 1048576) :
    Calls Try.prog 14 #[v] w fun e w' => ∃ u ts, e = .returned u ∧ GN KDep w' (fun k => w.heap.size ≤ k) u ts xs ∧ Below w.heap.size w w' := by
  obtain ⟨a, c, rfl, -, hc⟩ := hv.dep
  have HC := hide hc
  have HP := hide hp
  clear hc hv hp
  have mk := make_dep xs.length hl
  go_enter Try.func14, Try.ntmps14
  go_wp2
  go_loopw [4] (fun i wr => ∃ (j : Nat) (ts : List Row), j ≤ xs.length ∧ i = .int .i64 j ∧ GN KDep wr (fun k => w.heap.size ≤ k) (.slice (some ⟨w.heap.size, 0, none⟩) xs.length xs.length) ts (cpy zDp j xs) ∧ Below w.heap.size w wr) (fun i _ => xs.length - (intOf i).toNat)
  case atStart =>
    refine ⟨0, List.replicate xs.length zRow, Nat.zero_le _, rfl, ?_, (Below.refl _ w).alloc (Nat.le_refl _) _⟩
    rw [cpy_zero]
    exact GN.made w xs.length (by unfold maxLen; omega)
  case round =>
    obtain ⟨j, ts, hj, rfl, hown, hb⟩ := hrel
    by_cases hlt : j < xs.length
    · obtain ⟨g, off, p, rfl, hg, m, hp⟩ := HC.out j hlt
      have hpl := HP.out j hlt
      have hcs := cpy_set zDp j xs hlt
      obtain ⟨X, hX⟩ : ∃ X, xs[j] = X := ⟨_, rfl⟩
      rw [hX] at m hp hpl hcs
      obtain ⟨id, kd, io, pt, bk, sl, nm, bt, ot, af, bl⟩ := X
      simp only at hp hpl
      obtain ⟨pa, pc, rfl⟩ := hp.form
      simp only [DCells] at m
      obtain ⟨m0, m1, m2, m3, m4, m5, m6, m7, m8, m9, m10⟩ := m
      have q0 : wr.cell? ⟨g, off + j * 11, none⟩ = some (.int .i64 id) := (hb.cell (p := ⟨g, off + j * 11, none⟩) hg).trans m0
      have q1 : wr.cell? ⟨g, off + j * 11 + 1, none⟩ = some (.int .i64 kd) := (hb.cell (p := ⟨g, off + j * 11 + 1, none⟩) hg).trans m1
      have q2 : wr.cell? ⟨g, off + j * 11 + 2, none⟩ = some (.int .i64 io) := (hb.cell (p := ⟨g, off + j * 11 + 2, none⟩) hg).trans m2
      have q3 : wr.cell? ⟨g, off + j * 11 + 3, none⟩ = some (.int .i64 pt) := (hb.cell (p := ⟨g, off + j * 11 + 3, none⟩) hg).trans m3
      have q4 : wr.cell? ⟨g, off + j * 11 + 4, none⟩ = some (.int .i64 bk) := (hb.cell (p := ⟨g, off + j * 11 + 4, none⟩) hg).trans m4
      have q5 : wr.cell? ⟨g, off + j * 11 + 5, none⟩ = some (.int .i64 sl) := (hb.cell (p := ⟨g, off + j * 11 + 5, none⟩) hg).trans m5
      have q6 : wr.cell? ⟨g, off + j * 11 + 6, none⟩ = some (.string nm) := (hb.cell (p := ⟨g, off + j * 11 + 6, none⟩) hg).trans m6
      have q7 : wr.cell? ⟨g, off + j * 11 + 7, none⟩ = some (.bool bt) := (hb.cell (p := ⟨g, off + j * 11 + 7, none⟩) hg).trans m7
      have q8 : wr.cell? ⟨g, off + j * 11 + 8, none⟩ = some (.bool ot) := (hb.cell (p := ⟨g, off + j * 11 + 8, none⟩) hg).trans m8
      have q9 : wr.cell? ⟨g, off + j * 11 + 9, none⟩ = some (.int .i64 af) := (hb.cell (p := ⟨g, off + j * 11 + 9, none⟩) hg).trans m9
      have q10 : wr.cell? ⟨g, off + j * 11 + 10, none⟩ = some (.slice pa bl.length pc) := (hb.cell (p := ⟨g, off + j * 11 + 10, none⟩) hg).trans m10
      have hp2 := hp.below hb (Nat.le_refl _)
      have hjt : j < ts.length := by rw [hown.len, cpy_length _ _ _ hj]; exact hlt
      obtain ⟨pp, hrow, -⟩ := hown.inn j hjt (by rw [cpy_length _ _ _ hj]; exact hlt)
      obtain ⟨d0, fz⟩ := hown.row.deps j hjt hrow rfl
      have k5 : w.heap.size < wr.heap.size := hown.row.lt _ rfl
      obtain ⟨Y, hY⟩ : ∃ Y, (cpy zDp j xs)[j]'(by rw [cpy_length _ _ _ hj]; exact hlt) = Y := ⟨_, rfl⟩
      rw [hY] at d0
      have HK : Hid (∀ w1, Below wr.heap.size wr w1 → DCells w1 w.heap.size (j * 11) Y pp ∧ (∀ i, w1.frozen? ⟨w.heap.size, i, none⟩ = false)) := fun w1 b => ⟨d0.below b k5, fun i => (b.frozen (p := ⟨w.heap.size, i, none⟩) k5).trans (fz i)⟩
      have HQ := hide (And.intro hjt hpl)
      have HPT := hide hp2
      have HOWN := hide hown
      have HB := hide hb
      have HCS := hide hcs
      have hsz := hb.size
      have hgw : ¬ g = w.heap.size := by omega
      have j0 : (0 : Int) ≤ (j : Int) := by omega
      have j1 : (j : Int) < (xs.length : Int) := by omega
      have HF : Hid (∀ (ua : Option Addr) (uc : Nat) (w1 : World), ROwns w1 wr.heap.size 3 (.slice ua bl.length uc) (ic bl) → Below wr.heap.size wr w1 → (∃ ts, GN KDep (((((((((((w1.setCell ⟨w.heap.size, j * 11, none⟩ (.int .i64 id)).setCell ⟨w.heap.size, j * 11 + 1, none⟩ (.int .i64 kd)).setCell ⟨w.heap.size, j * 11 + 2, none⟩ (.int .i64 io)).setCell ⟨w.heap.size, j * 11 + 3, none⟩ (.int .i64 pt)).setCell ⟨w.heap.size, j * 11 + 4, none⟩ (.int .i64 bk)).setCell ⟨w.heap.size, j * 11 + 5, none⟩ (.int .i64 sl)).setCell ⟨w.heap.size, j * 11 + 6, none⟩ (.string nm)).setCell ⟨w.heap.size, j * 11 + 7, none⟩ (.bool bt)).setCell ⟨w.heap.size, j * 11 + 8, none⟩ (.bool ot)).setCell ⟨w.heap.size, j * 11 + 9, none⟩ (.int .i64 af)).setCell ⟨w.heap.size, j * 11 + 10, none⟩ (.slice ua bl.length uc)) (fun k => w.heap.size ≤ k) (.slice (some ⟨w.heap.size, 0, none⟩) xs.length xs.length) ts (cpy zDp (j + 1) xs)) ∧ Below w.heap.size w (((((((((((w1.setCell ⟨w.heap.size, j * 11, none⟩ (.int .i64 id)).setCell ⟨w.heap.size, j * 11 + 1, none⟩ (.int .i64 kd)).setCell ⟨w.heap.size, j * 11 + 2, none⟩ (.int .i64 io)).setCell ⟨w.heap.size, j * 11 + 3, none⟩ (.int .i64 pt)).setCell ⟨w.heap.size, j * 11 + 4, none⟩ (.int .i64 bk)).setCell ⟨w.heap.size, j * 11 + 5, none⟩ (.int .i64 sl)).setCell ⟨w.heap.size, j * 11 + 6, none⟩ (.string nm)).setCell ⟨w.heap.size, j * 11 + 7, none⟩ (.bool bt)).setCell ⟨w.heap.size, j * 11 + 8, none⟩ (.bool ot)).setCell ⟨w.heap.size, j * 11 + 9, none⟩ (.int .i64 af)).setCell ⟨w.heap.size, j * 11 + 10, none⟩ (.slice ua bl.length uc))) := fun ua uc w1 O1 B1 => by
        have O2 := HOWN.out.put (S' := fun k => w.heap.size ≤ k) rfl j HQ.out.1 (t' := (⟨id, kd, io, pt, bk, sl, nm, bt, ot, af, bl⟩ : Dp).row (.slice ua bl.length uc)) (x' := ⟨id, kd, io, pt, bk, sl, nm, bt, ot, af, bl⟩) B1 ⟨_, rfl, O1.base_le (Nat.zero_le _)⟩ (fun k hk => (O1.lt k hk).1) (fun k hk => hk) (fun k hk => by omega)
        rw [HCS.out] at O2
        exact ⟨⟨_, O2⟩, ((((((((((((HB.out.trans (B1.mono hsz)).setCell (p := ⟨w.heap.size, j * 11, none⟩) (Nat.le_refl _) (.int .i64 id)).setCell (p := ⟨w.heap.size, j * 11 + 1, none⟩) (Nat.le_refl _) (.int .i64 kd)).setCell (p := ⟨w.heap.size, j * 11 + 2, none⟩) (Nat.le_refl _) (.int .i64 io)).setCell (p := ⟨w.heap.size, j * 11 + 3, none⟩) (Nat.le_refl _) (.int .i64 pt)).setCell (p := ⟨w.heap.size, j * 11 + 4, none⟩) (Nat.le_refl _) (.int .i64 bk)).setCell (p := ⟨w.heap.size, j * 11 + 5, none⟩) (Nat.le_refl _) (.int .i64 sl)).setCell (p := ⟨w.heap.size, j * 11 + 6, none⟩) (Nat.le_refl _) (.string nm)).setCell (p := ⟨w.heap.size, j * 11 + 7, none⟩) (Nat.le_refl _) (.bool bt)).setCell (p := ⟨w.heap.size, j * 11 + 8, none⟩) (Nat.le_refl _) (.bool ot)).setCell (p := ⟨w.heap.size, j * 11 + 9, none⟩) (Nat.le_refl _) (.int .i64 af)).setCell (p := ⟨w.heap.size, j * 11 + 10, none⟩) (Nat.le_refl _) (.slice ua bl.length uc))⟩
      clear hown hb hX hp hp2 mk hpl hrow hjt d0 fz hY hcs m0 m1 m2 m3 m4 m5 m6 m7 m8 m9 m10
      go_wp2_with (go_at_call 26; refine (toDep_any id kd io pt bk sl nm bt ot af bl _ _ HPT.out HQ.out.2).mono ?_; rintro e w1 ⟨u, rfl, O1, B1⟩; obtain ⟨ua, uc, rfl⟩ := O1.rints.form; obtain ⟨k1, k2⟩ := HK.out w1 B1; simp only [DCells] at k1; obtain ⟨n0, n1, n2, n3, n4, n5, n6, n7, n8, n9, n10⟩ := k1; have hk0 := k2 (j * 11); have hk1 := k2 (j * 11 + 1); have hk2 := k2 (j * 11 + 2); have hk3 := k2 (j * 11 + 3); have hk4 := k2 (j * 11 + 4); have hk5 := k2 (j * 11 + 5); have hk6 := k2 (j * 11 + 6); have hk7 := k2 (j * 11 + 7); have hk8 := k2 (j * 11 + 8); have hk9 := k2 (j * 11 + 9); have hk10 := k2 (j * 11 + 10); have HO := hide (HF.out ua uc w1 O1 B1); clear O1 B1 k2)
      go_roundw
      case rel =>
        obtain ⟨ts', h1⟩ := HO.out.1
        exact ⟨j + 1, ts', by omega, by go_num, h1, HO.out.2⟩
      case measure => simp [intOf]; omega
    · have hjl : j = xs.length := by omega
      have HR := hide (And.intro hown hb)
      have HJ := hide hjl
      clear hown hb hjl mk
      go_wp2
      go_ret
      exact ⟨_, ts, rfl, by have := HR.out.1; rwa [HJ.out, cpy_all] at this, HR.out.2⟩
end Go.Proofs.Ytgjbenbodegnjaa
