/- impl.newDep by its contract. -/
import Derived.Test.YtggjillpfclajaaGreatDd
import Derived.Test.YtggjillpfclajaaGreatCq
namespace Go.Proofs.YtggjillpfclajaaGreat
open Go.RowKit Kit
set_option maxRecDepth 100000 in
set_option maxHeartbeats 1600000 in
theorem newDep_any (id kd io pt bk sl : Int) (nm : ByteArray) (bt ot : Bool) (af : Int) (bl : List Int) (p : Value) (w : World) (hv : RInts w p bl) (hl : bl.length ≤ 1048576) (hn : nm.size ≤ 1048576) :
    Calls Tryz.prog 72 #[.agg #[.int .i64 id, .int .i64 kd, .int .i64 io, .int .i64 pt, .int .i64 bk, .int .i64 sl, .string nm, .bool bt, .bool ot, .int .i64 af, p]] w fun e w' => ∃ u, e = .returned (.agg #[.int .i64 id, .int .i64 kd, .int .i64 io, .int .i64 pt, .int .i64 bk, .int .i64 sl, .string nm, .bool bt, .bool ot, .int .i64 af, u]) ∧ ROwns w' w.heap.size 3 u (ic bl) ∧ Below w.heap.size w w' := by
  have HV := hide hv
  obtain ⟨a, c, rfl⟩ := hv.form
  clear hv
  go_enter Tryz.func72, Tryz.ntmps72
  go_wp2_with fail
  refine (clone_any nm _ (Nat.le_trans hn (by decide))).mono ?_
  rintro e w1 ⟨rfl, B1⟩
  have K0 : AtC w1 w.heap.size 52 #[.int .i64 id, .int .i64 kd, .int .i64 io, .int .i64 pt, .int .i64 bk, .int .i64 sl, .string nm, .bool bt, .bool ot, .int .i64 af, .slice a bl.length c] := ((AtC.new w 52 _).alloc _).over B1
  have K1 : AtC w1 (w.heap.size + 1) 52 #[.int .i64 0, .int .i64 0, .int .i64 0, .int .i64 0, .int .i64 0, .int .i64 0, .string ⟨#[]⟩, .bool false, .bool false, .int .i64 0, .slice none 0 0] := by
    have := (AtC.new (w.alloc (.cells #[.int .i64 id, .int .i64 kd, .int .i64 io, .int .i64 pt, .int .i64 bk, .int .i64 sl, .string nm, .bool bt, .bool ot, .int .i64 af, .slice a bl.length c] 52)) 52 #[.int .i64 0, .int .i64 0, .int .i64 0, .int .i64 0, .int .i64 0, .int .i64 0, .string ⟨#[]⟩, .bool false, .bool false, .int .i64 0, .slice none 0 0]).over B1
    simpa using this
  have BW : Below w.heap.size w w1 := (((Below.refl _ w).alloc (Nat.le_refl _) _).alloc (by simp) _).trans (B1.mono (by simp; omega))
  have hs1 : w.heap.size + 1 + 1 ≤ w1.heap.size := by have := B1.size; simpa using this
  have p6 : w1.cell? ⟨w.heap.size, 6, none⟩ = some (.string nm) := K0.cell 6
  have y6 := K0.frozen 6
  have HK : Hid (AtC (w1.setCell ⟨w.heap.size, 6, none⟩ (.string nm)) w.heap.size 52 #[.int .i64 id, .int .i64 kd, .int .i64 io, .int .i64 pt, .int .i64 bk, .int .i64 sl, .string nm, .bool bt, .bool ot, .int .i64 af, .slice a bl.length c] ∧ AtC (w1.setCell ⟨w.heap.size, 6, none⟩ (.string nm)) (w.heap.size + 1) 52 #[.int .i64 0, .int .i64 0, .int .i64 0, .int .i64 0, .int .i64 0, .int .i64 0, .string ⟨#[]⟩, .bool false, .bool false, .int .i64 0, .slice none 0 0] ∧ Below w.heap.size w (w1.setCell ⟨w.heap.size, 6, none⟩ (.string nm))) := ⟨K0.set 6 (.string nm), K1.other (by omega) _, BW.setCell (by simp) _⟩
  obtain ⟨W1, hW1⟩ : ∃ W1, w1.setCell ⟨w.heap.size, 6, none⟩ (.string nm) = W1 := ⟨_, rfl⟩
  have hsz1 : W1.heap.size = w1.heap.size := by rw [← hW1]; simp
  rw [hW1] at HK
  have r10 : W1.cell? ⟨w.heap.size, 10, none⟩ = some (.slice a bl.length c) := HK.out.1.cell 10
  clear B1 K0 K1 BW
  go_wp2_with fail
  refine (newI_any _ bl _ (HV.out.below HK.out.2.2 (Nat.le_refl _)) hl).mono ?_
  rintro e w2 ⟨u, rfl, O2, B2⟩
  obtain ⟨a1, c1, rfl⟩ := O2.rints.form
  have L0 := HK.out.1.over B2
  have L1 := HK.out.2.1.over B2
  have O3 : ROwns w2 (w.heap.size + 1 + 1) 3 (.slice a1 bl.length c1) (ic bl) := O2.base_le (by omega)
  have B3 := HK.out.2.2.trans (B2.mono HK.out.2.2.size)
  have d0 : w2.cell? ⟨w.heap.size, 0, none⟩ = some (.int .i64 id) := L0.cell 0
  have d1 : w2.cell? ⟨w.heap.size, 1, none⟩ = some (.int .i64 kd) := L0.cell 1
  have d2 : w2.cell? ⟨w.heap.size, 2, none⟩ = some (.int .i64 io) := L0.cell 2
  have d3 : w2.cell? ⟨w.heap.size, 3, none⟩ = some (.int .i64 pt) := L0.cell 3
  have d4 : w2.cell? ⟨w.heap.size, 4, none⟩ = some (.int .i64 bk) := L0.cell 4
  have d5 : w2.cell? ⟨w.heap.size, 5, none⟩ = some (.int .i64 sl) := L0.cell 5
  have d6 : w2.cell? ⟨w.heap.size, 6, none⟩ = some (.string nm) := L0.cell 6
  have d7 : w2.cell? ⟨w.heap.size, 7, none⟩ = some (.bool bt) := L0.cell 7
  have d8 : w2.cell? ⟨w.heap.size, 8, none⟩ = some (.bool ot) := L0.cell 8
  have d9 : w2.cell? ⟨w.heap.size, 9, none⟩ = some (.int .i64 af) := L0.cell 9
  have d10 : w2.cell? ⟨w.heap.size, 10, none⟩ = some (.slice a bl.length c) := L0.cell 10
  have q0 : w2.cell? ⟨w.heap.size + 1, 0, none⟩ = some (.int .i64 0) := L1.cell 0
  have z0 := L1.frozen 0
  have q1 : w2.cell? ⟨w.heap.size + 1, 1, none⟩ = some (.int .i64 0) := L1.cell 1
  have z1 := L1.frozen 1
  have q2 : w2.cell? ⟨w.heap.size + 1, 2, none⟩ = some (.int .i64 0) := L1.cell 2
  have z2 := L1.frozen 2
  have q3 : w2.cell? ⟨w.heap.size + 1, 3, none⟩ = some (.int .i64 0) := L1.cell 3
  have z3 := L1.frozen 3
  have q4 : w2.cell? ⟨w.heap.size + 1, 4, none⟩ = some (.int .i64 0) := L1.cell 4
  have z4 := L1.frozen 4
  have q5 : w2.cell? ⟨w.heap.size + 1, 5, none⟩ = some (.int .i64 0) := L1.cell 5
  have z5 := L1.frozen 5
  have q6 : w2.cell? ⟨w.heap.size + 1, 6, none⟩ = some (.string ⟨#[]⟩) := L1.cell 6
  have z6 := L1.frozen 6
  have q7 : w2.cell? ⟨w.heap.size + 1, 7, none⟩ = some (.bool false) := L1.cell 7
  have z7 := L1.frozen 7
  have q8 : w2.cell? ⟨w.heap.size + 1, 8, none⟩ = some (.bool false) := L1.cell 8
  have z8 := L1.frozen 8
  have q9 : w2.cell? ⟨w.heap.size + 1, 9, none⟩ = some (.int .i64 0) := L1.cell 9
  have z9 := L1.frozen 9
  have q10 : w2.cell? ⟨w.heap.size + 1, 10, none⟩ = some (.slice none 0 0) := L1.cell 10
  have z10 := L1.frozen 10
  have y10 := L0.frozen 10
  have HO := hide O3
  have HB := hide B3
  clear O2 O3 B2 B3 L0 L1 HK r10 p6 y6 hW1 hsz1
  go_wp2
  refine bodyPost_ret (v := .agg #[.int .i64 id, .int .i64 kd, .int .i64 io, .int .i64 pt, .int .i64 bk, .int .i64 sl, .string nm, .bool bt, .bool ot, .int .i64 af, .slice a1 bl.length c1]) (by simp [results, go_sem, q0, q1, q2, q3, q4, q5, q6, q7, q8, q9, q10]) rfl ⟨_, rfl, ?_, ?_⟩
  · exact ((((((((((((HO.out.setCell_other (by omega) _).setCell_other (by omega) _).setCell_other (by omega) _).setCell_other (by omega) _).setCell_other (by omega) _).setCell_other (by omega) _).setCell_other (by omega) _).setCell_other (by omega) _).setCell_other (by omega) _).setCell_other (by omega) _).setCell_other (by omega) _).setCell_other (by omega) _).base_le (by omega)
  · exact ((((((((((((HB.out.setCell (by simp) _).setCell (by simp) _).setCell (by simp) _).setCell (by simp) _).setCell (by simp) _).setCell (by simp) _).setCell (by simp) _).setCell (by simp) _).setCell (by simp) _).setCell (by simp) _).setCell (by simp) _).setCell (by simp) _)
end Go.Proofs.YtggjillpfclajaaGreat
