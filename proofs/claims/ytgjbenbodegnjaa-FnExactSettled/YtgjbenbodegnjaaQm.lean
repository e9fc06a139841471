
/- laws.eqMem of the same parts, by its contract. -/
import Derived.Test.YtgjbenbodegnjaaQd
namespace Go.Proofs.Ytgjbenbodegnjaa
open Go.RowKit Kit
set_option maxRecDepth 100000 in
set_option maxHeartbeats 1600000 in
theorem eqMem_same (u v iv bv dv pv u' v' i' b' d' p' : Value) (m : MD) (w : World) (h : MR w u v iv bv dv pv m) (h' : MR w u' v' i' b' d' p' m) (hB : BigM 1048576 m) :
    Calls Try.prog 8 #[.agg #[u, v, iv, bv, dv, pv, .int .i64 m.nx], .agg #[u', v', i', b', d', p', .int .i64 m.nx]] w fun e w' => e = .returned (.bool true) ∧ Below w.heap.size w w' := by
  have H := hide h
  have H' := hide h'
  have HG := hide hB
  obtain ⟨a1, c1, a2, c2, a3, c3, a4, c4, a5, c5, a6, c6, rfl, rfl, rfl, rfl, rfl, rfl⟩ := h.form
  obtain ⟨d1, k1, d2, k2, d3, k3, d4, k4, d5, k5, d6, k6, rfl, rfl, rfl, rfl, rfl, rfl⟩ := h'.form
  clear h hB h'
  go_enter Try.func8, Try.ntmps8
  go_wp2_with fail
  refine (eqDisk_same _ _ _ _ _ _ _ _ m.xs m.ys m.is m.bs _ ((H.out.d.alloc _).alloc _) ((H'.out.d.alloc _).alloc _) HG.out.d).mono ?_
  rintro e w1 ⟨rfl, B1⟩
  have BW : Below w.heap.size w w1 := (((Below.refl _ w).alloc (Nat.le_refl _) _).alloc (by simp) _).trans (B1.mono (by simp; omega))
  have K0 : AtC w1 w.heap.size 41 #[.slice a1 m.xs.length c1, .slice a2 m.ys.length c2, .slice a3 m.is.length c3, .slice a4 m.bs.length c4, .slice a5 m.fs.length c5, .slice a6 m.ds.length c6, .int .i64 m.nx] := ((AtC.new w 41 _).alloc _).over B1
  have K1 : AtC w1 (w.heap.size + 1) 41 #[.slice d1 m.xs.length k1, .slice d2 m.ys.length k2, .slice d3 m.is.length k3, .slice d4 m.bs.length k4, .slice d5 m.fs.length k5, .slice d6 m.ds.length k6, .int .i64 m.nx] := by
    have := (AtC.new (w.alloc (Obj.cells #[.slice a1 m.xs.length c1, .slice a2 m.ys.length c2, .slice a3 m.is.length c3, .slice a4 m.bs.length c4, .slice a5 m.fs.length c5, .slice a6 m.ds.length c6, .int .i64 m.nx] 41)) 41 #[.slice d1 m.xs.length k1, .slice d2 m.ys.length k2, .slice d3 m.is.length k3, .slice d4 m.bs.length k4, .slice d5 m.fs.length k5, .slice d6 m.ds.length k6, .int .i64 m.nx]).over B1
    simpa using this
  have p2 : w1.cell? ⟨w.heap.size, 4, none⟩ = some (.slice a5 m.fs.length c5) := K0.cell 4
  have q2 : w1.cell? ⟨w.heap.size + 1, 4, none⟩ = some (.slice d5 m.fs.length k5) := K1.cell 4
  have HBW := hide BW
  have HK0 := hide K0
  have HK1 := hide K1
  clear B1 BW K0 K1
  go_wp2_with fail
  refine (eqB_sameB _ _ m.fs _ (H.out.f.below HBW.out (Nat.le_refl _)) (H'.out.f.below HBW.out (Nat.le_refl _)) (Nat.le_trans HG.out.f (by decide))).mono ?_
  rintro e w2 ⟨rfl, B2⟩
  have BW2 := HBW.out.trans (B2.mono HBW.out.size)
  have K0 := HK0.out.over B2
  have K1 := HK1.out.over B2
  have p3 : w2.cell? ⟨w.heap.size, 5, none⟩ = some (.slice a6 m.ds.length c6) := K0.cell 5
  have q3 : w2.cell? ⟨w.heap.size + 1, 5, none⟩ = some (.slice d6 m.ds.length k6) := K1.cell 5
  have HBW2 := hide BW2
  have HL0 := hide K0
  have HL1 := hide K1
  clear B2 BW2 K0 K1 HBW HK0 HK1
  go_wp2_with fail
  refine (eqDepS_same _ _ m.ds _ (H.out.p.below HBW2.out (Nat.le_refl _)) (H'.out.p.below HBW2.out (Nat.le_refl _)) HG.out.l HG.out.b).mono ?_
  rintro e w3 ⟨rfl, B3⟩
  have K0 := HL0.out.over B3
  have K1 := HL1.out.over B3
  have p4 : w3.cell? ⟨w.heap.size, 6, none⟩ = some (.int .i64 m.nx) := K0.cell 6
  have q4 : w3.cell? ⟨w.heap.size + 1, 6, none⟩ = some (.int .i64 m.nx) := K1.cell 6
  have HBW3 := hide (HBW2.out.trans (B3.mono HBW2.out.size))
  clear B3 K0 K1 p2 q2 p3 q3
  go_wp2
  go_ret
  exact ⟨rfl, HBW3.out⟩
end Go.Proofs.Ytgjbenbodegnjaa
