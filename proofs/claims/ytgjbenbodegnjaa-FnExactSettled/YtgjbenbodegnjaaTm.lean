
/- laws.toMem by its contract. -/
import Derived.Test.YtgjbenbodegnjaaTd
namespace Go.Proofs.Ytgjbenbodegnjaa.Kit
open Go.RowKit
/-- A memory out of its parts, made one behind the other. -/
theorem MO.parts {w : World} {A B C : Nat} {u v iv bv dv pv : Value} {m : MD} {ts : List Row} (h1 : DO w (fun k => A ≤ k ∧ k < B) u v iv bv m.xs m.ys m.is m.bs) (h2 : ROwns w B 4 dv (fc m.fs)) (h2' : ∀ k, dv.ownBlock = some k → k < C) (h3 : GN KDep w (fun k => C ≤ k) pv ts m.ds) (hAB : A ≤ B) (hBC : B ≤ C) : MO w (fun k => A ≤ k) u v iv bv dv pv m :=
  ⟨_, fun k => B ≤ k ∧ k < C, _, ts, h1, h2.base_le (Nat.zero_le _), fun k hk => ⟨(h2.lt k hk).1, h2' k hk⟩, h3, fun k hk => ⟨fun e => by omega, fun e => by omega⟩, fun k hk e => by omega, fun k hk => by omega⟩
end Go.Proofs.Ytgjbenbodegnjaa.Kit
namespace Go.Proofs.Ytgjbenbodegnjaa
open Go.RowKit Kit
set_option maxRecDepth 100000 in
set_option maxHeartbeats 3200000 in
theorem toMem_any (u v iv bv dv pv : Value) (m : MD) (w : World) (h : MR w u v iv bv dv pv m) (hB : BigM 1048576 m) :
    Calls Try.prog 6 #[.agg #[u, v, iv, bv, dv, pv, .int .i64 m.nx]] w fun e w' => ∃ u' v' i' b' d' p', e = .returned (.agg #[u', v', i', b', d', p', .int .i64 m.nx]) ∧ MO w' (fun k => w.heap.size ≤ k) u' v' i' b' d' p' m ∧ Below w.heap.size w w' := by
  have H := hide h
  have HG := hide hB
  obtain ⟨a1, c1, a2, c2, a3, c3, a4, c4, a5, c5, a6, c6, rfl, rfl, rfl, rfl, rfl, rfl⟩ := h.form
  clear h hB
  go_enter Try.func6, Try.ntmps6
  go_wp2_with fail
  refine (toDisk_any _ _ _ _ m.xs m.ys m.is m.bs _ (((H.out.d.alloc _).alloc _).alloc _) HG.out.d).mono ?_
  rintro e w1 ⟨u1, v1, i1, b1, rfl, O1, B1⟩
  obtain ⟨e1, f1, e2, f2, e3, f3, e4, f4, rfl, rfl, rfl, rfl⟩ := O1.dr.form
  have BW : Below w.heap.size w w1 := ((((Below.refl _ w).alloc (Nat.le_refl _) _).alloc (by simp) _).alloc (by simp; omega) _).trans (B1.mono (by simp; omega))
  have KA : AtC w1 w.heap.size 31 #[.slice a1 m.xs.length c1, .slice a2 m.ys.length c2, .slice a3 m.is.length c3, .slice a4 m.bs.length c4, .slice a5 m.fs.length c5, .slice a6 m.ds.length c6, .int .i64 m.nx] := (((AtC.new w 31 _).alloc _).alloc _).over B1
  have KR : AtC w1 (w.heap.size + 1) 41 #[.slice none 0 0, .slice none 0 0, .slice none 0 0, .slice none 0 0, .slice none 0 0, .slice none 0 0, .int .i64 0] := by
    have := ((AtC.new (w.alloc (.cells #[.slice a1 m.xs.length c1, .slice a2 m.ys.length c2, .slice a3 m.is.length c3, .slice a4 m.bs.length c4, .slice a5 m.fs.length c5, .slice a6 m.ds.length c6, .int .i64 m.nx] 31)) 41 #[.slice none 0 0, .slice none 0 0, .slice none 0 0, .slice none 0 0, .slice none 0 0, .slice none 0 0, .int .i64 0]).alloc (.cells #[.slice none 0 0, .slice none 0 0, .slice none 0 0, .slice none 0 0, .slice none 0 0, .slice none 0 0, .int .i64 0] 41)).over B1
    simpa using this
  have KV : AtC w1 (w.heap.size + 1 + 1) 41 #[.slice none 0 0, .slice none 0 0, .slice none 0 0, .slice none 0 0, .slice none 0 0, .slice none 0 0, .int .i64 0] := by
    have := (AtC.new ((w.alloc (.cells #[.slice a1 m.xs.length c1, .slice a2 m.ys.length c2, .slice a3 m.is.length c3, .slice a4 m.bs.length c4, .slice a5 m.fs.length c5, .slice a6 m.ds.length c6, .int .i64 m.nx] 31)).alloc (.cells #[.slice none 0 0, .slice none 0 0, .slice none 0 0, .slice none 0 0, .slice none 0 0, .slice none 0 0, .int .i64 0] 41)) 41 #[.slice none 0 0, .slice none 0 0, .slice none 0 0, .slice none 0 0, .slice none 0 0, .slice none 0 0, .int .i64 0]).over B1
    simpa using this
  have hs1 : w.heap.size + 1 + 1 + 1 ≤ w1.heap.size := by have := B1.size; simpa using this
  have D1 : DO w1 (fun k => w.heap.size + 1 + 1 + 1 ≤ k ∧ k < w1.heap.size) (.slice e1 m.xs.length f1) (.slice e2 m.ys.length f2) (.slice e3 m.is.length f3) (.slice e4 m.bs.length f4) m.xs m.ys m.is m.bs := O1.bound.mono fun k hk => ⟨by have := hk.1; simpa using this, hk.2⟩
  have y0 : w1.cell? ⟨w.heap.size + 1 + 1, 0, none⟩ = some (.slice none 0 0) := KV.cell 0
  have y1 : w1.cell? ⟨w.heap.size + 1 + 1, 1, none⟩ = some (.slice none 0 0) := KV.cell 1
  have y2 : w1.cell? ⟨w.heap.size + 1 + 1, 2, none⟩ = some (.slice none 0 0) := KV.cell 2
  have y3 : w1.cell? ⟨w.heap.size + 1 + 1, 3, none⟩ = some (.slice none 0 0) := KV.cell 3
  have x4 : w1.cell? ⟨w.heap.size, 4, none⟩ = some (.slice a5 m.fs.length c5) := KA.cell 4
  have g0 := KV.frozen 0
  have g1 := KV.frozen 1
  have g2 := KV.frozen 2
  have g3 := KV.frozen 3
  have D1' : DO ((((w1.setCell ⟨w.heap.size + 1 + 1, 0, none⟩ (.slice e1 m.xs.length f1)).setCell ⟨w.heap.size + 1 + 1, 1, none⟩ (.slice e2 m.ys.length f2)).setCell ⟨w.heap.size + 1 + 1, 2, none⟩ (.slice e3 m.is.length f3)).setCell ⟨w.heap.size + 1 + 1, 3, none⟩ (.slice e4 m.bs.length f4)) (fun k => w.heap.size + 1 + 1 + 1 ≤ k ∧ k < w1.heap.size) (.slice e1 m.xs.length f1) (.slice e2 m.ys.length f2) (.slice e3 m.is.length f3) (.slice e4 m.bs.length f4) m.xs m.ys m.is m.bs := D1.of_heap fun k hk _ => (((heap_setCell_other _ ⟨w.heap.size + 1 + 1, 3, none⟩ k _ (by show k ≠ w.heap.size + 1 + 1; omega)).trans (heap_setCell_other _ ⟨w.heap.size + 1 + 1, 2, none⟩ k _ (by show k ≠ w.heap.size + 1 + 1; omega))).trans (heap_setCell_other _ ⟨w.heap.size + 1 + 1, 1, none⟩ k _ (by show k ≠ w.heap.size + 1 + 1; omega))).trans (heap_setCell_other _ ⟨w.heap.size + 1 + 1, 0, none⟩ k _ (by show k ≠ w.heap.size + 1 + 1; omega))
  have BW' : Below w.heap.size w ((((w1.setCell ⟨w.heap.size + 1 + 1, 0, none⟩ (.slice e1 m.xs.length f1)).setCell ⟨w.heap.size + 1 + 1, 1, none⟩ (.slice e2 m.ys.length f2)).setCell ⟨w.heap.size + 1 + 1, 2, none⟩ (.slice e3 m.is.length f3)).setCell ⟨w.heap.size + 1 + 1, 3, none⟩ (.slice e4 m.bs.length f4)) := (((BW.setCell (by simp; omega) _).setCell (by simp; omega) _).setCell (by simp; omega) _).setCell (by simp; omega) _
  have KV' : AtC ((((w1.setCell ⟨w.heap.size + 1 + 1, 0, none⟩ (.slice e1 m.xs.length f1)).setCell ⟨w.heap.size + 1 + 1, 1, none⟩ (.slice e2 m.ys.length f2)).setCell ⟨w.heap.size + 1 + 1, 2, none⟩ (.slice e3 m.is.length f3)).setCell ⟨w.heap.size + 1 + 1, 3, none⟩ (.slice e4 m.bs.length f4)) (w.heap.size + 1 + 1) 41 #[.slice e1 m.xs.length f1, .slice e2 m.ys.length f2, .slice e3 m.is.length f3, .slice e4 m.bs.length f4, .slice none 0 0, .slice none 0 0, .int .i64 0] := (((KV.set 0 _).set 1 _).set 2 _).set 3 _
  have KA' : AtC ((((w1.setCell ⟨w.heap.size + 1 + 1, 0, none⟩ (.slice e1 m.xs.length f1)).setCell ⟨w.heap.size + 1 + 1, 1, none⟩ (.slice e2 m.ys.length f2)).setCell ⟨w.heap.size + 1 + 1, 2, none⟩ (.slice e3 m.is.length f3)).setCell ⟨w.heap.size + 1 + 1, 3, none⟩ (.slice e4 m.bs.length f4)) w.heap.size 31 #[.slice a1 m.xs.length c1, .slice a2 m.ys.length c2, .slice a3 m.is.length c3, .slice a4 m.bs.length c4, .slice a5 m.fs.length c5, .slice a6 m.ds.length c6, .int .i64 m.nx] := (((KA.other (by omega) _).other (by omega) _).other (by omega) _).other (by omega) _
  have KR' : AtC ((((w1.setCell ⟨w.heap.size + 1 + 1, 0, none⟩ (.slice e1 m.xs.length f1)).setCell ⟨w.heap.size + 1 + 1, 1, none⟩ (.slice e2 m.ys.length f2)).setCell ⟨w.heap.size + 1 + 1, 2, none⟩ (.slice e3 m.is.length f3)).setCell ⟨w.heap.size + 1 + 1, 3, none⟩ (.slice e4 m.bs.length f4)) (w.heap.size + 1) 41 #[.slice none 0 0, .slice none 0 0, .slice none 0 0, .slice none 0 0, .slice none 0 0, .slice none 0 0, .int .i64 0] := (((KR.other (by omega) _).other (by omega) _).other (by omega) _).other (by omega) _
  have sz1 : ((((w1.setCell ⟨w.heap.size + 1 + 1, 0, none⟩ (.slice e1 m.xs.length f1)).setCell ⟨w.heap.size + 1 + 1, 1, none⟩ (.slice e2 m.ys.length f2)).setCell ⟨w.heap.size + 1 + 1, 2, none⟩ (.slice e3 m.is.length f3)).setCell ⟨w.heap.size + 1 + 1, 3, none⟩ (.slice e4 m.bs.length f4)).heap.size = w1.heap.size := by simp
  obtain ⟨W1, hW1⟩ : ∃ W1, ((((w1.setCell ⟨w.heap.size + 1 + 1, 0, none⟩ (.slice e1 m.xs.length f1)).setCell ⟨w.heap.size + 1 + 1, 1, none⟩ (.slice e2 m.ys.length f2)).setCell ⟨w.heap.size + 1 + 1, 2, none⟩ (.slice e3 m.is.length f3)).setCell ⟨w.heap.size + 1 + 1, 3, none⟩ (.slice e4 m.bs.length f4)) = W1 := ⟨_, rfl⟩
  rw [hW1] at D1' BW' KV' KA' KR' sz1
  have x4b : W1.cell? ⟨w.heap.size, 4, none⟩ = some (.slice a5 m.fs.length c5) := KA'.cell 4
  have HX := hide (And.intro D1' (And.intro BW' (And.intro KV' (And.intro KA' KR'))))
  clear O1 B1 BW KA KR KV D1 D1' BW' KV' KA' KR' x4
  go_wp2_with fail
  refine (toB_anyB _ m.fs _ (H.out.f.below HX.out.2.1 (Nat.le_refl _)) HG.out.f).mono ?_
  rintro e w2 ⟨u2, rfl, O2, B2⟩
  obtain ⟨e5, f5, rfl⟩ := O2.rfl.form
  have BW : Below w.heap.size w w2 := HX.out.2.1.trans (B2.mono HX.out.2.1.size)
  have KV := HX.out.2.2.1.over B2
  have KA := HX.out.2.2.2.1.over B2
  have KR := HX.out.2.2.2.2.over B2
  have D2 := HX.out.1.below B2 (Nat.le_refl _)
  have hs2 : w1.heap.size ≤ w2.heap.size := by have := B2.size; omega
  have y4 : w2.cell? ⟨w.heap.size + 1 + 1, 4, none⟩ = some (.slice none 0 0) := KV.cell 4
  have g4 := KV.frozen 4
  have D2' : DO (w2.setCell ⟨w.heap.size + 1 + 1, 4, none⟩ (.slice e5 m.fs.length f5)) (fun k => w.heap.size + 1 + 1 + 1 ≤ k ∧ k < w1.heap.size) (.slice e1 m.xs.length f1) (.slice e2 m.ys.length f2) (.slice e3 m.is.length f3) (.slice e4 m.bs.length f4) m.xs m.ys m.is m.bs := D2.of_heap fun k hk _ => heap_setCell_other _ ⟨w.heap.size + 1 + 1, 4, none⟩ k _ (by show k ≠ w.heap.size + 1 + 1; omega)
  have BW' : Below w.heap.size w (w2.setCell ⟨w.heap.size + 1 + 1, 4, none⟩ (.slice e5 m.fs.length f5)) := BW.setCell (by simp; omega) _
  have KV' : AtC (w2.setCell ⟨w.heap.size + 1 + 1, 4, none⟩ (.slice e5 m.fs.length f5)) (w.heap.size + 1 + 1) 41 #[.slice e1 m.xs.length f1, .slice e2 m.ys.length f2, .slice e3 m.is.length f3, .slice e4 m.bs.length f4, .slice e5 m.fs.length f5, .slice none 0 0, .int .i64 0] := KV.set 4 _
  have KA' : AtC (w2.setCell ⟨w.heap.size + 1 + 1, 4, none⟩ (.slice e5 m.fs.length f5)) w.heap.size 31 #[.slice a1 m.xs.length c1, .slice a2 m.ys.length c2, .slice a3 m.is.length c3, .slice a4 m.bs.length c4, .slice a5 m.fs.length c5, .slice a6 m.ds.length c6, .int .i64 m.nx] := KA.other (by omega) _
  have KR' : AtC (w2.setCell ⟨w.heap.size + 1 + 1, 4, none⟩ (.slice e5 m.fs.length f5)) (w.heap.size + 1) 41 #[.slice none 0 0, .slice none 0 0, .slice none 0 0, .slice none 0 0, .slice none 0 0, .slice none 0 0, .int .i64 0] := KR.other (by omega) _
  have O2' : ROwns (w2.setCell ⟨w.heap.size + 1 + 1, 4, none⟩ (.slice e5 m.fs.length f5)) w1.heap.size 4 (.slice e5 m.fs.length f5) (fc m.fs) := (O2.base_le (by omega)).setCell_other (by omega) _
  have L2 : ∀ k, (Value.slice e5 m.fs.length f5).ownBlock = some k → k < w2.heap.size := fun k hk => (O2.lt k hk).2
  have sz2 : (w2.setCell ⟨w.heap.size + 1 + 1, 4, none⟩ (.slice e5 m.fs.length f5)).heap.size = w2.heap.size := by simp
  obtain ⟨W2, hW2⟩ : ∃ W2, (w2.setCell ⟨w.heap.size + 1 + 1, 4, none⟩ (.slice e5 m.fs.length f5)) = W2 := ⟨_, rfl⟩
  rw [hW2] at D2' BW' KV' KA' KR' O2' sz2
  have x5 : W2.cell? ⟨w.heap.size, 5, none⟩ = some (.slice a6 m.ds.length c6) := KA'.cell 5
  have HY := hide (And.intro D2' (And.intro BW' (And.intro KV' (And.intro KA' (And.intro KR' (And.intro O2' L2))))))
  clear O2 B2 BW KA KR KV D2 D2' BW' KV' KA' KR' O2' L2 x4b hW1 HX sz1
  go_wp2_with fail
  refine (toDepS_any _ m.ds _ (H.out.p.below HY.out.2.1 (Nat.le_refl _)) HG.out.l HG.out.b).mono ?_
  rintro e w3 ⟨u3, ts, rfl, O3, B3⟩
  obtain ⟨e6, f6, rfl⟩ := O3.form
  have BW : Below w.heap.size w w3 := HY.out.2.1.trans (B3.mono HY.out.2.1.size)
  have KV := HY.out.2.2.1.over B3
  have KA := HY.out.2.2.2.1.over B3
  have KR := HY.out.2.2.2.2.1.over B3
  have hs3 : w2.heap.size ≤ w3.heap.size := by have := B3.size; omega
  have M3 : MO w3 (fun k => w.heap.size + 1 + 1 + 1 ≤ k) (.slice e1 m.xs.length f1) (.slice e2 m.ys.length f2) (.slice e3 m.is.length f3) (.slice e4 m.bs.length f4) (.slice e5 m.fs.length f5) (.slice e6 m.ds.length f6) m := MO.parts (A := w.heap.size + 1 + 1 + 1) (B := w1.heap.size) (C := w2.heap.size) (HY.out.1.below B3 (Nat.le_refl _)) (HY.out.2.2.2.2.2.1.below B3 (Nat.le_refl _)) HY.out.2.2.2.2.2.2 (O3.mono fun k hk => by omega) hs1 hs2
  have y5 : w3.cell? ⟨w.heap.size + 1 + 1, 5, none⟩ = some (.slice none 0 0) := KV.cell 5
  have g5 := KV.frozen 5
  have M3' : MO (w3.setCell ⟨w.heap.size + 1 + 1, 5, none⟩ (.slice e6 m.ds.length f6)) (fun k => w.heap.size + 1 + 1 + 1 ≤ k) (.slice e1 m.xs.length f1) (.slice e2 m.ys.length f2) (.slice e3 m.is.length f3) (.slice e4 m.bs.length f4) (.slice e5 m.fs.length f5) (.slice e6 m.ds.length f6) m := M3.of_heap fun k hk _ => heap_setCell_other _ ⟨w.heap.size + 1 + 1, 5, none⟩ k _ (by show k ≠ w.heap.size + 1 + 1; omega)
  have BW' : Below w.heap.size w (w3.setCell ⟨w.heap.size + 1 + 1, 5, none⟩ (.slice e6 m.ds.length f6)) := BW.setCell (by simp; omega) _
  have KV' : AtC (w3.setCell ⟨w.heap.size + 1 + 1, 5, none⟩ (.slice e6 m.ds.length f6)) (w.heap.size + 1 + 1) 41 #[.slice e1 m.xs.length f1, .slice e2 m.ys.length f2, .slice e3 m.is.length f3, .slice e4 m.bs.length f4, .slice e5 m.fs.length f5, .slice e6 m.ds.length f6, .int .i64 0] := KV.set 5 _
  have KA' : AtC (w3.setCell ⟨w.heap.size + 1 + 1, 5, none⟩ (.slice e6 m.ds.length f6)) w.heap.size 31 #[.slice a1 m.xs.length c1, .slice a2 m.ys.length c2, .slice a3 m.is.length c3, .slice a4 m.bs.length c4, .slice a5 m.fs.length c5, .slice a6 m.ds.length c6, .int .i64 m.nx] := KA.other (by omega) _
  have KR' : AtC (w3.setCell ⟨w.heap.size + 1 + 1, 5, none⟩ (.slice e6 m.ds.length f6)) (w.heap.size + 1) 41 #[.slice none 0 0, .slice none 0 0, .slice none 0 0, .slice none 0 0, .slice none 0 0, .slice none 0 0, .int .i64 0] := KR.other (by omega) _
  obtain ⟨W3, hW3⟩ : ∃ W3, (w3.setCell ⟨w.heap.size + 1 + 1, 5, none⟩ (.slice e6 m.ds.length f6)) = W3 := ⟨_, rfl⟩
  rw [hW3] at M3' BW' KV' KA' KR'
  have x6 : W3.cell? ⟨w.heap.size, 6, none⟩ = some (.int .i64 m.nx) := KA'.cell 6
  have s0 : W3.cell? ⟨w.heap.size + 1 + 1, 0, none⟩ = some (.slice e1 m.xs.length f1) := KV'.cell 0
  have s1 : W3.cell? ⟨w.heap.size + 1 + 1, 1, none⟩ = some (.slice e2 m.ys.length f2) := KV'.cell 1
  have s2 : W3.cell? ⟨w.heap.size + 1 + 1, 2, none⟩ = some (.slice e3 m.is.length f3) := KV'.cell 2
  have s3 : W3.cell? ⟨w.heap.size + 1 + 1, 3, none⟩ = some (.slice e4 m.bs.length f4) := KV'.cell 3
  have s4 : W3.cell? ⟨w.heap.size + 1 + 1, 4, none⟩ = some (.slice e5 m.fs.length f5) := KV'.cell 4
  have s5 : W3.cell? ⟨w.heap.size + 1 + 1, 5, none⟩ = some (.slice e6 m.ds.length f6) := KV'.cell 5
  have s6 : W3.cell? ⟨w.heap.size + 1 + 1, 6, none⟩ = some (.int .i64 0) := KV'.cell 6
  have r0 : W3.cell? ⟨w.heap.size + 1, 0, none⟩ = some (.slice none 0 0) := KR'.cell 0
  have r1 : W3.cell? ⟨w.heap.size + 1, 1, none⟩ = some (.slice none 0 0) := KR'.cell 1
  have r2 : W3.cell? ⟨w.heap.size + 1, 2, none⟩ = some (.slice none 0 0) := KR'.cell 2
  have r3 : W3.cell? ⟨w.heap.size + 1, 3, none⟩ = some (.slice none 0 0) := KR'.cell 3
  have r4 : W3.cell? ⟨w.heap.size + 1, 4, none⟩ = some (.slice none 0 0) := KR'.cell 4
  have r5 : W3.cell? ⟨w.heap.size + 1, 5, none⟩ = some (.slice none 0 0) := KR'.cell 5
  have r6 : W3.cell? ⟨w.heap.size + 1, 6, none⟩ = some (.int .i64 0) := KR'.cell 6
  have g6 := KV'.frozen 6
  have z0 := KR'.frozen 0
  have z1 := KR'.frozen 1
  have z2 := KR'.frozen 2
  have z3 := KR'.frozen 3
  have z4 := KR'.frozen 4
  have z5 := KR'.frozen 5
  have z6 := KR'.frozen 6
  have HZ := hide (And.intro M3' BW')
  clear O3 B3 BW KA KR KV M3 M3' BW' KV' KA' KR' x5 hW2 HY sz2
  go_wp2
  refine bodyPost_ret (v := .agg #[.slice e1 m.xs.length f1, .slice e2 m.ys.length f2, .slice e3 m.is.length f3, .slice e4 m.bs.length f4, .slice e5 m.fs.length f5, .slice e6 m.ds.length f6, .int .i64 m.nx]) (by simp [results, go_sem, r0, r1, r2, r3, r4, r5, r6]) rfl ⟨_, _, _, _, _, _, rfl, ?_, ?_⟩
  · exact (HZ.out.1.of_heap fun k hk _ => (((((((heap_setCell_other _ ⟨w.heap.size + 1, 6, none⟩ k _ (by show k ≠ w.heap.size + 1; omega)).trans (heap_setCell_other _ ⟨w.heap.size + 1, 5, none⟩ k _ (by show k ≠ w.heap.size + 1; omega))).trans (heap_setCell_other _ ⟨w.heap.size + 1, 4, none⟩ k _ (by show k ≠ w.heap.size + 1; omega))).trans (heap_setCell_other _ ⟨w.heap.size + 1, 3, none⟩ k _ (by show k ≠ w.heap.size + 1; omega))).trans (heap_setCell_other _ ⟨w.heap.size + 1, 2, none⟩ k _ (by show k ≠ w.heap.size + 1; omega))).trans (heap_setCell_other _ ⟨w.heap.size + 1, 1, none⟩ k _ (by show k ≠ w.heap.size + 1; omega))).trans (heap_setCell_other _ ⟨w.heap.size + 1, 0, none⟩ k _ (by show k ≠ w.heap.size + 1; omega))).trans (heap_setCell_other _ ⟨w.heap.size + 1 + 1, 6, none⟩ k _ (by show k ≠ w.heap.size + 1 + 1; omega))).mono fun k hk => by omega
  · exact (((((((HZ.out.2.setCell (by simp; omega) _).setCell (by simp) _).setCell (by simp) _).setCell (by simp) _).setCell (by simp) _).setCell (by simp) _).setCell (by simp) _).setCell (by simp) _
end Go.Proofs.Ytgjbenbodegnjaa
