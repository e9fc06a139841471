/- laws.eqEventS, markEventS, heldEventS by their contracts. -/
import Derived.Test.YthfiaihbpnlbjaaDoorNv
import Derived.Deep.DeepCutAuto
namespace Go.Proofs.YthfiaihbpnlbjaaDoor
open Go.RowKit Kit
set_option maxRecDepth 100000 in
set_option maxHeartbeats 1600000 in
theorem eqEventS_same (va vb : Value) (l : List Evt) (w : World) (ha : REv w va l) (hb : REv w vb l) (hl : l.length ≤ 1000000000) :
    Calls Tryd.prog 6 #[va, vb] w fun e w' => e = .returned (.bool true) ∧ Below w.heap.size w w' := by
  obtain ⟨a1, c1, rfl, ha⟩ := ha
  obtain ⟨a2, c2, rfl, hb⟩ := hb
  have HA := hide ha
  have HB := hide hb
  clear ha hb
  go_enter Tryd.func6, Tryd.ntmps6
  go_wp2
  go_loopw [5] (fun i wr => ∃ j : Nat, j ≤ l.length ∧ i = .int .i64 j ∧ Below w.heap.size w wr) (fun i _ => l.length - (intOf i).toNat)
  case atStart => exact ⟨0, Nat.zero_le _, rfl, Below.refl _ _⟩
  case round =>
    obtain ⟨j, hj, rfl, hb⟩ := hrel
    have hsz := hb.size
    by_cases hlt : j < l.length
    · obtain ⟨g1, o1, rfl, hg1, m0, m1, m2, m3, m4⟩ := HA.out j hlt
      obtain ⟨g2, o2, rfl, hg2, n0, n1, n2, n3, n4⟩ := HB.out j hlt
      obtain ⟨⟨x0, x1, x2, x3, x4⟩, hx⟩ : ∃ x, l[j] = x := ⟨_, rfl⟩
      rw [hx] at m0 m1 m2 m3 m4 n0 n1 n2 n3 n4
      have HK : Hid (∀ w1, Below w.heap.size w w1 → w1.cell? ⟨g1, o1 + j * 5, none⟩ = some (.int .i64 x0) ∧ w1.cell? ⟨g1, o1 + j * 5 + 1, none⟩ = some (.string x1) ∧ w1.cell? ⟨g1, o1 + j * 5 + 2, none⟩ = some (.string x2) ∧ w1.cell? ⟨g1, o1 + j * 5 + 3, none⟩ = some (.int .i64 x3) ∧ w1.cell? ⟨g1, o1 + j * 5 + 4, none⟩ = some (.string x4) ∧ w1.cell? ⟨g2, o2 + j * 5, none⟩ = some (.int .i64 x0) ∧ w1.cell? ⟨g2, o2 + j * 5 + 1, none⟩ = some (.string x1) ∧ w1.cell? ⟨g2, o2 + j * 5 + 2, none⟩ = some (.string x2) ∧ w1.cell? ⟨g2, o2 + j * 5 + 3, none⟩ = some (.int .i64 x3) ∧ w1.cell? ⟨g2, o2 + j * 5 + 4, none⟩ = some (.string x4)) := fun w1 b =>
        ⟨(b.cell (p := ⟨g1, o1 + j * 5, none⟩) hg1).trans m0, (b.cell (p := ⟨g1, o1 + j * 5 + 1, none⟩) hg1).trans m1, (b.cell (p := ⟨g1, o1 + j * 5 + 2, none⟩) hg1).trans m2, (b.cell (p := ⟨g1, o1 + j * 5 + 3, none⟩) hg1).trans m3, (b.cell (p := ⟨g1, o1 + j * 5 + 4, none⟩) hg1).trans m4, (b.cell (p := ⟨g2, o2 + j * 5, none⟩) hg2).trans n0, (b.cell (p := ⟨g2, o2 + j * 5 + 1, none⟩) hg2).trans n1, (b.cell (p := ⟨g2, o2 + j * 5 + 2, none⟩) hg2).trans n2, (b.cell (p := ⟨g2, o2 + j * 5 + 3, none⟩) hg2).trans n3, (b.cell (p := ⟨g2, o2 + j * 5 + 4, none⟩) hg2).trans n4⟩
      obtain ⟨k0, k1, k2, k3, k4, p0, p1, p2, p3, p4⟩ := HK.out wr hb
      have BB := hb.drew
      have j0 : (0 : Int) ≤ (j : Int) := by omega
      have j1 : (j : Int) < (l.length : Int) := by omega
      clear m0 m1 m2 m3 m4 n0 n1 n2 n3 n4 hx hb
      go_wp2
      go_region_held3 (fun w' => w'.cell? ⟨g1, o1 + j * 5, none⟩ = some (.int .i64 x0) ∧ w'.cell? ⟨g1, o1 + j * 5 + 1, none⟩ = some (.string x1) ∧ w'.cell? ⟨g1, o1 + j * 5 + 2, none⟩ = some (.string x2) ∧ w'.cell? ⟨g1, o1 + j * 5 + 3, none⟩ = some (.int .i64 x3) ∧ w'.cell? ⟨g1, o1 + j * 5 + 4, none⟩ = some (.string x4) ∧ w'.cell? ⟨g2, o2 + j * 5, none⟩ = some (.int .i64 x0) ∧ w'.cell? ⟨g2, o2 + j * 5 + 1, none⟩ = some (.string x1) ∧ w'.cell? ⟨g2, o2 + j * 5 + 2, none⟩ = some (.string x2) ∧ w'.cell? ⟨g2, o2 + j * 5 + 3, none⟩ = some (.int .i64 x3) ∧ w'.cell? ⟨g2, o2 + j * 5 + 4, none⟩ = some (.string x4)) (exact HK.out _ BB) ((go_at_call 18; refine (eqEvent_same x0 x1 x2 x3 x4 _).mono ?_; rintro e w3 ⟨rfl, B3⟩; replace BB := BB.trans (B3.mono BB.size)))
      have HBB := hide BB
      clear BB B3 k0 k1 k2 k3 k4 p0 p1 p2 p3 p4
      go_wp2
      go_roundw
      case rel => exact ⟨j + 1, by omega, by go_num, HBB.out⟩
      case measure => simp [intOf]; omega
    · go_wp2
      go_ret
      exact ⟨rfl, hb⟩
/-- The marks of one event, from k on. -/
def mkEv (k : Nat) : Evt := ((k : Int), mkT (k + 1), mkT (k + 2), ((k + 3 : Nat) : Int), mkT (k + 4))
/-- The marks of n events. -/
def mksN (k n : Nat) : List Evt := (List.range n).map fun j => mkEv (k + 5 * j)
theorem mksN_length (k n : Nat) : (mksN k n).length = n := by simp [mksN]
def mkdN (k j : Nat) (l : List Evt) : List Evt := mksN k j ++ l.drop j
theorem mkdN_length (k j : Nat) (l : List Evt) (h : j ≤ l.length) : (mkdN k j l).length = l.length := by simp [mkdN, mksN_length]; omega
theorem mkdN_set (k j : Nat) (l : List Evt) (h : j < l.length) : (mkdN k j l).set j (mkEv (k + 5 * j)) = mkdN k (j + 1) l := by
  unfold mkdN
  rw [List.set_append_right _ _ (by rw [mksN_length]; omega), mksN_length, Nat.sub_self, List.drop_eq_getElem_cons h, List.set_cons_zero]
  simp [mksN, List.range_succ]
theorem mkdN_all (k : Nat) (l : List Evt) : mkdN k l.length l = mksN k l.length := by simp [mkdN]
/-- The row at j holds these five. -/
structure RwF (w wr : World) (B g cap n j : Nat) (l : List Evt) (x : Evt) : Prop where
  o : EvO wr B (.slice (some ⟨g, 0, none⟩) n cap) (l.set j x)
  l : l.length = n
  hj : j < n
  g : w.grownBy wr (some g)
theorem RwF.cells {w wr : World} {B g cap n j : Nat} {l : List Evt} {x : Evt} (h : RwF w wr B g cap n j l x) : (∀ k, wr.frozen? ⟨g, k, none⟩ = false) ∧ g < wr.heap.size := by
  obtain ⟨g', cap', e, -, -, -, -, -, hf, hg, -⟩ := h.o.at_ j (by rw [List.length_set, h.l]; exact h.hj)
  simp only [Value.slice.injEq, Option.some.injEq, Addr.mk.injEq, and_true] at e
  obtain ⟨rfl, -⟩ := e
  exact ⟨hf, hg⟩
theorem RwF.below {w wr wr' : World} {B g cap n j : Nat} {l : List Evt} {x : Evt} (h : RwF w wr B g cap n j l x) (hb : Below wr.heap.size wr wr') : RwF w wr' B g cap n j l x := ⟨h.o.below hb, h.l, h.hj, grownBy_trans h.g (grownBy_below hb _)⟩
theorem RwF.put {w wr : World} {B g cap n j : Nat} {l : List Evt} {x : Evt} (h : RwF w wr B g cap n j l x) (i : Nat) (u : Value) (y : Evt) (hy : (evRow x).set i u = evRow y) (hi : i < 5) : RwF w (wr.setCell ⟨g, j * 5 + i, none⟩ u) B g cap n j l y := by
  have hl : ((l.set j x).map evRow).length = n := by rw [List.length_map, List.length_set, h.l]
  have o := h.o.1
  rw [← hl] at o
  have h2 := o.set j i (by rw [hl]; exact h.hj) hi u
  simp only [List.getElem_map, List.getElem_set_self] at h2
  rw [hy, hl, List.map_set, List.set_set, ← List.map_set] at h2
  exact ⟨⟨h2, h.o.2⟩, h.l, h.hj, grownBy_trans h.g ⟨rfl, rfl, rfl, by simp, fun k hk hne => heap_setCell_other wr ⟨g, j * 5 + i, none⟩ k u (fun e => hne (by rw [show k = g from e]))⟩⟩
theorem RwF.cell0 {w wr : World} {B g cap n j : Nat} {l : List Evt} {x : Evt} (h : RwF w wr B g cap n j l x) : wr.cell? ⟨g, j * 5, none⟩ = some (.int .i64 x.1) ∧ wr.cell? ⟨g, j * 5 + 1, none⟩ = some (.string x.2.1) ∧ wr.cell? ⟨g, j * 5 + 2, none⟩ = some (.string x.2.2.1) ∧ wr.cell? ⟨g, j * 5 + 3, none⟩ = some (.int .i64 x.2.2.2.1) ∧ wr.cell? ⟨g, j * 5 + 4, none⟩ = some (.string x.2.2.2.2) := by
  obtain ⟨g', cap', e, h0, h1, h2, h3, h4, -⟩ := h.o.at_ j (by rw [List.length_set, h.l]; exact h.hj)
  simp only [Value.slice.injEq, Option.some.injEq, Addr.mk.injEq, and_true] at e
  obtain ⟨rfl, -⟩ := e
  rw [List.getElem_set_self] at h0 h1 h2 h3 h4
  exact ⟨h0, h1, h2, h3, h4⟩
set_option maxRecDepth 100000 in
set_option maxHeartbeats 3200000 in
theorem markEventS_any (v : Value) (l : List Evt) (B k : Nat) (w : World) (h : EvO w B v l) (hk : 1 ≤ k) (hk1 : k ≤ 1000) (hl : l.length ≤ 1000000) :
    Calls Tryd.prog 7 #[v, .int .i64 k] w fun e w' => e = .returned (.int .i64 (k + 5 * l.length : Nat)) ∧ EvO w' B v (mksN k l.length) ∧ w.grownBy w' v.ownBlock := by
  obtain ⟨a1, c1, rfl⟩ := h.form
  have HA := hide h
  clear h
  go_enter Tryd.func7, Tryd.ntmps7
  go_wp2
  go_loopw [1, 5] (fun x i wr => ∃ j : Nat, j ≤ l.length ∧ i = .int .i64 j ∧ x = .int .i64 (k + 5 * j : Nat) ∧ Hid (EvO wr B (.slice a1 l.length c1) (mkdN k j l) ∧ w.grownBy wr (Value.slice a1 l.length c1).ownBlock)) (fun _ i _ => l.length - (intOf i).toNat)
  case atStart => exact ⟨0, Nat.zero_le _, rfl, rfl, by rw [mkdN]; simpa [mksN] using HA.out, grownBy_below (Below.refl _ _) _⟩
  case round =>
    obtain ⟨j, hj, rfl, rfl, HS⟩ := hrel
    have j0 : (0 : Int) ≤ (j : Int) := by omega
    by_cases hlt : j < l.length
    · have j1 : (j : Int) < (l.length : Int) := by omega
      have hml := mkdN_length k j l hj
      obtain ⟨g, cap, e, -, -, -, -, -, -, -, hBg⟩ := HS.out.1.at_ j (by rw [hml]; exact hlt)
      rw [hml] at e
      simp only [Value.slice.injEq, true_and] at e
      obtain ⟨rfl, rfl⟩ := e
      obtain ⟨⟨x0, x1, x2, x3, x4⟩, hx⟩ : ∃ x, (mkdN k j l)[j]'(by rw [hml]; exact hlt) = x := ⟨_, rfl⟩
      have HF : Hid (RwF w wr B g c1 l.length j (mkdN k j l) (x0, x1, x2, x3, x4)) := by
        refine ⟨?_, hml, hlt, HS.out.2⟩
        have := HS.out.1
        rw [← hx, List.set_getElem_self]
        exact this
      obtain ⟨K, hK⟩ : ∃ K : Nat, k + 5 * j = K := ⟨_, rfl⟩
      have HKK := hide hK
      have hKb : K ≤ 5001000 := by omega
      have hK1 : 1 ≤ K := by omega
      have tn0 : ((K : Int)).toNat = K := by omega
      have HST := hide (mkdN_set k j l hlt)
      rw [hK] at HST ⊢
      clear hx HS hml hK
      have f0 := HF.out.cells.1 (j * 5)
      have z0 := HF.out.cells.2
      have r0 := HF.out.cell0.1
      have HF0 : Hid (RwF w (wr.setCell ⟨g, j * 5, none⟩ (.int .i64 K)) B g c1 l.length j (mkdN k j l) ((K : Int), x1, x2, x3, x4)) := hide (HF.out.put 0 (.int .i64 K) ((K : Int), x1, x2, x3, x4) rfl (by decide))
      clear HF
      obtain ⟨W0, hW0⟩ : ∃ W, wr.setCell ⟨g, j * 5, none⟩ (.int .i64 K) = W := ⟨_, rfl⟩
      rw [hW0] at HF0
      go_wp2_with fail
      refine (markText_any (K + 1) _ (by omega) (by omega)).mono ?_
      rintro e w1 ⟨rfl, B1⟩
      have H1 := HF0.out.below B1
      have f1 := H1.cells.1 (j * 5 + 1)
      have z1 := H1.cells.2
      have r1 := H1.cell0.2.1
      have HF1 : Hid (RwF w (w1.setCell ⟨g, j * 5 + 1, none⟩ (.string (mkT (K + 1)))) B g c1 l.length j (mkdN k j l) ((K : Int), mkT (K + 1), x2, x3, x4)) := hide (H1.put 1 (.string (mkT (K + 1))) ((K : Int), mkT (K + 1), x2, x3, x4) rfl (by decide))
      clear B1 H1 HF0 hW0 f0 z0 r0
      obtain ⟨W1, hW1⟩ : ∃ W, w1.setCell ⟨g, j * 5 + 1, none⟩ (.string (mkT (K + 1))) = W := ⟨_, rfl⟩
      rw [hW1] at HF1
      go_wp2_with fail
      refine (markText_any (K + 2) _ (by omega) (by omega)).mono ?_
      rintro e w2 ⟨rfl, B2⟩
      have H2 := HF1.out.below B2
      have f2 := H2.cells.1 (j * 5 + 2)
      have z2 := H2.cells.2
      have r2 := H2.cell0.2.2.1
      have HF2 : Hid (RwF w (w2.setCell ⟨g, j * 5 + 2, none⟩ (.string (mkT (K + 2)))) B g c1 l.length j (mkdN k j l) ((K : Int), mkT (K + 1), mkT (K + 2), x3, x4)) := hide (H2.put 2 (.string (mkT (K + 2))) ((K : Int), mkT (K + 1), mkT (K + 2), x3, x4) rfl (by decide))
      clear B2 H2 HF1 hW1 f1 z1 r1
      obtain ⟨W2, hW2⟩ : ∃ W, w2.setCell ⟨g, j * 5 + 2, none⟩ (.string (mkT (K + 2))) = W := ⟨_, rfl⟩
      rw [hW2] at HF2
      have f3 := HF2.out.cells.1 (j * 5 + 3)
      have z3 := HF2.out.cells.2
      have r3 := HF2.out.cell0.2.2.2.1
      have HF3 : Hid (RwF w (W2.setCell ⟨g, j * 5 + 3, none⟩ (.int .i64 ((K : Int) + 1 + 1 + 1))) B g c1 l.length j (mkdN k j l) ((K : Int), mkT (K + 1), mkT (K + 2), (K : Int) + 1 + 1 + 1, x4)) := hide (HF2.out.put 3 (.int .i64 ((K : Int) + 1 + 1 + 1)) ((K : Int), mkT (K + 1), mkT (K + 2), (K : Int) + 1 + 1 + 1, x4) rfl (by decide))
      clear HF2 HST
      obtain ⟨W3, hW3⟩ : ∃ W, W2.setCell ⟨g, j * 5 + 3, none⟩ (.int .i64 ((K : Int) + 1 + 1 + 1)) = W := ⟨_, rfl⟩
      rw [hW3] at HF3
      have HST := hide (mkdN_set k j l hlt)
      rw [HKK.out] at HST
      have HE3 : Hid (List.set (evRow ((K : Int), mkT (K + 1), mkT (K + 2), (K : Int) + 1 + 1 + 1, x4)) 4 (.string (mkT (K + 4))) = evRow (mkEv K)) := by
        have e3 : ((K + 3 : Nat) : Int) = (K : Int) + 1 + 1 + 1 := by omega
        simp only [mkEv, evRow, e3]
        exact rfl
      go_wp2_with fail
      refine (markText_any (K + 4) _ (by omega) (by omega)).mono ?_
      rintro e w4 ⟨rfl, B4⟩
      have H4 := HF3.out.below B4
      have f4 := H4.cells.1 (j * 5 + 4)
      have z4 := H4.cells.2
      have r4 := H4.cell0.2.2.2.2
      have HF4 : Hid (EvO (w4.setCell ⟨g, j * 5 + 4, none⟩ (.string (mkT (K + 4)))) B (.slice (some ⟨g, 0, none⟩) l.length c1) (mkdN k (j + 1) l) ∧ w.grownBy (w4.setCell ⟨g, j * 5 + 4, none⟩ (.string (mkT (K + 4)))) (some g)) := by
        have h5 := H4.put 4 (.string (mkT (K + 4))) (mkEv K) (show _ = _ from HE3.out) (by decide)
        rw [← HST.out]
        exact ⟨h5.o, h5.g⟩
      clear B4 H4 HF3 hW3 hW2 f3 z3 r3 f2 z2 r2
      go_wp2
      go_roundw
      case rel => exact ⟨j + 1, by omega, by go_num, by rw [← HKK.out]; go_num, HF4.out⟩
      case measure => simp [intOf]; omega
    · have j1 : ¬ ((j : Int) < (l.length : Int)) := by omega
      have hje : j = l.length := by omega
      have HR : Hid (EvO wr B (.slice a1 l.length c1) (mksN k l.length) ∧ w.grownBy wr (Value.slice a1 l.length c1).ownBlock) := by
        have := HS.out
        rw [hje, mkdN_all] at this
        exact this
      have HJ := hide hje
      clear HS hje
      go_wp2
      go_ret
      exact ⟨by rw [HJ.out]; rfl, HR.out.1, HR.out.2⟩
theorem mksN_get (k n j : Nat) (h : j < n) : (mksN k n)[j]'(by rw [mksN_length]; exact h) = mkEv (k + 5 * j) := by simp [mksN]
set_option maxRecDepth 100000 in
set_option maxHeartbeats 3200000 in
theorem heldEventS_any (v : Value) (n B k : Nat) (w : World) (h : EvO w B v (mksN k n)) (hk : 1 ≤ k) (hk1 : k ≤ 1000) (hl : n ≤ 1000000) :
    Calls Tryd.prog 8 #[v, .int .i64 k] w fun e w' => e = .returned (.int .i64 (k + 5 * n : Nat)) ∧ Below w.heap.size w w' := by
  obtain ⟨a1, c1, e1, hc⟩ := EvO.rev h
  rw [mksN_length] at e1
  subst e1
  have HC := hide hc
  clear h hc
  go_enter Tryd.func8, Tryd.ntmps8
  go_wp2
  go_loopw [1, 5] (fun x i wr => ∃ j : Nat, j ≤ n ∧ i = .int .i64 j ∧ x = .int .i64 (k + 5 * j : Nat) ∧ Below w.heap.size w wr) (fun _ i _ => n - (intOf i).toNat)
  case atStart => exact ⟨0, Nat.zero_le _, rfl, rfl, Below.refl _ _⟩
  case round =>
    obtain ⟨j, hj, rfl, rfl, hb⟩ := hrel
    have hsz := hb.size
    have j0 : (0 : Int) ≤ (j : Int) := by omega
    by_cases hlt : j < n
    · have j1 : (j : Int) < (n : Int) := by omega
      obtain ⟨g, o, rfl, hg, m0, m1, m2, m3, m4⟩ := HC.out j (by rw [mksN_length]; exact hlt)
      rw [mksN_get k n j hlt] at m0 m1 m2 m3 m4
      obtain ⟨K, hK⟩ : ∃ K : Nat, k + 5 * j = K := ⟨_, rfl⟩
      have HKK := hide hK
      have hKb : K ≤ 5001000 := by omega
      have hK1 : 1 ≤ K := by omega
      rw [hK] at m0 m1 m2 m3 m4 ⊢
      simp only [mkEv] at m0 m1 m2 m3 m4
      rw [show ((K + 3 : Nat) : Int) = (K : Int) + 1 + 1 + 1 by omega] at m3
      have HK4 : Hid (∀ w1, Below w.heap.size w w1 → w1.cell? ⟨g, o + j * 5, none⟩ = some (.int .i64 (K : Int)) ∧ w1.cell? ⟨g, o + j * 5 + 1, none⟩ = some (.string (mkT (K + 1))) ∧ w1.cell? ⟨g, o + j * 5 + 2, none⟩ = some (.string (mkT (K + 2))) ∧ w1.cell? ⟨g, o + j * 5 + 3, none⟩ = some (.int .i64 ((K : Int) + 1 + 1 + 1)) ∧ w1.cell? ⟨g, o + j * 5 + 4, none⟩ = some (.string (mkT (K + 4)))) := fun w1 b =>
        ⟨(b.cell (p := ⟨g, o + j * 5, none⟩) hg).trans m0, (b.cell (p := ⟨g, o + j * 5 + 1, none⟩) hg).trans m1, (b.cell (p := ⟨g, o + j * 5 + 2, none⟩) hg).trans m2, (b.cell (p := ⟨g, o + j * 5 + 3, none⟩) hg).trans m3, (b.cell (p := ⟨g, o + j * 5 + 4, none⟩) hg).trans m4⟩
      have HBB0 := hide hb
      obtain ⟨k0, k1, k2, k3, k4⟩ := HK4.out wr hb
      have BB := hb.drew
      clear m0 m1 m2 m3 m4 hb hK
      go_upto_region 7 with fail
      go_region_held3 (fun w' => w'.cell? ⟨g, o + j * 5 + 1, none⟩ = some (.string (mkT (K + 1)))) (exact (HK4.out _ BB).2.1) ((go_at_call 19; refine (markText_any (K + 1) _ (by omega) (by omega)).mono ?_; rintro e w3 ⟨rfl, B3⟩; replace BB := BB.trans (B3.mono BB.size)))
      have HB1 := hide BB
      clear BB B3 k0 k1 k2 k3 k4
      obtain ⟨-, -, k2, -, -⟩ := HK4.out _ HB1.out
      have BB := HB1.out.drew
      go_upto_region 10 with fail
      go_region_held3 (fun w' => w'.cell? ⟨g, o + j * 5 + 2, none⟩ = some (.string (mkT (K + 2)))) (exact (HK4.out _ BB).2.2.1) ((go_at_call 19; refine (markText_any (K + 2) _ (by omega) (by omega)).mono ?_; rintro e w4 ⟨rfl, B4⟩; replace BB := BB.trans (B4.mono BB.size)))
      have HB2 := hide BB
      clear BB B4 k2
      obtain ⟨-, -, -, k3, k4⟩ := HK4.out _ HB2.out
      have BB := HB2.out.drew
      go_upto_region 16 with fail
      go_region_held3 (fun w' => w'.cell? ⟨g, o + j * 5 + 4, none⟩ = some (.string (mkT (K + 4)))) (exact (HK4.out _ BB).2.2.2.2) ((go_at_call 19; refine (markText_any (K + 4) _ (by omega) (by omega)).mono ?_; rintro e w5 ⟨rfl, B5⟩; replace BB := BB.trans (B5.mono BB.size)))
      have HB3 := hide BB
      clear BB B5 k3 k4
      go_wp2
      go_roundw
      case rel => exact ⟨j + 1, by omega, by go_num, by rw [← HKK.out]; go_num, HB3.out⟩
      case measure => simp [intOf]; omega
    · have hje : j = n := by omega
      subst hje
      have HB := hide hb
      clear hb
      go_wp2
      go_ret
      exact ⟨rfl, HB.out⟩
end Go.Proofs.YthfiaihbpnlbjaaDoor
