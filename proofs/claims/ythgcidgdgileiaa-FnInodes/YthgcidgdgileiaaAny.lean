/- spec.l03Any by its contract: an inode whose pointers are of its own memory, two of them or one. -/
import Derived.Test.YthgcidgdgileiaaDrawI
namespace Go.Proofs.Ythgcidgdgileiaa
open Go.RowKit Kit
/-- A slice that leads to blocks from base on alone. -/
def FromB (base : Nat) (v : Value) : Prop := ∀ b off sp n c, v = .slice (some ⟨b, off, sp⟩) n c → base ≤ b
theorem fromB {base b off : Nat} {sp : _} {n c : Nat} (h : base ≤ b) : FromB base (.slice (some ⟨b, off, sp⟩) n c) := fun b' off' sp' n' c' e => by
  simp only [Value.slice.injEq, Option.some.injEq, Addr.mk.injEq] at e
  omega
theorem ints_set_other {w : World} {v : Value} {xs : List Int} {base b j : Nat} (h : RInts w v xs) (hf : FromB base v) (hb : b < base) (x : Value) : RInts (w.setCell ⟨b, j, none⟩ x) v xs := by
  obtain ⟨a, cap, rfl, h⟩ := h
  refine ⟨a, cap, rfl, fun i hi => ?_⟩
  obtain ⟨g, off, rfl, hg, hc⟩ := h i hi
  have hle := hf g off none _ _ rfl
  have e := heap_setCell_other w ⟨b, j, none⟩ g x (by show g ≠ b; omega)
  refine ⟨g, off, rfl, by simpa using hg, ?_⟩
  simp only [World.cell?] at hc ⊢
  rw [e]
  exact hc
/-- What a drawn inode is. -/
def Drawn (w0 w w' : World) (c : Nat) (a : Option Addr) (len cap : Nat) (e : Ending) : Prop := ∃ (k l : Int) (xs : List Int) (v : Value), xs.length ≤ 2 ∧ e = .returned (.agg #[.int .i64 k, .int .i64 l, v]) ∧ RInts w' v xs ∧ FromB w.heap.size v ∧ Drew w0 w w' c a len cap
theorem drawn_of {w0 w w' : World} {c len cap bx g cap2 : Nat} {a : Option Addr} {k l p q : Int} (h : St w0 w w' c a len cap bx g cap2 k l p q) (x y z : Value) :
    Drawn w0 w (((w'.setCell ⟨w.heap.size, 0, none⟩ x).setCell ⟨w.heap.size, 1, none⟩ y).setCell ⟨w.heap.size, 2, none⟩ z) c a len cap (.returned (.agg #[.int .i64 k, .int .i64 l, .slice (some ⟨g, 0, none⟩) 2 cap2])) :=
  ⟨k, l, [p, q], _, by simp, rfl, (end_of h x y z).1.rints, fromB (by have := h.hg; omega), (end_of h x y z).2⟩
theorem drawn_one {w0 w w' : World} {c len cap bx g cap2 : Nat} {a : Option Addr} {k l p q : Int} (h : St w0 w w' c a len cap bx g cap2 k l p q) (u x y z : Value) (n : Nat) :
    Drawn w0 w ((((w'.setCell ⟨bx, 2, none⟩ u).setCell ⟨w.heap.size, 0, none⟩ x).setCell ⟨w.heap.size, 1, none⟩ y).setCell ⟨w.heap.size, 2, none⟩ z) c a len cap (.returned (.agg #[.int .i64 k, .int .i64 l, .slice (some ⟨g, 1, none⟩) 1 n])) := by
  have h1 : ROwns (w'.setCell ⟨bx, 2, none⟩ u) (w.heap.size + 1) 3 (.slice (some ⟨g, 0, none⟩) 2 cap2) (ic [p, q]) := h.own.of_heap fun j hj => heap_setCell_other _ ⟨bx, 2, none⟩ j _ (by have e1 : g = j := (by simpa [Value.ownBlock] using hj); have e2 := h.hne; show j ≠ bx; omega)
  have h2 := ((h1.setCell_other (b := w.heap.size) (j := 0) (by omega) x).setCell_other (b := w.heap.size) (j := 1) (by omega) y).setCell_other (b := w.heap.size) (j := 2) (by omega) z
  have h3 : World.ownsRow _ (w.heap.size + 1) 3 1 (.slice (some ⟨g, 0, none⟩) 2 cap2) 2 (ic [p, q]) := h2
  refine ⟨k, l, [q], _, by simp, rfl, ⟨_, n, rfl, fun j hj => ?_⟩, fromB (by have := h.hg; omega), (((h.dr.setCell h.hc (by have := h.hx; omega) _).setCell h.hc (Nat.le_refl _) _).setCell h.hc (Nat.le_refl _) _).setCell h.hc (Nat.le_refl _) _⟩
  have hj0 : j = 0 := by simp at hj; exact hj
  subst hj0
  exact ⟨g, 1, rfl, (h2.lt g rfl).2, h3.cellAt 1 (by decide)⟩

set_option maxRecDepth 100000 in
set_option maxHeartbeats 3200000 in
theorem any_any (w0 w : World) (c : Nat) (a : Option Addr) (len cap : Nat) (hcode : CodeIs w0 a len) (hlen : len ≤ 1048576) (hcur : Cur 64 w0 w c a len cap) (hcw : c < w.heap.size) :
    Calls Try.prog 28 #[.pointer (some ⟨c, 0, none⟩)] w fun e w' => Drawn w0 w w' c a len cap e := by
  have HC := hide hcur
  have HO := hide hcode
  clear hcur hcode
  go_enter Try.func28, Try.ntmps28
  go_wp2_with fail
  refine (inode_any w0 _ c a len cap HO.out hlen (cur_alloc HC.out hcw _) (by simp; omega)).mono ?_
  rintro e w2 ⟨k, l, p, q, v, rfl, O2, D2⟩
  obtain ⟨g, cap2, rfl, hg1, hg2⟩ := ROwns.slice2 O2
  have R2 : AtT 26 w2 w.heap.size 0 0 (.slice none 0 0) := (AtT.new 26 w 0 0 (.slice none 0 0)).grown D2.2 (by intro e; cases e; omega)
  have d2 : Drew w0 w w2 c a len cap := ((Drew.refl HC.out).alloc hcw _).trans D2
  have O3 : ROwns w2 (w.heap.size + 1) 3 (.slice (some ⟨g, 0, none⟩) 2 cap2) (ic [p, q]) := O2.base_le (by simp)
  have st : St w0 w (w2.alloc (Obj.cells #[.int .i64 k, .int .i64 l, .slice (some ⟨g, 0, none⟩) 2 cap2] 26)) c a len cap w2.heap.size g cap2 k l p q :=
    ⟨R2.alloc _, AtT.new 26 w2 k l _, O3.alloc _, d2.alloc hcw _, R2.lt, by omega, hcw⟩
  have hlt2 := R2.lt
  have hcap : 2 ≤ cap2 := by
    obtain ⟨g', cap', e1, -, -, -, -, h6⟩ := O3.at 0 (by simp [ic])
    simp only [Value.slice.injEq] at e1
    obtain ⟨-, -, rfl⟩ := e1
    simpa [ic] using h6
  have HS := hide st
  clear st O2 D2 R2 d2 O3 hg1 hg2
  go_wp2_with fail
  refine (below_any w0 _ c a len cap 12 HO.out hlen HS.out.dr.cur (by decide) (by decide)).mono ?_
  rintro e w3 ⟨y, -, rfl, D3⟩
  have H3 := hide (HS.out.drews D3)
  clear D3 HS
  by_cases h0 : y = 0
  · subst h0
    go_wp2_with fail
    refine (pick_any w0 _ c w3.heap.size a len cap [-1, 0, 3] HO.out hlen (H3.out.alloc _).dr.cur (heap_new w3 _) (by have h1 := H3.out.dr.2.size; omega) (by decide) (by decide)).mono ?_
    rintro e w4 ⟨z4, -, rfl, D4⟩
    have st4 := (H3.out.alloc _).drews D4
    obtain ⟨p0, p1, p2, f0, f1, f2, m3⟩ := st4.cells
    have st5 := st4.setKind z4
    obtain ⟨q0, q1, q2, z0, z1, z2, m0⟩ := res_cells (w1 := w4) (b := w.heap.size) st4.res
    have H5 := hide (drawn_of st5 (.int .i64 z4) (.int .i64 l) (.slice (some ⟨g, 0, none⟩) 2 cap2))
    have hne : ¬ w2.heap.size = w.heap.size := by omega
    have hne' : ¬ w.heap.size = w2.heap.size := by omega
    clear st4 st5 D4
    go_wp2
    refine bodyPost_ret (v := .agg #[.int .i64 z4, .int .i64 l, .slice (some ⟨g, 0, none⟩) 2 cap2]) (by simp [results, go_sem, q0, q1, q2]) rfl H5.out
  have y0 : ((y : Int) == 0) = false := by simp; omega
  by_cases h1 : y = 1
  · subst h1
    go_wp2_with fail
    refine (pick_any w0 _ c w3.heap.size a len cap [-1, 0, 200, 201] HO.out hlen (H3.out.alloc _).dr.cur (heap_new w3 _) (by have h1 := H3.out.dr.2.size; omega) (by decide) (by decide)).mono ?_
    rintro e w4 ⟨z4, -, rfl, D4⟩
    have st4 := (H3.out.alloc _).drews D4
    obtain ⟨p0, p1, p2, f0, f1, f2, m3⟩ := st4.cells
    have st5 := st4.setLinks z4
    obtain ⟨q0, q1, q2, z0, z1, z2, m0⟩ := res_cells (w1 := w4) (b := w.heap.size) st4.res
    have H5 := hide (drawn_of st5 (.int .i64 k) (.int .i64 z4) (.slice (some ⟨g, 0, none⟩) 2 cap2))
    have hne : ¬ w2.heap.size = w.heap.size := by omega
    have hne' : ¬ w.heap.size = w2.heap.size := by omega
    clear st4 st5 D4
    go_wp2
    refine bodyPost_ret (v := .agg #[.int .i64 k, .int .i64 z4, .slice (some ⟨g, 0, none⟩) 2 cap2]) (by simp [results, go_sem, q0, q1, q2]) rfl H5.out
  have y1 : ((y : Int) == 1) = false := by simp; omega
  by_cases h2 : y = 2
  · subst h2
    obtain ⟨p0, p1, p2, f0, f1, f2, m3⟩ := H3.out.cells
    go_wp2
    go_region_held3 (fun w' => w'.cell? ⟨w2.heap.size, 2, none⟩ = some (.slice (some ⟨g, 0, none⟩) 2 cap2)) (first | exact H3.out.drew.cells.2.2.1 | exact (H3.out.drew.alloc _).cells.2.2.1 | exact ((H3.out.drew.alloc _).drews D4).cells.2.2.1 | exact (((H3.out.drew.alloc _).drews D4).setP z4).cells.2.2.1) (first | (go_at_call 44; refine (pick_any w0 _ c w3.heap.size a len cap [-1, 16, 17] HO.out hlen (H3.out.drew.alloc _).dr.cur (heap_new w3.drew _) (by have h1 := H3.out.dr.2.size; omega) (by decide) (by decide)).mono ?_; rintro e w4 ⟨z4, -, rfl, D4⟩; obtain ⟨t0, t1, t2, t3⟩ := ((H3.out.drew.alloc _).drews D4).ptrs))
    have st9 := ((H3.out.drew.alloc _).drews D4).setP z4
    clear D4 t0 t1 t2 t3 p0 p1 p2 f0 f1 f2 m3
    generalize w4.setCell ⟨g, 0, none⟩ (.int .i64 z4) = w9 at *
    obtain ⟨q0, q1, q2, z0, z1, z2, m0⟩ := res_cells (w1 := w9) (b := w.heap.size) st9.res
    obtain ⟨p0, p1, p2, f0, f1, f2, m9⟩ := st9.cells
    have H9 := hide (drawn_of st9 (.int .i64 k) (.int .i64 l) (.slice (some ⟨g, 0, none⟩) 2 cap2))
    clear st9
    go_wp2
    refine bodyPost_ret (v := .agg #[.int .i64 k, .int .i64 l, .slice (some ⟨g, 0, none⟩) 2 cap2]) (by simp [results, go_sem, q0, q1, q2]) rfl H9.out
  have y2 : ((y : Int) == 2) = false := by simp; omega
  have st9 := H3.out
  obtain ⟨q0, q1, q2, z0, z1, z2, m0⟩ := res_cells (w1 := w3) (b := w.heap.size) st9.res
  obtain ⟨p0, p1, p2, f0, f1, f2, m9⟩ := st9.cells
  have hne : ¬ w2.heap.size = w.heap.size := by omega
  have hne' : ¬ w.heap.size = w2.heap.size := by omega
  by_cases h3 : y = 3
  · subst h3
    have H9 := hide (fun u x y z => drawn_one st9 u x y z (cap2 - 1))
    clear st9
    go_wp2

    refine bodyPost_ret (v := .agg #[.int .i64 k, .int .i64 l, .slice (some ⟨g, 1, none⟩) 1 (cap2 - 1)]) (by simp [results, go_sem, q0, q1, q2]) rfl (H9.out _ _ _ _)
  · have y3 : ((y : Int) == 3) = false := by simp; omega
    have H9 := hide (drawn_of st9 (.int .i64 k) (.int .i64 l) (.slice (some ⟨g, 0, none⟩) 2 cap2))
    clear st9
    go_wp2
    refine bodyPost_ret (v := .agg #[.int .i64 k, .int .i64 l, .slice (some ⟨g, 0, none⟩) 2 cap2]) (by simp [results, go_sem, q0, q1, q2]) rfl H9.out
end Go.Proofs.Ythgcidgdgileiaa
