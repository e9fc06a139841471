/- spec.l03Inode by its contract: an inode of two pointers of its own. -/
import Derived.Test.YthgcidgdgileiaaSt
import Derived.Deep.RegionHeld3
namespace Go.Proofs.Ythgcidgdgileiaa
open Go.RowKit Kit
theorem ROwns.slice2 {w : World} {base : Nat} {v : Value} {p q : Int} (h : ROwns w base 3 v (ic [p, q])) : ∃ g cap, v = .slice (some ⟨g, 0, none⟩) 2 cap ∧ base ≤ g ∧ g < w.heap.size := by
  obtain ⟨g, cap, h1, _, _, h2, h3, _⟩ := h.at 0 (by simp [ic])
  exact ⟨g, cap, h1, h2, h3⟩
theorem end_of {w0 w w' : World} {c len cap bx g cap2 : Nat} {a : Option Addr} {k l p q : Int} (h : St w0 w w' c a len cap bx g cap2 k l p q) (x y z : Value) :
    ROwns (((w'.setCell ⟨w.heap.size, 0, none⟩ x).setCell ⟨w.heap.size, 1, none⟩ y).setCell ⟨w.heap.size, 2, none⟩ z) w.heap.size 3 (.slice (some ⟨g, 0, none⟩) 2 cap2) (ic [p, q]) ∧
    Drew w0 w (((w'.setCell ⟨w.heap.size, 0, none⟩ x).setCell ⟨w.heap.size, 1, none⟩ y).setCell ⟨w.heap.size, 2, none⟩ z) c a len cap :=
  ⟨((((h.own.setCell_other (by omega) _).setCell_other (by omega) _).setCell_other (by omega) _).base_le (by omega)), ((h.dr.setCell h.hc (Nat.le_refl _) _).setCell h.hc (Nat.le_refl _) _).setCell h.hc (Nat.le_refl _) _⟩

set_option maxRecDepth 100000 in
set_option maxHeartbeats 3200000 in
theorem inode_any (w0 w : World) (c : Nat) (a : Option Addr) (len cap : Nat) (hcode : CodeIs w0 a len) (hlen : len ≤ 1048576) (hcur : Cur 64 w0 w c a len cap) (hcw : c < w.heap.size) :
    Calls Try.prog 43 #[.pointer (some ⟨c, 0, none⟩)] w fun e w' => ∃ (k l p q : Int) (v : Value), e = .returned (.agg #[.int .i64 k, .int .i64 l, v]) ∧ ROwns w' w.heap.size 3 v (ic [p, q]) ∧ Drew w0 w w' c a len cap := by
  have HC := hide hcur
  have HO := hide hcode
  clear hcur hcode
  go_enter Try.func43, Try.ntmps43
  go_wp2_with fail
  refine (pick_any w0 _ c (w.heap.size + 1) a len cap [0, 1, 2] HO.out hlen (cur_alloc (cur_alloc HC.out hcw _) (by simp; omega) _) ?_ (by omega) (by decide) (by decide)).mono ?_
  · have := heap_new (w.alloc (Obj.cells #[.int .i64 0, .int .i64 0, .slice none 0 0] 26)) (Obj.cells #[.int .i64 0, .int .i64 1, .int .i64 2] 3)
    rw [World.size_alloc] at this
    exact this
  rintro e w1 ⟨k, hk, rfl, D1⟩
  have d1 : Drew w0 w w1 c a len cap := (((Drew.refl HC.out).alloc hcw _).alloc hcw _).trans D1
  have r1 : AtT 26 w1 w.heap.size 0 0 (.slice none 0 0) := ((AtT.new 26 w 0 0 (.slice none 0 0)).alloc _).grown D1.2 (by intro e; cases e; omega)
  have H1 := hide (And.intro d1 r1)
  have s1 : w.heap.size < w1.heap.size := r1.lt
  clear D1 d1 r1 hk
  go_wp2_with fail
  refine (specNew_any k w1).mono ?_
  rintro e w2 ⟨v, rfl, O2, B2⟩
  obtain ⟨g, cap2, rfl, hg1, hg2⟩ := ROwns.slice2 O2
  obtain ⟨l, hl⟩ : ∃ l, newLinks k = l := ⟨_, rfl⟩
  rw [hl]
  have R2 := H1.out.2.below B2 H1.out.2.lt
  have D2 := H1.out.1.below hcw B2
  have O3 : ROwns w2 (w.heap.size + 1) 3 (.slice (some ⟨g, 0, none⟩) 2 cap2) (ic [0, 0]) := O2.base_le (by omega)
  have hlt2 : w.heap.size < w2.heap.size := R2.lt
  have st : St w0 w (w2.alloc (Obj.cells #[.int .i64 k, .int .i64 l, .slice (some ⟨g, 0, none⟩) 2 cap2] 26)) c a len cap w2.heap.size g cap2 k l 0 0 :=
    ⟨R2.alloc _, AtT.new 26 w2 k l _, O3.alloc _, D2.alloc hcw _, hlt2, by omega, hcw⟩
  have HS := hide st
  have H2 := hide (And.intro R2 (And.intro D2 O3))
  clear st O2 B2 H1 hl R2 D2 O3
  by_cases hz : k = 0
  · subst hz
    have hnz : ((0 : Int) != 0) = false := by decide
    obtain ⟨q0, q1, q2, z0, z1, z2, m0⟩ := res_cells (w1 := w2) (b := w.heap.size) H2.out.1
    clear HS
    go_wp2
    refine bodyPost_ret (v := .agg #[.int .i64 0, .int .i64 l, .slice (some ⟨g, 0, none⟩) 2 cap2]) (by simp [results, go_sem, q0, q1, q2, m0]) rfl ⟨0, l, 0, 0, _, rfl, ?_, ?_⟩
    · exact (((((H2.out.2.2.setCell_other (by omega) _).setCell_other (by omega) _).setCell_other (by omega) _).base_le (by omega))).alloc _
    · exact ((((H2.out.2.1.setCell hcw (Nat.le_refl _) _).setCell hcw (Nat.le_refl _) _).setCell hcw (Nat.le_refl _) _)).alloc hcw _
  have hnz : (k != 0) = true := by simpa using hz
  clear H2
  go_wp2_with fail
  refine (below_any w0 _ c a len cap 4 HO.out hlen HS.out.dr.cur (by decide) (by decide)).mono ?_
  rintro e w3 ⟨z3, -, rfl, D3⟩
  have st3 := HS.out.drews D3
  obtain ⟨p0, p1, p2, f0, f1, f2, m3⟩ := st3.cells
  have H4 := hide (st3.setLinks z3)
  clear D3 st3 HS
  go_wp2
  obtain ⟨w4, hw4⟩ : ∃ w4, w3.setCell ⟨w2.heap.size, 1, none⟩ (.int .i64 (z3 : Int)) = w4 := ⟨_, rfl⟩
  rw [hw4] at H4 ⊢
  clear hw4 p0 p1 p2 f0 f1 f2 m3
  go_region_held3 (fun w' => w'.cell? ⟨w2.heap.size, 2, none⟩ = some (.slice (some ⟨g, 0, none⟩) 2 cap2)) (first | exact H4.out.drew.cells.2.2.1 | exact (H4.out.drew.drews D5).cells.2.2.1 | exact ((H4.out.drew.drews D5).setP z5).cells.2.2.1) (first | (go_at_call 37; refine (below_any w0 _ c a len cap 17 HO.out hlen H4.out.drew.dr.cur (by decide) (by decide)).mono ?_; rintro e w5 ⟨z5, -, rfl, D5⟩; obtain ⟨t0, t1, t2, t3⟩ := (H4.out.drew.drews D5).ptrs))
  have H6 := hide ((H4.out.drew.drews D5).setP z5)
  clear D5 t0 t1 t2 t3 H4
  generalize w5.setCell ⟨g, 0, none⟩ (.int .i64 (z5 : Int)) = w6 at *
  go_wp2
  go_region_held3 (fun w' => w'.cell? ⟨w2.heap.size, 2, none⟩ = some (.slice (some ⟨g, 0, none⟩) 2 cap2)) (first | exact H6.out.drew.cells.2.2.1 | exact (H6.out.drew.drews D7).cells.2.2.1 | exact ((H6.out.drew.drews D7).alloc _).cells.2.2.1 | exact (((H6.out.drew.drews D7).alloc _).drews D8).cells.2.2.1 | exact ((((H6.out.drew.drews D7).alloc _).drews D8).setQ z8).cells.2.2.1) (first | (go_at_call 37; refine (below_any w0 _ c a len cap 17 HO.out hlen H6.out.drew.dr.cur (by decide) (by decide)).mono ?_; rintro e w7 ⟨z7, -, rfl, D7⟩) | (go_at_call 44; refine (pick_any w0 _ c w7.heap.size a len cap [0, 0, (z7 : Int)] HO.out hlen ((H6.out.drew.drews D7).alloc _).dr.cur (heap_new w7 _) (by have h1 := (H6.out.drew.drews D7).dr.2.size; omega) (by simp) (by simp)).mono ?_; rintro e w8 ⟨z8, -, rfl, D8⟩; obtain ⟨t0, t1, t2, t3⟩ := (((H6.out.drew.drews D7).alloc _).drews D8).ptrs))
  have st9 := (((H6.out.drew.drews D7).alloc _).drews D8).setQ z8
  clear D7 D8 t0 t1 t2 t3 H6
  generalize w8.setCell ⟨g, 1, none⟩ (.int .i64 z8) = w9 at *
  obtain ⟨q0, q1, q2, z0, z1, z2, m0⟩ := res_cells (w1 := w9) (b := w.heap.size) st9.res
  obtain ⟨p0, p1, p2, f0, f1, f2, m9⟩ := st9.cells
  have H9 := hide (end_of st9 (.int .i64 k) (.int .i64 (z3 : Int)) (.slice (some ⟨g, 0, none⟩) 2 cap2))
  clear st9
  go_wp2
  refine bodyPost_ret (v := .agg #[.int .i64 k, .int .i64 (z3 : Int), .slice (some ⟨g, 0, none⟩) 2 cap2]) (by simp [results, go_sem, q0, q1, q2]) rfl ⟨k, z3, _, _, _, rfl, H9.out.1, H9.out.2⟩
end Go.Proofs.Ythgcidgdgileiaa
