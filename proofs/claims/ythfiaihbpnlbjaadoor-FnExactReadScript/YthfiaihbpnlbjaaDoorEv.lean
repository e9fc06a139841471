/- Events: spec.EventOk, impl.limitsOf, impl.EventOk, laws.szEvent and laws.toEvent by their contracts, and the law out of them. -/
import Derived.Test.YthfiaihbpnlbjaaDoorRDa
import Derived.WalkKit
import Derived.WalkSpells
import Derived.WalkLawsBesides
import Derived.Below
import Derived.Handy
namespace Go.Proofs.YthfiaihbpnlbjaaDoor
open Go.RowKit Kit
/-- An event as a value. -/
abbrev evV (k : Int) (p q : ByteArray) (a : Int) (t : ByteArray) : Value := .agg #[.int .i64 k, .string p, .string q, .int .i64 a, .string t]
/-- The most that each part of an event may have. -/
def lim (k : Int) : Int × Int × Int × Int × Bool :=
  if k = 5 then (30, 30, 0, 0, true) else if k = 1 ∨ k = 2 ∨ k = 4 then (30, 0, 0, 0, true) else if k = 3 then (30, 0, 9, 30, true) else if k = 6 then (0, 0, 20, 0, true) else if k = 7 ∨ k = 8 then (0, 0, 0, 0, true) else (0, 0, 0, 0, false)
abbrev limV (x : Int × Int × Int × Int × Bool) : Value := .tuple #[.agg #[.int .i64 x.1, .int .i64 x.2.1, .int .i64 x.2.2.1, .int .i64 x.2.2.2.1], .bool x.2.2.2.2]
/-- Is an event right? -/
def evB (k : Int) (p q : ByteArray) (a : Int) (t : ByteArray) : Bool :=
  (lim k).2.2.2.2 && decide ((p.size : Int) ≤ (lim k).1) && decide ((q.size : Int) ≤ (lim k).2.1) && decide (0 ≤ a) && decide (a ≤ (lim k).2.2.1) && decide ((t.size : Int) ≤ (lim k).2.2.2.1)
theorem lim_in {k : Int} (h1 : 1 ≤ k) (h8 : k ≤ 8) : k = 1 ∨ k = 2 ∨ k = 3 ∨ k = 4 ∨ k = 5 ∨ k = 6 ∨ k = 7 ∨ k = 8 := by omega
theorem lim_not {k : Int} (h : ¬ (1 ≤ k ∧ k ≤ 8)) : lim k = (0, 0, 0, 0, false) := by
  have : k ≠ 1 ∧ k ≠ 2 ∧ k ≠ 3 ∧ k ≠ 4 ∧ k ≠ 5 ∧ k ≠ 6 ∧ k ≠ 7 ∧ k ≠ 8 := by omega
  simp [lim, this]
theorem empty_size (p : ByteArray) : ((p.size : Int) ≤ 0) = (p = ⟨#[]⟩) := by
  apply propext
  constructor
  · intro h
    have : p.size = 0 := by omega
    exact ByteArray.size_eq_zero_iff.1 this
  · intro h
    subst h
    exact Int.le_refl 0
/-- An event in a block. -/
structure EvAt (W : World) (b : Nat) (k : Int) (p q : ByteArray) (a : Int) (t : ByteArray) : Prop where
  c0 : W.cell? ⟨b, 0, none⟩ = some (.int .i64 k)
  c1 : W.cell? ⟨b, 1, none⟩ = some (.string p)
  c2 : W.cell? ⟨b, 2, none⟩ = some (.string q)
  c3 : W.cell? ⟨b, 3, none⟩ = some (.int .i64 a)
  c4 : W.cell? ⟨b, 4, none⟩ = some (.string t)
abbrev evO (y : TypeId) (k : Int) (p q : ByteArray) (a : Int) (t : ByteArray) : Obj := .cells #[.int .i64 k, .string p, .string q, .int .i64 a, .string t] y
theorem EvAt.new (y : TypeId) (w : World) (k : Int) (p q : ByteArray) (a : Int) (t : ByteArray) : EvAt (w.alloc (evO y k p q a t)) w.heap.size k p q a t := by
  have h' : (w.alloc (evO y k p q a t)).heap[w.heap.size]? = some (.cells #[.int .i64 k, .string p, .string q, .int .i64 a, .string t] y (0, 0)) := by
    show (w.heap.push _)[w.heap.size]? = _
    simp [evO]
  generalize w.alloc (evO y k p q a t) = W at h' ⊢
  generalize w.heap.size = b at h' ⊢
  constructor <;> simp [World.cell?, h']
theorem EvAt.below {B : Nat} {W W' : World} {b : Nat} {k : Int} {p q : ByteArray} {a : Int} {t : ByteArray} (h : EvAt W b k p q a t) (hb : Below B W W') (hlt : b < B) : EvAt W' b k p q a t :=
  ⟨(hb.cell hlt).trans h.c0, (hb.cell hlt).trans h.c1, (hb.cell hlt).trans h.c2, (hb.cell hlt).trans h.c3, (hb.cell hlt).trans h.c4⟩
set_option linter.unusedVariables false
set_option maxRecDepth 100000
set_option maxHeartbeats 1600000
theorem limits_any (k : Int) (w : World) : Calls Tryd.prog 44 #[.int .i64 k] w fun e w' => e = .returned (limV (lim k)) ∧ Below w.heap.size w w' := by
  by_cases h1 : k = 1
  · subst h1
    go_enter Tryd.func44, Tryd.ntmps44
    go_wp2
    refine bodyPost_ret (v := limV (lim 1)) (by simp [results, go_sem, limV, lim]) rfl ⟨rfl, by go_grown⟩
  by_cases h2 : k = 2
  · subst h2
    go_enter Tryd.func44, Tryd.ntmps44
    go_wp2
    refine bodyPost_ret (v := limV (lim 2)) (by simp [results, go_sem, limV, lim]) rfl ⟨rfl, by go_grown⟩
  by_cases h3 : k = 3
  · subst h3
    go_enter Tryd.func44, Tryd.ntmps44
    go_wp2
    refine bodyPost_ret (v := limV (lim 3)) (by simp [results, go_sem, limV, lim]) rfl ⟨rfl, by go_grown⟩
  by_cases h4 : k = 4
  · subst h4
    go_enter Tryd.func44, Tryd.ntmps44
    go_wp2
    refine bodyPost_ret (v := limV (lim 4)) (by simp [results, go_sem, limV, lim]) rfl ⟨rfl, by go_grown⟩
  by_cases h5 : k = 5
  · subst h5
    go_enter Tryd.func44, Tryd.ntmps44
    go_wp2
    refine bodyPost_ret (v := limV (lim 5)) (by simp [results, go_sem, limV, lim]) rfl ⟨rfl, by go_grown⟩
  by_cases h6 : k = 6
  · subst h6
    go_enter Tryd.func44, Tryd.ntmps44
    go_wp2
    refine bodyPost_ret (v := limV (lim 6)) (by simp [results, go_sem, limV, lim]) rfl ⟨rfl, by go_grown⟩
  by_cases h7 : k = 7
  · subst h7
    go_enter Tryd.func44, Tryd.ntmps44
    go_wp2
    refine bodyPost_ret (v := limV (lim 7)) (by simp [results, go_sem, limV, lim]) rfl ⟨rfl, by go_grown⟩
  by_cases h8 : k = 8
  · subst h8
    go_enter Tryd.func44, Tryd.ntmps44
    go_wp2
    refine bodyPost_ret (v := limV (lim 8)) (by simp [results, go_sem, limV, lim]) rfl ⟨rfl, by go_grown⟩
  have e : lim k = (0, 0, 0, 0, false) := by simp [lim, h1, h2, h3, h4, h5, h6, h7, h8]
  rw [e]
  go_enter Tryd.func44, Tryd.ntmps44
  go_wp2
  refine bodyPost_ret (v := limV (0, 0, 0, 0, false)) (by simp [results, go_sem, limV]) rfl ⟨rfl, by go_grown⟩
theorem in_any (x l m : Int) (w : World) : Calls Tryd.prog 21 #[.int .i64 x, .int .i64 l, .int .i64 m] w fun e w' => e = .returned (.bool (decide (l ≤ x ∧ x ≤ m))) ∧ w = w' := by
  by_cases h1 : l ≤ x
  · by_cases h2 : x ≤ m
    · rw [decide_eq_true ⟨h1, h2⟩]
      go_enter Tryd.func21, Tryd.ntmps21
      go_wp2
      go_ret
      exact ⟨rfl, rfl⟩
    · rw [decide_eq_false (fun h => h2 h.2)]
      go_enter Tryd.func21, Tryd.ntmps21
      go_wp2
      go_ret
      exact ⟨rfl, rfl⟩
  · rw [decide_eq_false (fun h => h1 h.1)]
    go_enter Tryd.func21, Tryd.ntmps21
    go_wp2
    go_ret
    exact ⟨rfl, rfl⟩
theorem implEv_any (k : Int) (p q : ByteArray) (a : Int) (t : ByteArray) (w : World) (hp : p.size ≤ 1048576) (hq : q.size ≤ 1048576) (ht : t.size ≤ 1048576) : Calls Tryd.prog 34 #[evV k p q a t] w fun e w' => e = .returned (.bool (evB k p q a t)) ∧ Below w.heap.size w w' := by
  have HL := hide (limits_any k)
  unfold evB
  obtain ⟨⟨l1, l2, l3, l4, b⟩, hl⟩ : ∃ x, lim k = x := ⟨_, rfl⟩
  rw [hl] at HL ⊢
  clear hl
  simp only [limV] at HL ⊢
  cases b
  · skip
    go_enter Tryd.func34, Tryd.ntmps34
    go_wp2_with fail
    refine (HL.out _).mono ?_
    rintro e w1 ⟨rfl, hb1⟩
    obtain ⟨c0, c1, c2, c3, c4⟩ := (EvAt.new 33 w k p q a t).below hb1 (by simp)
    have HB := hide (((Below.refl _ w).alloc (Nat.le_refl _) _).trans (hb1.mono (by simp)))
    have hs : w.heap.size < w1.heap.size := by have := hb1.size; simp at this; omega
    clear hb1
    go_wp2
    go_ret
    exact ⟨by simp, (HB.out.alloc HB.out.size _)⟩
  · by_cases g0 : (p.size : Int) ≤ l1
    · by_cases g1 : (q.size : Int) ≤ l2
      · by_cases g2 : 0 ≤ a
        · by_cases g3 : a ≤ l3
          · by_cases g4 : (t.size : Int) ≤ l4
            · skip
              have G := hide (show (true && decide ((p.size : Int) ≤ l1) && decide ((q.size : Int) ≤ l2) && decide (0 ≤ a) && decide (a ≤ l3) && decide ((t.size : Int) ≤ l4)) = true by simp [g0, g1, g2, g3, g4])
              go_enter Tryd.func34, Tryd.ntmps34
              go_wp2_with fail
              refine (HL.out _).mono ?_
              rintro e w1 ⟨rfl, hb1⟩
              obtain ⟨c0, c1, c2, c3, c4⟩ := (EvAt.new 33 w k p q a t).below hb1 (by simp)
              have HB := hide (((Below.refl _ w).alloc (Nat.le_refl _) _).trans (hb1.mono (by simp)))
              have hs : w.heap.size < w1.heap.size := by have := hb1.size; simp at this; omega
              clear hb1
              go_wp2
              go_ret
              exact ⟨by rw [G.out]; rfl, (HB.out.alloc HB.out.size _)⟩
            · skip
              have G := hide (decide_eq_false g4)
              go_enter Tryd.func34, Tryd.ntmps34
              go_wp2_with fail
              refine (HL.out _).mono ?_
              rintro e w1 ⟨rfl, hb1⟩
              obtain ⟨c0, c1, c2, c3, c4⟩ := (EvAt.new 33 w k p q a t).below hb1 (by simp)
              have HB := hide (((Below.refl _ w).alloc (Nat.le_refl _) _).trans (hb1.mono (by simp)))
              have hs : w.heap.size < w1.heap.size := by have := hb1.size; simp at this; omega
              clear hb1
              go_wp2
              go_ret
              exact ⟨by rw [G.out]; simp, (HB.out.alloc HB.out.size _)⟩
          · skip
            have G := hide (decide_eq_false g3)
            go_enter Tryd.func34, Tryd.ntmps34
            go_wp2_with fail
            refine (HL.out _).mono ?_
            rintro e w1 ⟨rfl, hb1⟩
            obtain ⟨c0, c1, c2, c3, c4⟩ := (EvAt.new 33 w k p q a t).below hb1 (by simp)
            have HB := hide (((Below.refl _ w).alloc (Nat.le_refl _) _).trans (hb1.mono (by simp)))
            have hs : w.heap.size < w1.heap.size := by have := hb1.size; simp at this; omega
            clear hb1
            go_wp2
            go_ret
            exact ⟨by rw [G.out]; simp, (HB.out.alloc HB.out.size _)⟩
        · skip
          have G := hide (decide_eq_false g2)
          go_enter Tryd.func34, Tryd.ntmps34
          go_wp2_with fail
          refine (HL.out _).mono ?_
          rintro e w1 ⟨rfl, hb1⟩
          obtain ⟨c0, c1, c2, c3, c4⟩ := (EvAt.new 33 w k p q a t).below hb1 (by simp)
          have HB := hide (((Below.refl _ w).alloc (Nat.le_refl _) _).trans (hb1.mono (by simp)))
          have hs : w.heap.size < w1.heap.size := by have := hb1.size; simp at this; omega
          clear hb1
          go_wp2
          go_ret
          exact ⟨by rw [G.out]; simp, (HB.out.alloc HB.out.size _)⟩
      · skip
        have G := hide (decide_eq_false g1)
        go_enter Tryd.func34, Tryd.ntmps34
        go_wp2_with fail
        refine (HL.out _).mono ?_
        rintro e w1 ⟨rfl, hb1⟩
        obtain ⟨c0, c1, c2, c3, c4⟩ := (EvAt.new 33 w k p q a t).below hb1 (by simp)
        have HB := hide (((Below.refl _ w).alloc (Nat.le_refl _) _).trans (hb1.mono (by simp)))
        have hs : w.heap.size < w1.heap.size := by have := hb1.size; simp at this; omega
        clear hb1
        go_wp2
        go_ret
        exact ⟨by rw [G.out]; simp, (HB.out.alloc HB.out.size _)⟩
    · skip
      have G := hide (decide_eq_false g0)
      go_enter Tryd.func34, Tryd.ntmps34
      go_wp2_with fail
      refine (HL.out _).mono ?_
      rintro e w1 ⟨rfl, hb1⟩
      obtain ⟨c0, c1, c2, c3, c4⟩ := (EvAt.new 33 w k p q a t).below hb1 (by simp)
      have HB := hide (((Below.refl _ w).alloc (Nat.le_refl _) _).trans (hb1.mono (by simp)))
      have hs : w.heap.size < w1.heap.size := by have := hb1.size; simp at this; omega
      clear hb1
      go_wp2
      go_ret
      exact ⟨by rw [G.out]; simp, (HB.out.alloc HB.out.size _)⟩
theorem evB_not {k : Int} (h : ¬ (1 ≤ k ∧ k ≤ 8)) (p q : ByteArray) (a : Int) (t : ByteArray) : evB k p q a t = false := by
  unfold evB
  rw [lim_not h]
  rfl
theorem lim_le (k : Int) : (lim k).1 ≤ 30 ∧ (lim k).2.1 ≤ 30 ∧ (lim k).2.2.2.1 ≤ 30 := by
  unfold lim
  repeat' split
  all_goals decide
theorem evB_p {k : Int} {p : ByteArray} (h : ¬ p.size ≤ 30) (q : ByteArray) (a : Int) (t : ByteArray) : evB k p q a t = false := by
  unfold evB
  rw [decide_eq_false (p := (p.size : Int) ≤ (lim k).1) (by have := (lim_le k).1; omega)]
  simp
theorem evB_q {k : Int} {p q : ByteArray} (h : ¬ q.size ≤ 30) (a : Int) (t : ByteArray) : evB k p q a t = false := by
  unfold evB
  rw [decide_eq_false (p := (q.size : Int) ≤ (lim k).2.1) (by have := (lim_le k).2.1; omega)]
  simp
theorem evB_t {k : Int} {p q : ByteArray} {a : Int} {t : ByteArray} (h : ¬ t.size ≤ 30) : evB k p q a t = false := by
  unfold evB
  rw [decide_eq_false (p := (t.size : Int) ≤ (lim k).2.2.2.1) (by have := (lim_le k).2.2; omega)]
  simp
theorem nil_of {p : ByteArray} (h : p.size = 0) : p = ⟨#[]⟩ := ByteArray.size_eq_zero_iff.1 h
theorem not_nil {p : ByteArray} (h : ¬ p.size = 0) : ¬ p.toList = [] ∧ p.toList.isEmpty = false := by
  have e : ¬ p.toList = [] := fun e => h (by have := congrArg List.length e; rw [ByteArray.toList_eq] at this; simpa using this)
  exact ⟨e, by simpa using e⟩
theorem specEv_any (k : Int) (p q : ByteArray) (a : Int) (t : ByteArray) (w : World) (hp : p.size ≤ 1048576) (hq : q.size ≤ 1048576) (ht : t.size ≤ 1048576) : Calls Tryd.prog 12 #[evV k p q a t] w fun e w' => e = .returned (.bool (evB k p q a t)) ∧ Below w.heap.size w w' := by
  have HI := hide (in_any k 1 8)
  have HJ := hide (in_any a)
  by_cases hk : 1 ≤ k ∧ k ≤ 8
  · rw [decide_eq_true hk] at HI
    by_cases g0 : p.size ≤ 30
    rotate_left
    · have G := hide (evB_p (k := k) g0 q a t)
      go_enter Tryd.func12, Tryd.ntmps12
      go_wp2_with fail
      refine (HI.out _).mono ?_
      rintro e w1 ⟨rfl, rfl⟩
      go_wp2
      go_ret
      exact ⟨by rw [G.out]; rfl, by go_grown⟩
    by_cases g1 : q.size ≤ 30
    rotate_left
    · have G := hide (evB_q (k := k) (p := p) g1 a t)
      go_enter Tryd.func12, Tryd.ntmps12
      go_wp2_with fail
      refine (HI.out _).mono ?_
      rintro e w1 ⟨rfl, rfl⟩
      go_wp2
      go_ret
      exact ⟨by rw [G.out]; rfl, by go_grown⟩
    by_cases g2 : t.size ≤ 30
    rotate_left
    · have G := hide (evB_t (k := k) (p := p) (q := q) (a := a) g2)
      go_enter Tryd.func12, Tryd.ntmps12
      go_wp2_with fail
      refine (HI.out _).mono ?_
      rintro e w1 ⟨rfl, rfl⟩
      go_wp2
      go_ret
      exact ⟨by rw [G.out]; rfl, by go_grown⟩
    rcases lim_in hk.1 hk.2 with rfl | rfl | rfl | rfl | rfl | rfl | rfl | rfl
    · skip
      by_cases zq : q.size = 0
      rotate_left
      · obtain ⟨nq, mq⟩ := not_nil zq
        have G : Hid (evB 1 p q a t = false) := hide (by show (true && decide ((p.size : Int) ≤ 30) && decide ((q.size : Int) ≤ 0) && decide (0 ≤ a) && decide (a ≤ 0) && decide ((t.size : Int) ≤ 0)) = false; rw [decide_eq_false (p := (q.size : Int) ≤ 0) (by omega)]; simp)
        go_enter Tryd.func12, Tryd.ntmps12
        go_wp2_with fail
        refine (HI.out _).mono ?_
        rintro e w1 ⟨rfl, rfl⟩
        go_wp2
        go_ret
        exact ⟨by rw [G.out]; rfl, by go_grown⟩
      have nq := nil_of zq
      by_cases zt : t.size = 0
      rotate_left
      · obtain ⟨nt, mt⟩ := not_nil zt
        have G : Hid (evB 1 p q a t = false) := hide (by show (true && decide ((p.size : Int) ≤ 30) && decide ((q.size : Int) ≤ 0) && decide (0 ≤ a) && decide (a ≤ 0) && decide ((t.size : Int) ≤ 0)) = false; rw [decide_eq_false (p := (t.size : Int) ≤ 0) (by omega)]; simp)
        subst nq
        go_enter Tryd.func12, Tryd.ntmps12
        go_wp2_with fail
        refine (HI.out _).mono ?_
        rintro e w1 ⟨rfl, rfl⟩
        go_wp2
        go_ret
        exact ⟨by rw [G.out]; rfl, by go_grown⟩
      have nt := nil_of zt
      have G : Hid (evB 1 p q a t = (a == 0)) := hide (by show (true && decide ((p.size : Int) ≤ 30) && decide ((q.size : Int) ≤ 0) && decide (0 ≤ a) && decide (a ≤ 0) && decide ((t.size : Int) ≤ 0)) = (a == 0); rw [decide_eq_true (p := (p.size : Int) ≤ 30) (by omega)]; rw [decide_eq_true (p := (q.size : Int) ≤ 0) (by omega)]; rw [decide_eq_true (p := (t.size : Int) ≤ 0) (by omega)]; rw [Bool.eq_iff_iff]; simp; omega)
      subst nq
      subst nt
      go_enter Tryd.func12, Tryd.ntmps12
      go_wp2_with fail
      refine (HI.out _).mono ?_
      rintro e w1 ⟨rfl, rfl⟩
      go_wp2
      go_ret
      exact ⟨by rw [G.out]; rfl, by go_grown⟩
    · skip
      by_cases zq : q.size = 0
      rotate_left
      · obtain ⟨nq, mq⟩ := not_nil zq
        have G : Hid (evB 2 p q a t = false) := hide (by show (true && decide ((p.size : Int) ≤ 30) && decide ((q.size : Int) ≤ 0) && decide (0 ≤ a) && decide (a ≤ 0) && decide ((t.size : Int) ≤ 0)) = false; rw [decide_eq_false (p := (q.size : Int) ≤ 0) (by omega)]; simp)
        go_enter Tryd.func12, Tryd.ntmps12
        go_wp2_with fail
        refine (HI.out _).mono ?_
        rintro e w1 ⟨rfl, rfl⟩
        go_wp2
        go_ret
        exact ⟨by rw [G.out]; rfl, by go_grown⟩
      have nq := nil_of zq
      by_cases zt : t.size = 0
      rotate_left
      · obtain ⟨nt, mt⟩ := not_nil zt
        have G : Hid (evB 2 p q a t = false) := hide (by show (true && decide ((p.size : Int) ≤ 30) && decide ((q.size : Int) ≤ 0) && decide (0 ≤ a) && decide (a ≤ 0) && decide ((t.size : Int) ≤ 0)) = false; rw [decide_eq_false (p := (t.size : Int) ≤ 0) (by omega)]; simp)
        subst nq
        go_enter Tryd.func12, Tryd.ntmps12
        go_wp2_with fail
        refine (HI.out _).mono ?_
        rintro e w1 ⟨rfl, rfl⟩
        go_wp2
        go_ret
        exact ⟨by rw [G.out]; rfl, by go_grown⟩
      have nt := nil_of zt
      have G : Hid (evB 2 p q a t = (a == 0)) := hide (by show (true && decide ((p.size : Int) ≤ 30) && decide ((q.size : Int) ≤ 0) && decide (0 ≤ a) && decide (a ≤ 0) && decide ((t.size : Int) ≤ 0)) = (a == 0); rw [decide_eq_true (p := (p.size : Int) ≤ 30) (by omega)]; rw [decide_eq_true (p := (q.size : Int) ≤ 0) (by omega)]; rw [decide_eq_true (p := (t.size : Int) ≤ 0) (by omega)]; rw [Bool.eq_iff_iff]; simp; omega)
      subst nq
      subst nt
      go_enter Tryd.func12, Tryd.ntmps12
      go_wp2_with fail
      refine (HI.out _).mono ?_
      rintro e w1 ⟨rfl, rfl⟩
      go_wp2
      go_ret
      exact ⟨by rw [G.out]; rfl, by go_grown⟩
    · skip
      by_cases zq : q.size = 0
      rotate_left
      · obtain ⟨nq, mq⟩ := not_nil zq
        have G : Hid (evB 3 p q a t = false) := hide (by show (true && decide ((p.size : Int) ≤ 30) && decide ((q.size : Int) ≤ 0) && decide (0 ≤ a) && decide (a ≤ 9) && decide ((t.size : Int) ≤ 30)) = false; rw [decide_eq_false (p := (q.size : Int) ≤ 0) (by omega)]; simp)
        go_enter Tryd.func12, Tryd.ntmps12
        go_wp2_with fail
        refine (HI.out _).mono ?_
        rintro e w1 ⟨rfl, rfl⟩
        go_wp2
        go_ret
        exact ⟨by rw [G.out]; rfl, by go_grown⟩
      have nq := nil_of zq
      have G : Hid (evB 3 p q a t = (decide (0 ≤ a) && decide (a ≤ 9))) := hide (by show (true && decide ((p.size : Int) ≤ 30) && decide ((q.size : Int) ≤ 0) && decide (0 ≤ a) && decide (a ≤ 9) && decide ((t.size : Int) ≤ 30)) = (decide (0 ≤ a) && decide (a ≤ 9)); rw [decide_eq_true (p := (p.size : Int) ≤ 30) (by omega)]; rw [decide_eq_true (p := (q.size : Int) ≤ 0) (by omega)]; rw [decide_eq_true (p := (t.size : Int) ≤ 30) (by omega)]; simp)
      subst nq
      go_enter Tryd.func12, Tryd.ntmps12
      go_wp2_with fail
      refine (HI.out _).mono ?_
      rintro e w1 ⟨rfl, rfl⟩
      go_wp2_with fail
      refine (HJ.out 0 9 _).mono ?_
      rintro e w1 ⟨rfl, rfl⟩
      go_wp2
      go_ret
      exact ⟨by rw [G.out]; rfl, by go_grown⟩
    · skip
      by_cases zq : q.size = 0
      rotate_left
      · obtain ⟨nq, mq⟩ := not_nil zq
        have G : Hid (evB 4 p q a t = false) := hide (by show (true && decide ((p.size : Int) ≤ 30) && decide ((q.size : Int) ≤ 0) && decide (0 ≤ a) && decide (a ≤ 0) && decide ((t.size : Int) ≤ 0)) = false; rw [decide_eq_false (p := (q.size : Int) ≤ 0) (by omega)]; simp)
        go_enter Tryd.func12, Tryd.ntmps12
        go_wp2_with fail
        refine (HI.out _).mono ?_
        rintro e w1 ⟨rfl, rfl⟩
        go_wp2
        go_ret
        exact ⟨by rw [G.out]; rfl, by go_grown⟩
      have nq := nil_of zq
      by_cases zt : t.size = 0
      rotate_left
      · obtain ⟨nt, mt⟩ := not_nil zt
        have G : Hid (evB 4 p q a t = false) := hide (by show (true && decide ((p.size : Int) ≤ 30) && decide ((q.size : Int) ≤ 0) && decide (0 ≤ a) && decide (a ≤ 0) && decide ((t.size : Int) ≤ 0)) = false; rw [decide_eq_false (p := (t.size : Int) ≤ 0) (by omega)]; simp)
        subst nq
        go_enter Tryd.func12, Tryd.ntmps12
        go_wp2_with fail
        refine (HI.out _).mono ?_
        rintro e w1 ⟨rfl, rfl⟩
        go_wp2
        go_ret
        exact ⟨by rw [G.out]; rfl, by go_grown⟩
      have nt := nil_of zt
      have G : Hid (evB 4 p q a t = (a == 0)) := hide (by show (true && decide ((p.size : Int) ≤ 30) && decide ((q.size : Int) ≤ 0) && decide (0 ≤ a) && decide (a ≤ 0) && decide ((t.size : Int) ≤ 0)) = (a == 0); rw [decide_eq_true (p := (p.size : Int) ≤ 30) (by omega)]; rw [decide_eq_true (p := (q.size : Int) ≤ 0) (by omega)]; rw [decide_eq_true (p := (t.size : Int) ≤ 0) (by omega)]; rw [Bool.eq_iff_iff]; simp; omega)
      subst nq
      subst nt
      go_enter Tryd.func12, Tryd.ntmps12
      go_wp2_with fail
      refine (HI.out _).mono ?_
      rintro e w1 ⟨rfl, rfl⟩
      go_wp2
      go_ret
      exact ⟨by rw [G.out]; rfl, by go_grown⟩
    · skip
      by_cases zt : t.size = 0
      rotate_left
      · obtain ⟨nt, mt⟩ := not_nil zt
        have G : Hid (evB 5 p q a t = false) := hide (by show (true && decide ((p.size : Int) ≤ 30) && decide ((q.size : Int) ≤ 30) && decide (0 ≤ a) && decide (a ≤ 0) && decide ((t.size : Int) ≤ 0)) = false; rw [decide_eq_false (p := (t.size : Int) ≤ 0) (by omega)]; simp)
        go_enter Tryd.func12, Tryd.ntmps12
        go_wp2_with fail
        refine (HI.out _).mono ?_
        rintro e w1 ⟨rfl, rfl⟩
        go_wp2
        go_ret
        exact ⟨by rw [G.out]; rfl, by go_grown⟩
      have nt := nil_of zt
      have G : Hid (evB 5 p q a t = (a == 0)) := hide (by show (true && decide ((p.size : Int) ≤ 30) && decide ((q.size : Int) ≤ 30) && decide (0 ≤ a) && decide (a ≤ 0) && decide ((t.size : Int) ≤ 0)) = (a == 0); rw [decide_eq_true (p := (p.size : Int) ≤ 30) (by omega)]; rw [decide_eq_true (p := (q.size : Int) ≤ 30) (by omega)]; rw [decide_eq_true (p := (t.size : Int) ≤ 0) (by omega)]; rw [Bool.eq_iff_iff]; simp; omega)
      subst nt
      go_enter Tryd.func12, Tryd.ntmps12
      go_wp2_with fail
      refine (HI.out _).mono ?_
      rintro e w1 ⟨rfl, rfl⟩
      go_wp2
      go_ret
      exact ⟨by rw [G.out]; rfl, by go_grown⟩
    · skip
      by_cases zp : p.size = 0
      rotate_left
      · obtain ⟨np, mp⟩ := not_nil zp
        have G : Hid (evB 6 p q a t = false) := hide (by show (true && decide ((p.size : Int) ≤ 0) && decide ((q.size : Int) ≤ 0) && decide (0 ≤ a) && decide (a ≤ 20) && decide ((t.size : Int) ≤ 0)) = false; rw [decide_eq_false (p := (p.size : Int) ≤ 0) (by omega)]; simp)
        go_enter Tryd.func12, Tryd.ntmps12
        go_wp2_with fail
        refine (HI.out _).mono ?_
        rintro e w1 ⟨rfl, rfl⟩
        go_wp2
        go_ret
        exact ⟨by rw [G.out]; rfl, by go_grown⟩
      have np := nil_of zp
      by_cases zq : q.size = 0
      rotate_left
      · obtain ⟨nq, mq⟩ := not_nil zq
        have G : Hid (evB 6 p q a t = false) := hide (by show (true && decide ((p.size : Int) ≤ 0) && decide ((q.size : Int) ≤ 0) && decide (0 ≤ a) && decide (a ≤ 20) && decide ((t.size : Int) ≤ 0)) = false; rw [decide_eq_false (p := (q.size : Int) ≤ 0) (by omega)]; simp)
        subst np
        go_enter Tryd.func12, Tryd.ntmps12
        go_wp2_with fail
        refine (HI.out _).mono ?_
        rintro e w1 ⟨rfl, rfl⟩
        go_wp2
        go_ret
        exact ⟨by rw [G.out]; rfl, by go_grown⟩
      have nq := nil_of zq
      by_cases zt : t.size = 0
      rotate_left
      · obtain ⟨nt, mt⟩ := not_nil zt
        have G : Hid (evB 6 p q a t = false) := hide (by show (true && decide ((p.size : Int) ≤ 0) && decide ((q.size : Int) ≤ 0) && decide (0 ≤ a) && decide (a ≤ 20) && decide ((t.size : Int) ≤ 0)) = false; rw [decide_eq_false (p := (t.size : Int) ≤ 0) (by omega)]; simp)
        subst np
        subst nq
        go_enter Tryd.func12, Tryd.ntmps12
        go_wp2_with fail
        refine (HI.out _).mono ?_
        rintro e w1 ⟨rfl, rfl⟩
        go_wp2
        go_ret
        exact ⟨by rw [G.out]; rfl, by go_grown⟩
      have nt := nil_of zt
      have G : Hid (evB 6 p q a t = (decide (0 ≤ a) && decide (a ≤ 20))) := hide (by show (true && decide ((p.size : Int) ≤ 0) && decide ((q.size : Int) ≤ 0) && decide (0 ≤ a) && decide (a ≤ 20) && decide ((t.size : Int) ≤ 0)) = (decide (0 ≤ a) && decide (a ≤ 20)); rw [decide_eq_true (p := (p.size : Int) ≤ 0) (by omega)]; rw [decide_eq_true (p := (q.size : Int) ≤ 0) (by omega)]; rw [decide_eq_true (p := (t.size : Int) ≤ 0) (by omega)]; simp)
      subst np
      subst nq
      subst nt
      go_enter Tryd.func12, Tryd.ntmps12
      go_wp2_with fail
      refine (HI.out _).mono ?_
      rintro e w1 ⟨rfl, rfl⟩
      go_wp2_with fail
      refine (HJ.out 0 20 _).mono ?_
      rintro e w1 ⟨rfl, rfl⟩
      go_wp2
      go_ret
      exact ⟨by rw [G.out]; rfl, by go_grown⟩
    · skip
      by_cases zp : p.size = 0
      rotate_left
      · obtain ⟨np, mp⟩ := not_nil zp
        have G : Hid (evB 7 p q a t = false) := hide (by show (true && decide ((p.size : Int) ≤ 0) && decide ((q.size : Int) ≤ 0) && decide (0 ≤ a) && decide (a ≤ 0) && decide ((t.size : Int) ≤ 0)) = false; rw [decide_eq_false (p := (p.size : Int) ≤ 0) (by omega)]; simp)
        go_enter Tryd.func12, Tryd.ntmps12
        go_wp2_with fail
        refine (HI.out _).mono ?_
        rintro e w1 ⟨rfl, rfl⟩
        go_wp2
        go_ret
        exact ⟨by rw [G.out]; rfl, by go_grown⟩
      have np := nil_of zp
      by_cases zq : q.size = 0
      rotate_left
      · obtain ⟨nq, mq⟩ := not_nil zq
        have G : Hid (evB 7 p q a t = false) := hide (by show (true && decide ((p.size : Int) ≤ 0) && decide ((q.size : Int) ≤ 0) && decide (0 ≤ a) && decide (a ≤ 0) && decide ((t.size : Int) ≤ 0)) = false; rw [decide_eq_false (p := (q.size : Int) ≤ 0) (by omega)]; simp)
        subst np
        go_enter Tryd.func12, Tryd.ntmps12
        go_wp2_with fail
        refine (HI.out _).mono ?_
        rintro e w1 ⟨rfl, rfl⟩
        go_wp2
        go_ret
        exact ⟨by rw [G.out]; rfl, by go_grown⟩
      have nq := nil_of zq
      by_cases zt : t.size = 0
      rotate_left
      · obtain ⟨nt, mt⟩ := not_nil zt
        have G : Hid (evB 7 p q a t = false) := hide (by show (true && decide ((p.size : Int) ≤ 0) && decide ((q.size : Int) ≤ 0) && decide (0 ≤ a) && decide (a ≤ 0) && decide ((t.size : Int) ≤ 0)) = false; rw [decide_eq_false (p := (t.size : Int) ≤ 0) (by omega)]; simp)
        subst np
        subst nq
        go_enter Tryd.func12, Tryd.ntmps12
        go_wp2_with fail
        refine (HI.out _).mono ?_
        rintro e w1 ⟨rfl, rfl⟩
        go_wp2
        go_ret
        exact ⟨by rw [G.out]; rfl, by go_grown⟩
      have nt := nil_of zt
      have G : Hid (evB 7 p q a t = (a == 0)) := hide (by show (true && decide ((p.size : Int) ≤ 0) && decide ((q.size : Int) ≤ 0) && decide (0 ≤ a) && decide (a ≤ 0) && decide ((t.size : Int) ≤ 0)) = (a == 0); rw [decide_eq_true (p := (p.size : Int) ≤ 0) (by omega)]; rw [decide_eq_true (p := (q.size : Int) ≤ 0) (by omega)]; rw [decide_eq_true (p := (t.size : Int) ≤ 0) (by omega)]; rw [Bool.eq_iff_iff]; simp; omega)
      subst np
      subst nq
      subst nt
      go_enter Tryd.func12, Tryd.ntmps12
      go_wp2_with fail
      refine (HI.out _).mono ?_
      rintro e w1 ⟨rfl, rfl⟩
      go_wp2
      go_ret
      exact ⟨by rw [G.out]; rfl, by go_grown⟩
    · skip
      by_cases zp : p.size = 0
      rotate_left
      · obtain ⟨np, mp⟩ := not_nil zp
        have G : Hid (evB 8 p q a t = false) := hide (by show (true && decide ((p.size : Int) ≤ 0) && decide ((q.size : Int) ≤ 0) && decide (0 ≤ a) && decide (a ≤ 0) && decide ((t.size : Int) ≤ 0)) = false; rw [decide_eq_false (p := (p.size : Int) ≤ 0) (by omega)]; simp)
        go_enter Tryd.func12, Tryd.ntmps12
        go_wp2_with fail
        refine (HI.out _).mono ?_
        rintro e w1 ⟨rfl, rfl⟩
        go_wp2
        go_ret
        exact ⟨by rw [G.out]; rfl, by go_grown⟩
      have np := nil_of zp
      by_cases zq : q.size = 0
      rotate_left
      · obtain ⟨nq, mq⟩ := not_nil zq
        have G : Hid (evB 8 p q a t = false) := hide (by show (true && decide ((p.size : Int) ≤ 0) && decide ((q.size : Int) ≤ 0) && decide (0 ≤ a) && decide (a ≤ 0) && decide ((t.size : Int) ≤ 0)) = false; rw [decide_eq_false (p := (q.size : Int) ≤ 0) (by omega)]; simp)
        subst np
        go_enter Tryd.func12, Tryd.ntmps12
        go_wp2_with fail
        refine (HI.out _).mono ?_
        rintro e w1 ⟨rfl, rfl⟩
        go_wp2
        go_ret
        exact ⟨by rw [G.out]; rfl, by go_grown⟩
      have nq := nil_of zq
      by_cases zt : t.size = 0
      rotate_left
      · obtain ⟨nt, mt⟩ := not_nil zt
        have G : Hid (evB 8 p q a t = false) := hide (by show (true && decide ((p.size : Int) ≤ 0) && decide ((q.size : Int) ≤ 0) && decide (0 ≤ a) && decide (a ≤ 0) && decide ((t.size : Int) ≤ 0)) = false; rw [decide_eq_false (p := (t.size : Int) ≤ 0) (by omega)]; simp)
        subst np
        subst nq
        go_enter Tryd.func12, Tryd.ntmps12
        go_wp2_with fail
        refine (HI.out _).mono ?_
        rintro e w1 ⟨rfl, rfl⟩
        go_wp2
        go_ret
        exact ⟨by rw [G.out]; rfl, by go_grown⟩
      have nt := nil_of zt
      have G : Hid (evB 8 p q a t = (a == 0)) := hide (by show (true && decide ((p.size : Int) ≤ 0) && decide ((q.size : Int) ≤ 0) && decide (0 ≤ a) && decide (a ≤ 0) && decide ((t.size : Int) ≤ 0)) = (a == 0); rw [decide_eq_true (p := (p.size : Int) ≤ 0) (by omega)]; rw [decide_eq_true (p := (q.size : Int) ≤ 0) (by omega)]; rw [decide_eq_true (p := (t.size : Int) ≤ 0) (by omega)]; rw [Bool.eq_iff_iff]; simp; omega)
      subst np
      subst nq
      subst nt
      go_enter Tryd.func12, Tryd.ntmps12
      go_wp2_with fail
      refine (HI.out _).mono ?_
      rintro e w1 ⟨rfl, rfl⟩
      go_wp2
      go_ret
      exact ⟨by rw [G.out]; rfl, by go_grown⟩
  · rw [decide_eq_false hk] at HI
    have G := hide (evB_not hk p q a t)
    go_enter Tryd.func12, Tryd.ntmps12
    go_wp2_with fail
    refine (HI.out _).mono ?_
    rintro e w1 ⟨rfl, rfl⟩
    go_wp2
    go_ret
    exact ⟨by rw [G.out]; rfl, by go_grown⟩
end Go.Proofs.YthfiaihbpnlbjaaDoor
