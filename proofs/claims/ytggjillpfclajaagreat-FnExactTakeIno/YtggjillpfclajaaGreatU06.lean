/- Texts of the proof, bundled: Ga, Mr, Rg, Shelf, Cp. -/
import Derived.Deep.Upon
import Derived.RegionTactic
import Derived.Deep.RegionHeld
import Derived.Shelf.Small.Bits
import Derived.Shelf.Strconv.Itoa0
import Derived.Shelf.LaysM
import Derived.Shelf.Strconv.Clone
import Derived.Ground.Names2Prog
import Derived.Shelf.Slices.SearchI
import Derived.Test.YtggjillpfclajaaGreatProg
import Derived.Test.YtggjillpfclajaaGreatU05
import Derived.Test.YtggjillpfclajaaGreatU01
import Derived.Test.YtggjillpfclajaaGreatU04
/- append of a whole list to none: a copy in memory of its own. No Go function is spoken of. -/
namespace Go.Proofs.YtggjillpfclajaaGreat.Kit
open Go.RowKit
/-- The slice value v of n members reads as the cells cs. -/
def RC (w : World) (v : Value) (n : Nat) (cs : List Value) : Prop := ∃ a cap, v = .slice a n cap ∧ ∀ (j : Nat) (u : Value), cs[j]? = some u → ∃ g off, a = some ⟨g, off, none⟩ ∧ w.cell? ⟨g, off + j, none⟩ = some u
theorem run_append_copy {P : Program} (w : World) (t ty : TypeId) (base : Nat) (e : TypeId) (ht : P.underlying t = some (.slice e)) (z : Value) (m bytes : Nat)
    (hi : (P.info? e).map (fun i => (i.zero, i.size, i.bytes)) = some (some z, m, bytes)) (hzc : z.cells.size = m) (hm0 : 0 < m) (hby : bytes ≤ 640) (v : Value) (hown : w.ownsRow base e m v 0 [])
    (hbase : base ≤ w.heap.size) (x : Value) (n : Nat) (cs : List Value) (hx : RC w x n cs) (hcl : cs.length = n * m) (h1 : ∀ u ∈ cs, u.oneCell' = true) (hl : n ≤ 100000000000) :
    ∃ v' w', (Builtin.append_ #[t, t] ty #[v, x]).run P w = .ok v' w' ∧ w'.ownsRow base e m v' n cs ∧ w.grownBy w' v.ownBlock ∧ (v'.ownBlock = v.ownBlock ∨ v'.ownBlock = some w.heap.size) := by
  obtain ⟨i0, hi, hz0, hz1, hz2⟩ := info_parts hi
  obtain ⟨a, c, rfl, hc⟩ := hx
  cases a with
  | none =>
    have hx0 : cs = [] := by
      cases cs with
      | nil => rfl
      | cons y r => obtain ⟨_, _, h, _⟩ := hc 0 y (by simp); cases h
    subst hx0
    have hn : n = 0 := by
      rcases Nat.eq_zero_or_pos n with h | h
      · exact h
      · have := Nat.mul_pos h hm0; simp at hcl; omega
    subst hn
    obtain ⟨av, cv, rfl⟩ : ∃ av cv, v = .slice av 0 cv := by
      rcases hown.2 with ⟨h1, h0⟩ | ⟨g, cap, cur, h1, -, -, h4, -⟩
      · exact ⟨_, _, h1⟩
      · exact ⟨_, _, h1⟩
    have hr := run_append_nothing (P := P) w t t ty e i0 ht hi av 0 cv (Nat.zero_le _) (.slice none 0 c) (Src.ofNil w ht c)
    exact ⟨_, w, hr, hown, grownBy_below (Below.refl _ _) _, .inl rfl⟩
  | some ad =>
    have h63 : (0 + n) * bytes ≤ 100000000000 * 640 := Nat.mul_le_mul (by omega) hby
    obtain ⟨v', w', hr, h2, h3, _, h5⟩ := run_append_own_at (P := P) w base t ty e i0 z m bytes ht hi hz0 hz1 hz2 hzc hm0 v 0 [] hown ad n c cs hcl
      (fun j u hj => by
        obtain ⟨g, off, e1, h4⟩ := hc j u hj
        cases e1
        have ha : (⟨g, off, none⟩ : Addr).add j = ⟨g, off + j, none⟩ := by cases j <;> simp [Addr.add]
        rw [ha, h4]) h1 (by unfold maxLen; omega) (by omega) hbase
    refine ⟨v', w', hr, ?_, h3, h5⟩
    rw [Nat.zero_add, List.nil_append] at h2
    exact h2
theorem wp_append_copy {P : Program} (w : World) {o : Oper} {a : Act} {K : Act → World → Prop} {Q : Exit → Act → World → Prop} (s x : Operand) (t : TypeId)
    (ho : o.op = .call { callee := .builtin .append, args := #[s, x], argTypes := #[t, t] }) (base : Nat) (e : TypeId) (ht : P.underlying t = some (.slice e)) (z : Value) (m bytes : Nat)
    (hi : (P.info? e).map (fun i => (i.zero, i.size, i.bytes)) = some (some z, m, bytes)) (hzc : z.cells.size = m) (hm0 : 0 < m) (hby : bytes ≤ 640) (v : Value) (hs : a.eval s = v) (hown : w.ownsRow base e m v 0 [])
    (hbase : base ≤ w.heap.size) (u : Value) (hu : a.eval x = u) (n : Nat) (cs : List Value) (hx : RC w u n cs) (hcl : cs.length = n * m) (h1 : ∀ u ∈ cs, u.oneCell' = true) (hl : n ≤ 100000000000)
    (h : ∀ v' w', w'.ownsRow base e m v' n cs → w.grownBy w' v.ownBlock → (v'.ownBlock = v.ownBlock ∨ v'.ownBlock = some w.heap.size) → K (a.put o.dst v') w') : o.wp P a w K Q := by
  obtain ⟨v', w', hr, h2, h3, h4⟩ := run_append_copy (P := P) w t o.type base e ht z m bytes hi hzc hm0 hby v hown hbase u n cs hx hcl h1 hl
  unfold Oper.wp execOp
  simp only [ho, resolve, invoke, builtin, Sem.run_bind, Sem.run_pure, Result.andThen_ok, List.map_toArray, List.map_cons, List.map_nil, hs, hu, hr]
  exact h v' w' h2 h3 h4
theorem wpList_append_copy {P : Program} (w : World) {ops : Array Oper} {rest : List Oper} {o : Oper} {a : Act} {Q : Exit → Act → World → Prop} (hgd : o.guard = none) (s x : Operand) (t : TypeId)
    (ho : o.op = .call { callee := .builtin .append, args := #[s, x], argTypes := #[t, t] }) (base : Nat) (e : TypeId) (ht : P.underlying t = some (.slice e)) (z : Value) (m bytes : Nat)
    (hi : (P.info? e).map (fun i => (i.zero, i.size, i.bytes)) = some (some z, m, bytes)) (hzc : z.cells.size = m) (hm0 : 0 < m) (hby : bytes ≤ 640) (v : Value) (hs : a.eval s = v) (hown : w.ownsRow base e m v 0 [])
    (hbase : base ≤ w.heap.size) (u : Value) (hu : a.eval x = u) (n : Nat) (cs : List Value) (hx : RC w u n cs) (hcl : cs.length = n * m) (h1 : ∀ u ∈ cs, u.oneCell' = true) (hl : n ≤ 100000000000)
    (h : ∀ v' w', w'.ownsRow base e m v' n cs → w.grownBy w' v.ownBlock → (v'.ownBlock = v.ownBlock ∨ v'.ownBlock = some w.heap.size) → wpList P ops Q rest (a.put o.dst v') w') : wpList P ops Q (o :: rest) a w :=
  wpList_plain hgd fun _ hK => wp_append_copy w s x t ho base e ht z m bytes hi hzc hm0 hby v hs hown hbase u hu n cs hx hcl h1 hl fun v' w' a b c => hK _ _ (h v' w' a b c)
theorem step_append_copy {P : Program} (w : World) {ops : Array Oper} {o : Oper} {a : Act} {K : Act → World → Prop} {Q : Exit → Act → World → Prop} {E : Prop} (hgd : o.guard = none) (s x : Operand) (t : TypeId)
    (ho : o.op = .call { callee := .builtin .append, args := #[s, x], argTypes := #[t, t] }) (base : Nat) (e : TypeId) (ht : P.underlying t = some (.slice e)) (z : Value) (m bytes : Nat)
    (hi : (P.info? e).map (fun i => (i.zero, i.size, i.bytes)) = some (some z, m, bytes)) (hzc : z.cells.size = m) (hm0 : 0 < m) (hby : bytes ≤ 640) (v : Value) (hs : a.eval s = v) (hown : w.ownsRow base e m v 0 [])
    (hbase : base ≤ w.heap.size) (u : Value) (hu : a.eval x = u) (n : Nat) (cs : List Value) (hx : RC w u n cs) (hcl : cs.length = n * m) (h1 : ∀ u ∈ cs, u.oneCell' = true) (hl : n ≤ 100000000000)
    (h : ∀ v' w', w'.ownsRow base e m v' n cs → w.grownBy w' v.ownBlock → (v'.ownBlock = v.ownBlock ∨ v'.ownBlock = some w.heap.size) → K (a.put o.dst v') w') :
    if Region.wanted o (yielded ops a.tmps) = true then Oper.wp P o a w K Q else E := by
  rw [if_pos (by simp [Region.wanted, hgd])]
  exact wp_append_copy w s x t ho base e ht z m bytes hi hzc hm0 hby v hs hown hbase u hu n cs hx hcl h1 hl h
/-- To a list without any room nothing is written: only new blocks come. -/
theorem run_append_copy0 {P : Program} (w : World) (t ty : TypeId) (base : Nat) (e : TypeId) (ht : P.underlying t = some (.slice e)) (z : Value) (m bytes : Nat)
    (hi : (P.info? e).map (fun i => (i.zero, i.size, i.bytes)) = some (some z, m, bytes)) (hzc : z.cells.size = m) (hm0 : 0 < m) (hby : bytes ≤ 640) (ao : Option Addr) (hown : w.ownsRow base e m (.slice ao 0 0) 0 [])
    (hbase : base ≤ w.heap.size) (x : Value) (n : Nat) (cs : List Value) (hx : RC w x n cs) (hcl : cs.length = n * m) (h1 : ∀ u ∈ cs, u.oneCell' = true) (hl : n ≤ 100000000000) :
    ∃ v' w', (Builtin.append_ #[t, t] ty #[.slice ao 0 0, x]).run P w = .ok v' w' ∧ w'.ownsRow base e m v' n cs ∧ Below w.heap.size w w' ∧ (v'.ownBlock = (Value.slice ao 0 0).ownBlock ∨ v'.ownBlock = some w.heap.size) := by
  obtain ⟨v', w', hr, h2, h3, h4⟩ := run_append_copy (P := P) w t ty base e ht z m bytes hi hzc hm0 hby _ hown hbase x n cs hx hcl h1 hl
  refine ⟨v', w', hr, h2, ?_, h4⟩
  obtain ⟨i0, hi0, hz0, hz1, hz2⟩ := info_parts hi
  obtain ⟨a, c, rfl, hc⟩ := hx
  have same : w' = w → Below w.heap.size w w' := fun e => e ▸ Below.refl _ _
  cases a with
  | none =>
    have hx0 : cs = [] := by
      cases cs with
      | nil => rfl
      | cons y r => obtain ⟨_, _, h, _⟩ := hc 0 y (by simp); cases h
    subst hx0
    have hn : n = 0 := by
      rcases Nat.eq_zero_or_pos n with h | h
      · exact h
      · have := Nat.mul_pos h hm0; simp at hcl; omega
    subst hn
    have hr2 := run_append_nothing (P := P) w t t ty e i0 ht hi0 ao 0 0 (Nat.zero_le _) (.slice none 0 c) (Src.ofNil w ht c)
    rw [hr2] at hr
    simp only [Result.ok.injEq] at hr
    exact same hr.2.symm
  | some ad =>
    have hnews : ∀ j u, cs[j]? = some u → w.cell? (ad.add j) = some u := fun j u hj => by
      obtain ⟨g, off, e1, h4⟩ := hc j u hj
      cases e1
      have ha : (⟨g, off, none⟩ : Addr).add j = ⟨g, off + j, none⟩ := by cases j <;> simp [Addr.add]
      rw [ha, h4]
    subst hz1
    by_cases hn : n = 0
    · subst hn
      have hx0 : cs = [] := List.eq_nil_of_length_eq_zero (by simpa using hcl)
      subst hx0
      have hs : Src P i0.size t (.slice (some ad) 0 c) 0 [] w := Src.ofSlice w ht ad 0 c [] (by simp) (by simp) (by simp)
      have hr2 := run_append_nothing (P := P) w t t ty e i0 ht hi0 ao 0 0 (Nat.zero_le _) (.slice (some ad) 0 c) hs
      rw [hr2] at hr
      simp only [Result.ok.injEq] at hr
      exact same hr.2.symm
    · have hs : Src P i0.size t (.slice (some ad) n c) n cs w := Src.ofSlice w ht ad n c cs hcl hnews h1
      have h63 : (0 + n) * i0.bytes ≤ 100000000000 * 640 := Nat.mul_le_mul (by omega) (by rw [hz2]; exact hby)
      have hr2 := run_append_grow_src (P := P) w t t ty e i0 z ht hi0 hz0 ao 0 0 [] (by cases ao <;> simp [Builtin.firstCells, loadCells, loadCellsFrom]) (.slice (some ad) n c) n cs hs (by omega) (by omega) (growslice_fits (by omega) (by omega))
      rw [hr2] at hr
      simp only [Result.ok.injEq] at hr
      rw [← hr.2]
      exact (Below.refl _ w).drew.alloc (Nat.le_refl _) _
theorem wp_append_copy0 {P : Program} (w : World) {o : Oper} {a : Act} {K : Act → World → Prop} {Q : Exit → Act → World → Prop} (s x : Operand) (t : TypeId)
    (ho : o.op = .call { callee := .builtin .append, args := #[s, x], argTypes := #[t, t] }) (base : Nat) (e : TypeId) (ht : P.underlying t = some (.slice e)) (z : Value) (m bytes : Nat)
    (hi : (P.info? e).map (fun i => (i.zero, i.size, i.bytes)) = some (some z, m, bytes)) (hzc : z.cells.size = m) (hm0 : 0 < m) (hby : bytes ≤ 640) (ao : Option Addr) (hs : a.eval s = .slice ao 0 0) (hown : w.ownsRow base e m (.slice ao 0 0) 0 [])
    (hbase : base ≤ w.heap.size) (u : Value) (hu : a.eval x = u) (n : Nat) (cs : List Value) (hx : RC w u n cs) (hcl : cs.length = n * m) (h1 : ∀ u ∈ cs, u.oneCell' = true) (hl : n ≤ 100000000000)
    (h : ∀ v' w', w'.ownsRow base e m v' n cs → Below w.heap.size w w' → (v'.ownBlock = (Value.slice ao 0 0).ownBlock ∨ v'.ownBlock = some w.heap.size) → K (a.put o.dst v') w') : o.wp P a w K Q := by
  obtain ⟨v', w', hr, h2, h3, h4⟩ := run_append_copy0 (P := P) w t o.type base e ht z m bytes hi hzc hm0 hby ao hown hbase u n cs hx hcl h1 hl
  unfold Oper.wp execOp
  simp only [ho, resolve, invoke, builtin, Sem.run_bind, Sem.run_pure, Result.andThen_ok, List.map_toArray, List.map_cons, List.map_nil, hs, hu, hr]
  exact h v' w' h2 h3 h4
theorem step_append_copy0 {P : Program} (w : World) {ops : Array Oper} {o : Oper} {a : Act} {K : Act → World → Prop} {Q : Exit → Act → World → Prop} {E : Prop} (hgd : o.guard = none) (s x : Operand) (t : TypeId)
    (ho : o.op = .call { callee := .builtin .append, args := #[s, x], argTypes := #[t, t] }) (base : Nat) (e : TypeId) (ht : P.underlying t = some (.slice e)) (z : Value) (m bytes : Nat)
    (hi : (P.info? e).map (fun i => (i.zero, i.size, i.bytes)) = some (some z, m, bytes)) (hzc : z.cells.size = m) (hm0 : 0 < m) (hby : bytes ≤ 640) (ao : Option Addr) (hs : a.eval s = .slice ao 0 0) (hown : w.ownsRow base e m (.slice ao 0 0) 0 [])
    (hbase : base ≤ w.heap.size) (u : Value) (hu : a.eval x = u) (n : Nat) (cs : List Value) (hx : RC w u n cs) (hcl : cs.length = n * m) (h1 : ∀ u ∈ cs, u.oneCell' = true) (hl : n ≤ 100000000000)
    (h : ∀ v' w', w'.ownsRow base e m v' n cs → Below w.heap.size w w' → (v'.ownBlock = (Value.slice ao 0 0).ownBlock ∨ v'.ownBlock = some w.heap.size) → K (a.put o.dst v') w') :
    if Region.wanted o (yielded ops a.tmps) = true then Oper.wp P o a w K Q else E := by
  rw [if_pos (by simp [Region.wanted, hgd])]
  exact wp_append_copy0 w s x t ho base e ht z m bytes hi hzc hm0 hby ao hs hown hbase u hu n cs hx hcl h1 hl h
theorem RFl.rc {w : World} {v : Value} {xs : List Bool} (h : RFl w v xs) : RC w v xs.length (fc xs) := by
  obtain ⟨a, c, rfl, h⟩ := h
  refine ⟨a, c, rfl, fun j u hj => ?_⟩
  have hl : j < xs.length := by have := (List.getElem?_eq_some_iff.1 hj).1; rwa [fc_length] at this
  obtain ⟨g, off, e1, -, e2⟩ := h j hl
  have : u = .bool xs[j] := by simp [fc, hl] at hj; exact hj.symm
  exact ⟨g, off, e1, by rw [e2, this]⟩
theorem RInts.rc {w : World} {v : Value} {xs : List Int} (h : RInts w v xs) : RC w v xs.length (ic xs) := by
  obtain ⟨a, c, rfl, h⟩ := h
  refine ⟨a, c, rfl, fun j u hj => ?_⟩
  have hl : j < xs.length := by have := (List.getElem?_eq_some_iff.1 hj).1; rwa [ic_length] at this
  obtain ⟨g, off, e1, -, e2⟩ := h j hl
  have : u = .int .i64 xs[j] := by simp [ic, hl] at hj; exact hj.symm
  exact ⟨g, off, e1, by rw [e2, this]⟩
theorem RSl.rc {w : World} {v : Value} {xs : List Sl} (h : RSl w v xs) : RC w v xs.length (sc xs) := by
  obtain ⟨a, c, rfl, -, h⟩ := h
  refine ⟨a, c, rfl, fun j u hj => ?_⟩
  have hl : j < xs.length * 2 := by have := (List.getElem?_eq_some_iff.1 hj).1; rwa [sc_length] at this
  obtain ⟨q, hq⟩ : ∃ q, q = j / 2 := ⟨_, rfl⟩
  have hql : q < xs.length := by omega
  obtain ⟨g, off, e1, -, e2, e3⟩ := h q hql
  have hm : j % 2 = 0 ∨ j % 2 = 1 := by omega
  rcases hm with hm | hm
  · have hj2 : j = q * 2 := by omega
    rw [hj2, sc_name xs q hql] at hj
    exact ⟨g, off, e1, by rw [hj2, e2]; exact hj⟩
  · have hj2 : j = q * 2 + 1 := by omega
    rw [hj2, sc_ino xs q hql] at hj
    exact ⟨g, off, e1, by rw [hj2, ← Nat.add_assoc, e3]; exact hj⟩
theorem fc_one (xs : List Bool) : ∀ u ∈ fc xs, u.oneCell' = true := fun u hu => by simp only [fc, List.mem_map] at hu; obtain ⟨_, -, rfl⟩ := hu; rfl
theorem ic_one (xs : List Int) : ∀ u ∈ ic xs, u.oneCell' = true := fun u hu => by simp only [ic, List.mem_map] at hu; obtain ⟨_, -, rfl⟩ := hu; rfl
theorem sc_one (xs : List Sl) : ∀ u ∈ sc xs, u.oneCell' = true := by
  induction xs with
  | nil => intro u hu; cases hu
  | cons s r ih =>
    intro u hu
    simp only [sc, List.mem_cons] at hu
    rcases hu with rfl | rfl | hu
    · rfl
    · rfl
    · exact ih u hu
theorem RInts.drew {w : World} {v : Value} {xs : List Int} (h : RInts w v xs) : RInts w.drew v xs := h.below (Below.refl w.heap.size w).drew (Nat.le_refl _)
/-- Behind an append to what is new only new blocks have turned. -/
theorem below_of_append {B : Nat} {w0 w w' : World} {v : Value} (hb : Below B w0 w) (hB : B ≤ w.heap.size) (hg : w.grownBy w' v.ownBlock) (hv : ∀ k, v.ownBlock = some k → B ≤ k) : Below B w0 w' := hb.grown hg hB hv
end Go.Proofs.YtggjillpfclajaaGreat.Kit
/- A region whose order is drawn, in which several operations make memory, each by itself, and the rest goes in one order: one obligation for each maker, one for the rest, whatever the order. No Go function is spoken of. -/
namespace Go.Proofs.YtggjillpfclajaaGreat.Kit
open Go.RowKit
/-- All lists that a list comes to when some are left out. -/
def subs : List Nat → List (List Nat)
  | [] => [[]]
  | x :: r => subs r ++ (subs r).map fun t => x :: t
theorem filter_subs (p : Nat → Bool) (js : List Nat) : js.filter p ∈ subs js := by
  induction js with
  | nil => simp [subs]
  | cons x r ih =>
    rw [subs, List.mem_append]
    by_cases h : p x = true
    · rw [List.filter_cons_of_pos h]
      exact .inr (List.mem_map.2 ⟨_, ih, rfl⟩)
    · rw [List.filter_cons_of_neg h]
      exact .inl ih
/-- Which of n operations are done. -/
def mask (n : Nat) (s : List Nat) : Array Bool := ((List.range n).map fun i => s.contains i).toArray
theorem mask_set (n : Nat) (s : List Nat) (j : Nat) : (mask n s).setIfInBounds j true = mask n (j :: s) := by
  apply Array.ext
  · simp [mask]
  · intro i h1 h2
    simp only [mask, Array.size_setIfInBounds, List.size_toArray, List.length_map, List.length_range] at h1
    rw [Array.getElem_setIfInBounds (by simpa [mask] using h1)]
    simp only [mask, List.getElem_toArray, List.getElem_map, List.getElem_range, List.contains_cons]
    by_cases e : j = i
    · simp [e]
    · have e' : (i == j) = false := by simp; omega
      simp [e, e']
theorem mask_congr (n : Nat) (s s' : List Nat) (h : ∀ i, i ∈ s ↔ i ∈ s') : mask n s = mask n s' := by
  have e : (fun i => s.contains i) = fun i => s'.contains i := by
    funext i
    have := h i
    by_cases hi : i ∈ s
    · simp [hi, this.1 hi]
    · have : ¬ i ∈ s' := fun q => hi (this.2 q)
      simp [hi, this]
  rw [mask, mask, e]
theorem mask_nil (n : Nat) : mask n [] = Array.replicate n false := by
  apply Array.ext
  · simp [mask]
  · intro i h1 h2
    simp [mask]
def upd {α : Type} (x : Nat → α) (j : Nat) (v : α) : Nat → α := fun i => if i = j then v else x i
theorem upd_self {α : Type} (x : Nat → α) (j : Nat) (v : α) : upd x j v j = v := if_pos rfl
theorem upd_ne {α : Type} (x : Nat → α) (j i : Nat) (v : α) (h : i ≠ j) : upd x j v i = x i := if_neg h
/-- Of the makers s that are done: what each made, in blocks of its own from .1 up to .2. -/
structure PI (W0 : World) (s : List Nat) (Post : Nat → Nat → Nat → World → Value → Prop) (x : Nat → Value) (iv : Nat → Nat × Nat) (w : World) : Prop where
  bel : Below W0.heap.size W0 w
  post : ∀ i ∈ s, Post i (iv i).1 (iv i).2 w (x i)
  lo : ∀ i ∈ s, W0.heap.size ≤ (iv i).1 ∧ (iv i).1 ≤ (iv i).2 ∧ (iv i).2 ≤ w.heap.size
  apart : ∀ i ∈ s, ∀ j ∈ s, i ≠ j → (iv i).2 ≤ (iv j).1 ∨ (iv j).2 ≤ (iv i).1
theorem PI.add {W0 : World} {s : List Nat} {Post : Nat → Nat → Nat → World → Value → Prop} {x : Nat → Value} {iv : Nat → Nat × Nat} {w w' : World} {j : Nat} {v : Value} (h : PI W0 s Post x iv w)
    (stable : ∀ i lo hi w w' v, Post i lo hi w v → Below w.heap.size w w' → Post i lo hi w' v) (hj : ¬ j ∈ s) (hb : Below w.heap.size w w') (hp : Post j w.heap.size w'.heap.size w' v) :
    PI W0 (j :: s) Post (upd x j v) (upd iv j (w.heap.size, w'.heap.size)) w' := by
  have hs := h.bel.size
  have hs2 := hb.size
  have ne : ∀ i ∈ s, i ≠ j := fun i hi e => hj (e ▸ hi)
  refine ⟨h.bel.trans (hb.mono hs), fun i hi => ?_, fun i hi => ?_, fun i hi k hk hne => ?_⟩
  · rcases List.mem_cons.1 hi with rfl | hi
    · rw [upd_self, upd_self]; exact hp
    · rw [upd_ne _ _ _ _ (ne i hi), upd_ne _ _ _ _ (ne i hi)]; exact stable _ _ _ _ _ _ (h.post i hi) hb
  · rcases List.mem_cons.1 hi with rfl | hi
    · rw [upd_self]; exact ⟨hs, hs2, Nat.le_refl _⟩
    · rw [upd_ne _ _ _ _ (ne i hi)]; have := h.lo i hi; omega
  · rcases List.mem_cons.1 hi with ei | hi2
    · rcases List.mem_cons.1 hk with ek | hk2
      · exact absurd (ei.trans ek.symm) hne
      · rw [ei, upd_self, upd_ne _ _ _ _ (ne k hk2)]; exact .inr (h.lo k hk2).2.2
    · rcases List.mem_cons.1 hk with ek | hk2
      · rw [ek, upd_self, upd_ne _ _ _ _ (ne i hi2)]; exact .inl (h.lo i hi2).2.2
      · replace hi := hi2
        replace hk := hk2
        rw [upd_ne _ _ _ _ (ne i hi), upd_ne _ _ _ _ (ne k hk)]; exact h.apart i hi k hk hne
theorem PI.of_mem {W0 : World} {s s' : List Nat} {Post : Nat → Nat → Nat → World → Value → Prop} {x : Nat → Value} {iv : Nat → Nat × Nat} {w : World} (h : PI W0 s Post x iv w) (hs : ∀ i ∈ s', i ∈ s) : PI W0 s' Post x iv w :=
  ⟨h.bel, fun i hi => h.post i (hs i hi), fun i hi => h.lo i (hs i hi), fun i hi j hj => h.apart i (hs i hi) j (hs j hj)⟩
/-- What each of t waits for is in t. -/
def closedB (md : Region.Mode) (ops : Array Oper) (t : List Nat) : Bool := t.all fun i => match ops[i]? with | some o => o.after.all fun e => !Region.binds md e || t.contains e.on | none => true
/-- At each state of the makers some are ready, and no other operation is. -/
def makersOk (md : Region.Mode) (ops : Array Oper) (js : List Nat) : Bool :=
  (subs js).all fun t => t == js || !closedB md ops t || (!(Region.ready md ops (mask ops.size t)).isEmpty && (Region.ready md ops (mask ops.size t)).all fun i => js.contains i && !t.contains i)
/-- Behind them the others come in this order. -/
def lineOk (md : Region.Mode) (ops : Array Oper) : List Nat → List Nat → Bool
  | s, [] => (Region.ready md ops (mask ops.size s)).isEmpty
  | s, i :: r => (Region.ready md ops (mask ops.size s) == [i]) && (ops[i]?).isSome && lineOk md ops (i :: s) r
section
variable {P : Program} {ops : Array Oper} {Q : Exit → Act → World → Prop} {md : Region.Mode}
theorem wpAny_line : ∀ (line s : List Nat) (fuel : Nat) (a : Act) (w : World), lineOk md ops s line = true → line.length ≤ fuel → wpList P ops Q (line.filterMap fun i => ops[i]?) a w → wpAny P md ops Q fuel (mask ops.size s) a w
  | [], s, fuel, a, w, h, _, hw => wpAny_done (by simpa [lineOk] using h) (by simpa [wpList] using hw) fuel
  | i :: r, s, 0, a, w, _, hl, _ => by simp at hl
  | i :: r, s, fuel + 1, a, w, h, hl, hw => by
    simp only [lineOk, Bool.and_eq_true, beq_iff_eq] at h
    obtain ⟨⟨h1, h2⟩, h3⟩ := h
    obtain ⟨o, ho⟩ := Option.isSome_iff_exists.1 h2
    have ih := fun a w hw => wpAny_line r (i :: s) fuel a w h3 (by simpa using hl) hw
    refine wpAny_all h1 (by simp) fun j hj => ?_
    obtain rfl : j = i := by simpa using hj
    rw [mask_set]
    have hw' : wpList P ops Q (o :: r.filterMap fun i => ops[i]?) a w := by simpa [ho] using hw
    refine wpOp_mono (fun a w => ih a w) ?_
    unfold wpOp
    rw [ho]
    exact hw'
/-- What an operation that is ready waits for is done. -/
theorem ready_dep {n : Nat} {s : List Nat} {j : Nat} (h : j ∈ Region.ready md ops (mask n s)) {o : Oper} (ho : ops[j]? = some o) {k : Nat} (he : ∃ e ∈ o.after, e.on = k ∧ Region.binds md e = true) : k ∈ s := by
  obtain ⟨-, o', ho', hall⟩ := mem_ready.1 h
  rw [ho] at ho'
  cases ho'
  obtain ⟨e, he1, rfl, he2⟩ := he
  have := hall e he1 he2
  rw [mask] at this
  by_cases hn : e.on < n
  · simpa [Array.getD, hn] using this
  · simp [Array.getD, hn] at this
theorem wpAny_makers (js : List Nat) (fuel : Nat) (act : (Nat → Value) → Act) (W0 : World) (Post : Nat → Nat → Nat → World → Value → Prop) (Inv : List Nat → (Nat → Value) → World → Prop)
    (stable : ∀ i lo hi w w' v, Post i lo hi w v → Below w.heap.size w w' → Post i lo hi w' v) (ok : makersOk md ops js = true)
    (prod : ∀ j ∈ js, ∀ s x iv W, j ∈ Region.ready md ops (mask ops.size s) → ¬ j ∈ s → PI W0 s Post x iv W → Inv s x W → ∀ K : Act → World → Prop, (∀ v W', Below W.heap.size W W' → Post j W.heap.size W'.heap.size W' v → Inv (j :: s) (upd x j v) W' → K (act (upd x j v)) W') → wpOp P ops Q j K (act x) W)
    (rest : ∀ s x iv W f, fuel ≤ f → (∀ i ∈ js, i ∈ s) → PI W0 js Post x iv W → Inv s x W → wpAny P md ops Q f (mask ops.size js) (act x) W) :
    ∀ (m f : Nat) (s : List Nat) (x : Nat → Value) (iv : Nat → Nat × Nat) (W : World), (js.filter fun i => !s.contains i).length ≤ m → fuel ≤ f → (∀ i ∈ s, i ∈ js) → (∀ i ∈ s, ∀ o, ops[i]? = some o → ∀ e ∈ o.after, Region.binds md e = true → e.on ∈ s) → PI W0 s Post x iv W → Inv s x W → wpAny P md ops Q (f + m) (mask ops.size s) (act x) W := by
  intro m
  induction m with
  | zero =>
    intro f s x iv W hc hf hs hcl hp hv
    have hall : ∀ i ∈ js, i ∈ s := fun i hi => by
      by_cases h : i ∈ s
      · exact h
      · have : i ∈ js.filter fun i => !s.contains i := List.mem_filter.2 ⟨hi, by simpa using h⟩
        rw [List.eq_nil_of_length_eq_zero (Nat.le_zero.1 hc)] at this
        cases this
    rw [mask_congr ops.size s js fun i => ⟨hs i, hall i⟩]
    exact rest s x iv W (f + 0) (by omega) hall (hp.of_mem hall) hv
  | succ m ih =>
    intro f s x iv W hc hf hs hcl hp hv
    by_cases hall : ∀ i ∈ js, i ∈ s
    · rw [mask_congr ops.size s js fun i => ⟨hs i, hall i⟩]
      exact rest s x iv W _ (by omega) hall (hp.of_mem hall) hv
    · have hmask : mask ops.size s = mask ops.size (js.filter fun i => s.contains i) := mask_congr _ _ _ fun i => ⟨fun h => List.mem_filter.2 ⟨hs i h, by simpa using h⟩, fun h => by simpa using (List.mem_filter.1 h).2⟩
      have hk := List.all_eq_true.1 ok _ (filter_subs (fun i => s.contains i) js)
      have hne : ((js.filter fun i => s.contains i) == js) = false := by
        apply Bool.eq_false_iff.2
        intro e
        rw [beq_iff_eq] at e
        exact hall fun i hi => by
          rw [← e] at hi
          simpa using (List.mem_filter.1 hi).2
      have hclo : closedB md ops (js.filter fun i => s.contains i) = true := by
        refine List.all_eq_true.2 fun i hi => ?_
        have his : i ∈ s := by simpa using (List.mem_filter.1 hi).2
        cases ho : ops[i]? with
        | none => rfl
        | some o =>
          simp only
          refine Array.all_eq_true_iff_forall_mem.2 fun e he => ?_
          cases hbi : Region.binds md e with
          | false => rfl
          | true =>
            have := hcl i his o ho e he hbi
            simp [this, hs _ this]
      rw [hne, hclo, Bool.false_or, Bool.not_true, Bool.false_or, Bool.and_eq_true] at hk
      obtain ⟨h1, h2⟩ := hk
      rw [← hmask] at h1 h2
      refine wpAny_all rfl (by intro e; rw [e] at h1; simp at h1) fun j hj => ?_
      have hj2 := List.all_eq_true.1 h2 j hj
      simp only [Bool.and_eq_true, List.contains_iff_mem, Bool.not_eq_true'] at hj2
      have hjs : j ∈ js := by simpa using hj2.1
      have hjn : ¬ j ∈ s := fun h => by
        have : j ∈ js.filter fun i => s.contains i := List.mem_filter.2 ⟨hjs, by simpa using h⟩
        have h3 := hj2.2
        simp [hjs, h] at h3
      rw [mask_set]
      refine prod j hjs s x iv W hj hjn hp hv _ fun v W' hb hpo hv' => ih f (j :: s) _ _ W' ?_ hf (fun i hi => (List.mem_cons.1 hi).elim (fun e => e ▸ hjs) (hs i)) (fun i hi o ho e he hbi => List.mem_cons_of_mem _ ((List.mem_cons.1 hi).elim (fun q => by subst q; exact ready_dep hj ho ⟨e, he, rfl, hbi⟩) (fun q => hcl i q o ho e he hbi))) (hp.add stable hjn hb hpo) hv'
      have hlt : (js.filter fun i => !(j :: s).contains i).length < (js.filter fun i => !s.contains i).length := by
        have e : (js.filter fun i => !(j :: s).contains i) = (js.filter fun i => !s.contains i).filter fun i => !(i == j) := by
          rw [List.filter_filter]
          apply List.filter_congr
          intro i _
          by_cases e1 : i = j <;> by_cases e2 : i ∈ s <;> simp [e1, e2]
        rw [e, List.length_filter_lt_length_iff_exists]
        exact ⟨j, List.mem_filter.2 ⟨hjs, by simpa using hjn⟩, by simp⟩
      omega
/-- The region, whatever order is drawn. -/
theorem wp_region_makers {id : Nat} {w : World} {a0 : Act} (hm : P.follows .mixedOrders = true) (js line : List Nat) (act : (Nat → Value) → Act) (x0 : Nat → Value) (ha : a0 = act x0) (Post : Nat → Nat → Nat → World → Value → Prop) (Inv : List Nat → (Nat → Value) → World → Prop)
    (stable : ∀ i lo hi w w' v, Post i lo hi w v → Below w.heap.size w w' → Post i lo hi w' v) (ok : makersOk .any ops js = true) (okl : lineOk .any ops js line = true) (hsz : line.length + js.length = ops.size) (hv : Inv [] x0 w.drew)
    (prod : ∀ j ∈ js, ∀ s x iv W, j ∈ Region.ready .any ops (mask ops.size s) → ¬ j ∈ s → PI w.drew s Post x iv W → Inv s x W → ∀ K : Act → World → Prop, (∀ v W', Below W.heap.size W W' → Post j W.heap.size W'.heap.size W' v → Inv (j :: s) (upd x j v) W' → K (act (upd x j v)) W') → wpOp P ops Q j K (act x) W)
    (rest : ∀ s x iv W, (∀ i ∈ js, i ∈ s) → PI w.drew js Post x iv W → Inv s x W → wpList P ops Q (line.filterMap fun i => ops[i]?) (act x) W) : (Code.region id ops true).wp P Q a0 w := by
  subst ha
  refine wp_region_any hm ?_
  have h := wpAny_makers (P := P) (Q := Q) (md := .any) js line.length act w.drew Post Inv stable ok prod (fun s x iv W f hf hs hp hi => wpAny_line line js f (act x) W okl hf (rest s x iv W hs hp hi)) js.length line.length [] x0 (fun _ => (0, 0)) w.drew (List.length_filter_le _ _) (Nat.le_refl _) (fun i hi => by cases hi) (fun i hi => by cases hi) ⟨Below.refl _ _, (fun i hi => by cases hi), (fun i hi => by cases hi), (fun i hi => by cases hi)⟩ hv
  rw [hsz, mask_nil] at h
  exact h
end
end Go.Proofs.YtggjillpfclajaaGreat.Kit
/- A drawn region whose operations only read and make memory, ahead of a line of others: each is told once, by what it yields out of what it waits for. No Go function is spoken of. -/
namespace Go.Proofs.YtggjillpfclajaaGreat.Kit
open Go.RowKit
/-- What is done so far: each yielded what is told of it, in an interval of new blocks of its own. -/
structure PX (W0 : World) (s : List Nat) (Po : Nat → Nat → Nat → World → (Nat → Value) → Prop) (x : Nat → Value) (iv : Nat → Nat × Nat) (w : World) : Prop where
  bel : Below W0.heap.size W0 w
  post : ∀ i ∈ s, Po i (iv i).1 (iv i).2 w x
  lo : ∀ i ∈ s, W0.heap.size ≤ (iv i).1 ∧ (iv i).1 ≤ (iv i).2 ∧ (iv i).2 ≤ w.heap.size
  apart : ∀ i ∈ s, ∀ j ∈ s, i ≠ j → (iv i).2 ≤ (iv j).1 ∨ (iv j).2 ≤ (iv i).1
theorem PX.add {W0 : World} {s : List Nat} {Po : Nat → Nat → Nat → World → (Nat → Value) → Prop} {x : Nat → Value} {iv : Nat → Nat × Nat} {w w' : World} {j : Nat} {v : Value} (deps : Nat → List Nat) (h : PX W0 s Po x iv w)
    (stable : ∀ i lo hi w w' x, Po i lo hi w x → Below w.heap.size w w' → Po i lo hi w' x) (cong : ∀ i lo hi w x x', x i = x' i → (∀ k ∈ deps i, x k = x' k) → Po i lo hi w x → Po i lo hi w x')
    (hcl : ∀ i ∈ s, ∀ k ∈ deps i, k ∈ s) (hj : ¬ j ∈ s) (hb : Below w.heap.size w w') (hp : Po j w.heap.size w'.heap.size w' (upd x j v)) :
    PX W0 (j :: s) Po (upd x j v) (upd iv j (w.heap.size, w'.heap.size)) w' := by
  have hs := h.bel.size
  have hs2 := hb.size
  have ne : ∀ i ∈ s, i ≠ j := fun i hi e => hj (e ▸ hi)
  refine ⟨h.bel.trans (hb.mono hs), fun i hi => ?_, fun i hi => ?_, fun i hi k hk hne => ?_⟩
  · rcases List.mem_cons.1 hi with rfl | hi
    · rw [upd_self]; exact hp
    · rw [upd_ne _ _ _ _ (ne i hi)]
      exact cong _ _ _ _ _ _ (upd_ne _ _ _ _ (ne i hi)).symm (fun k hk => (upd_ne _ _ _ _ (ne k (hcl i hi k hk))).symm) (stable _ _ _ _ _ _ (h.post i hi) hb)
  · rcases List.mem_cons.1 hi with rfl | hi
    · rw [upd_self]; exact ⟨hs, hs2, Nat.le_refl _⟩
    · rw [upd_ne _ _ _ _ (ne i hi)]; have := h.lo i hi; omega
  · rcases List.mem_cons.1 hi with ei | hi2
    · rcases List.mem_cons.1 hk with ek | hk2
      · exact absurd (ei.trans ek.symm) hne
      · rw [ei, upd_self, upd_ne _ _ _ _ (ne k hk2)]; exact .inr (h.lo k hk2).2.2
    · rcases List.mem_cons.1 hk with ek | hk2
      · rw [ek, upd_self, upd_ne _ _ _ _ (ne i hi2)]; exact .inl (h.lo i hi2).2.2
      · rw [upd_ne _ _ _ _ (ne i hi2), upd_ne _ _ _ _ (ne k hk2)]; exact h.apart i hi2 k hk2 hne
theorem PX.of_mem {W0 : World} {s s' : List Nat} {Po : Nat → Nat → Nat → World → (Nat → Value) → Prop} {x : Nat → Value} {iv : Nat → Nat × Nat} {w : World} (h : PX W0 s Po x iv w) (hs : ∀ i ∈ s', i ∈ s) : PX W0 s' Po x iv w :=
  ⟨h.bel, fun i hi => h.post i (hs i hi), fun i hi => h.lo i (hs i hi), fun i hi j hj => h.apart i (hs i hi) j (hs j hj)⟩
/-- What each waits for is among its edges. -/
def depsOk (ops : Array Oper) (js : List Nat) (deps : Nat → List Nat) : Bool := js.all fun j => match ops[j]? with | some o => (deps j).all fun k => o.after.any fun e => e.on == k && Region.binds .any e | none => false
section
variable {P : Program} {ops : Array Oper} {Q : Exit → Act → World → Prop}
/-- The region, whatever order is drawn. -/
theorem wp_region_gen {id : Nat} {w : World} {a0 : Act} (hm : P.follows .mixedOrders = true) (js line : List Nat) (deps : Nat → List Nat) (act : (Nat → Value) → Act) (x0 : Nat → Value) (ha : a0 = act x0) (Po : Nat → Nat → Nat → World → (Nat → Value) → Prop)
    (stable : ∀ i lo hi w w' x, Po i lo hi w x → Below w.heap.size w w' → Po i lo hi w' x) (cong : ∀ i lo hi w x x', x i = x' i → (∀ k ∈ deps i, x k = x' k) → Po i lo hi w x → Po i lo hi w x')
    (ok : makersOk .any ops js = true) (okl : lineOk .any ops js line = true) (okd : depsOk ops js deps = true) (hsz : line.length + js.length = ops.size)
    (prod : ∀ j ∈ js, ∀ s x iv W, (∀ k ∈ deps j, k ∈ s) → PX w.drew s Po x iv W → ∀ K : Act → World → Prop, (∀ v W', Below W.heap.size W W' → Po j W.heap.size W'.heap.size W' (upd x j v) → K (act (upd x j v)) W') → wpOp P ops Q j K (act x) W)
    (rest : ∀ x iv W, PX w.drew js Po x iv W → wpList P ops Q (line.filterMap fun i => ops[i]?) (act x) W) : (Code.region id ops true).wp P Q a0 w := by
  have dep : ∀ j ∈ js, ∀ s, j ∈ Region.ready .any ops (mask ops.size s) → ∀ k ∈ deps j, k ∈ s := by
    intro j hj s hr k hk
    have h := List.all_eq_true.1 okd j hj
    cases ho : ops[j]? with
    | none => rw [ho] at h; cases h
    | some o =>
      rw [ho] at h
      simp only [List.all_eq_true, Array.any_eq_true] at h
      obtain ⟨i, hi, h2⟩ := h k hk
      simp only [Bool.and_eq_true, beq_iff_eq] at h2
      exact ready_dep hr ho ⟨o.after[i], Array.getElem_mem hi, h2.1, h2.2⟩
  refine wp_region_makers hm js line act x0 ha (fun _ _ _ _ _ => True) (fun s x W => (∀ i ∈ s, ∀ k ∈ deps i, k ∈ s) ∧ ∃ iv, PX w.drew s Po x iv W) (fun _ _ _ _ _ _ _ _ => trivial) ok okl hsz ⟨(fun i hi => by cases hi), fun _ => (0, 0), ⟨Below.refl _ _, (fun i hi => by cases hi), (fun i hi => by cases hi), (fun i hi => by cases hi)⟩⟩ ?_ ?_
  · intro j hj s x iv W hr hns _ hI K hK
    obtain ⟨hcl, iv2, hp⟩ := hI
    have hd := dep j hj s hr
    refine prod j hj s x iv2 W hd hp K fun v W' hb hpo => hK v W' hb trivial ⟨fun i hi k hk => ?_, _, hp.add deps stable cong hcl hns hb hpo⟩
    rcases List.mem_cons.1 hi with rfl | hi
    · exact List.mem_cons_of_mem _ (hd k hk)
    · exact List.mem_cons_of_mem _ (hcl i hi k hk)
  · intro s x iv W hs _ hI
    obtain ⟨-, iv2, hp⟩ := hI
    exact rest x iv2 W (hp.of_mem hs)
end
end Go.Proofs.YtggjillpfclajaaGreat.Kit
namespace Go.Proofs.YtggjillpfclajaaGreat.Kit
open Go.RowKit
/-- What is told of one operation's value: out of the interval of its blocks, the world, the value, and the values that it waited for. -/
structure Mk where
  deps : List Nat
  P : Nat → Nat → World → Value → (Nat → Value) → Prop
  st : ∀ lo hi w w' v x, P lo hi w v x → Below w.heap.size w w' → P lo hi w' v x
  cg : ∀ lo hi w v x x', (∀ k ∈ deps, x k = x' k) → P lo hi w v x → P lo hi w v x'
/-- Nothing is told. -/
def Mk.triv : Mk := ⟨[], fun _ _ _ _ _ => True, fun _ _ _ _ _ _ _ _ => trivial, fun _ _ _ _ _ _ _ _ => trivial⟩
/-- The value is known. -/
def Mk.const (deps : List Nat) (C : Value) : Mk := ⟨deps, fun _ _ _ v _ => v = C, fun _ _ _ _ _ _ h _ => h, fun _ _ _ _ _ _ _ h => h⟩
/-- Something is told of the value alone. -/
def Mk.val (deps : List Nat) (R : Nat → Nat → World → Value → Prop) (st : ∀ lo hi w w' v, R lo hi w v → Below w.heap.size w w' → R lo hi w' v) : Mk :=
  ⟨deps, fun lo hi w v _ => R lo hi w v, fun lo hi w w' v _ h hb => st lo hi w w' v h hb, fun _ _ _ _ _ _ _ h => h⟩
/-- Something is told of the value, beside one that it waited for. -/
def Mk.val1 (deps : List Nat) (k : Nat) (hk : k ∈ deps) (R : Nat → Nat → World → Value → Value → Prop) (st : ∀ lo hi w w' u v, R lo hi w u v → Below w.heap.size w w' → R lo hi w' u v) : Mk :=
  ⟨deps, fun lo hi w v x => R lo hi w (x k) v, fun lo hi w w' v x h hb => st lo hi w w' (x k) v h hb, fun lo hi w v x x' e h => by rw [← e k hk]; exact h⟩
/-- The frame with the values of the first operations in their slots. -/
def actOf (a : Act) : List Nat → Nat → (Nat → Value) → Act
  | [], _, _ => a
  | s :: r, i, x => actOf (a.put (some s) (x i)) r (i + 1) x
section
variable {P : Program} {ops : Array Oper} {Q : Exit → Act → World → Prop}
theorem wp_region_mk {id : Nat} {w : World} {a0 : Act} (hm : P.follows .mixedOrders = true) (js line sl : List Nat) (L : Nat → Mk) (x0 : Nat → Value) (ha : a0 = actOf a0 sl 0 x0)
    (ok : makersOk .any ops js = true) (okl : lineOk .any ops js line = true) (okd : depsOk ops js (fun i => (L i).deps) = true) (hsz : line.length + js.length = ops.size)
    (prod : ∀ j ∈ js, ∀ s x iv W, (∀ k ∈ (L j).deps, k ∈ s) → PX w.drew s (fun i lo hi w x => (L i).P lo hi w (x i) x) x iv W → ∀ K : Act → World → Prop, (∀ v W', Below W.heap.size W W' → (L j).P W.heap.size W'.heap.size W' v (upd x j v) → K (actOf a0 sl 0 (upd x j v)) W') → wpOp P ops Q j K (actOf a0 sl 0 x) W)
    (rest : ∀ x iv W, PX w.drew js (fun i lo hi w x => (L i).P lo hi w (x i) x) x iv W → wpList P ops Q (line.filterMap fun i => ops[i]?) (actOf a0 sl 0 x) W) : (Code.region id ops true).wp P Q a0 w :=
  wp_region_gen hm js line (fun i => (L i).deps) (actOf a0 sl 0) x0 ha (fun i lo hi w x => (L i).P lo hi w (x i) x) (fun i lo hi w w' x h hb => (L i).st lo hi w w' (x i) x h hb)
    (fun i lo hi w x x' e1 e2 h => by rw [← e1]; exact (L i).cg lo hi w (x i) x x' e2 h) ok okl okd hsz (fun j hj s x iv W hd hp K hK => prod j hj s x iv W hd hp K fun v W' hb h => hK v W' hb (by rw [upd_self]; exact h)) rest
/-- The same, from the values that lie in the slots. -/
theorem wp_region_mks {id : Nat} {w : World} {a0 : Act} (hm : P.follows .mixedOrders = true) (js line sl : List Nat) (L : Nat → Mk) (ha : a0 = actOf a0 sl 0 (fun i => a0.tmps.getD (sl.getD i 0) undef))
    (ok : makersOk .any ops js = true) (okl : lineOk .any ops js line = true) (okd : depsOk ops js (fun i => (L i).deps) = true) (hsz : line.length + js.length = ops.size)
    (prod : ∀ j ∈ js, ∀ s x iv W, (∀ k ∈ (L j).deps, k ∈ s) → PX w.drew s (fun i lo hi w x => (L i).P lo hi w (x i) x) x iv W → ∀ K : Act → World → Prop, (∀ v W', Below W.heap.size W W' → (L j).P W.heap.size W'.heap.size W' v (upd x j v) → K (actOf a0 sl 0 (upd x j v)) W') → wpOp P ops Q j K (actOf a0 sl 0 x) W)
    (rest : ∀ x iv W, PX w.drew js (fun i lo hi w x => (L i).P lo hi w (x i) x) x iv W → wpList P ops Q (line.filterMap fun i => ops[i]?) (actOf a0 sl 0 x) W) : (Code.region id ops true).wp P Q a0 w :=
  wp_region_mk hm js line sl L _ ha ok okl okd hsz prod rest
/-- The same, with the frame written out. -/
theorem wp_region_frm {id : Nat} {w : World} {a0 : Act} (hm : P.follows .mixedOrders = true) (js line : List Nat) (L : Nat → Mk) (act : (Nat → Value) → Act) (x0 : Nat → Value) (ha : a0 = act x0)
    (ok : makersOk .any ops js = true) (okl : lineOk .any ops js line = true) (okd : depsOk ops js (fun i => (L i).deps) = true) (hsz : line.length + js.length = ops.size)
    (prod : ∀ j ∈ js, ∀ s x iv W, (∀ k ∈ (L j).deps, k ∈ s) → PX w.drew s (fun i lo hi w x => (L i).P lo hi w (x i) x) x iv W → ∀ K : Act → World → Prop, (∀ v W', Below W.heap.size W W' → (L j).P W.heap.size W'.heap.size W' v (upd x j v) → K (act (upd x j v)) W') → wpOp P ops Q j K (act x) W)
    (rest : ∀ x iv W, PX w.drew js (fun i lo hi w x => (L i).P lo hi w (x i) x) x iv W → wpList P ops Q (line.filterMap fun i => ops[i]?) (act x) W) : (Code.region id ops true).wp P Q a0 w :=
  wp_region_gen hm js line (fun i => (L i).deps) act x0 ha (fun i lo hi w x => (L i).P lo hi w (x i) x) (fun i lo hi w w' x h hb => (L i).st lo hi w w' (x i) x h hb)
    (fun i lo hi w x x' e1 e2 h => by rw [← e1]; exact (L i).cg lo hi w (x i) x x' e2 h) ok okl okd hsz (fun j hj s x iv W hd hp K hK => prod j hj s x iv W hd hp K fun v W' hb h => hK v W' hb (by rw [upd_self]; exact h)) rest
end
end Go.Proofs.YtggjillpfclajaaGreat.Kit
/- Library contracts laid at this translation by the shelf (its own tool, plain mode). -/
namespace Go.Proofs.YtggjillpfclajaaGreat
open Go.Shelf
def Tryz.lays128_ren : Go.Shelf.Ren := ⟨fun | 128 => 112 | n => n, fun | 51 => 152 | 3 => 3 | 4 => 4 | 46 => 136 | 5 => 5 | 9 => 9 | n => n, fun | n => n⟩
theorem Tryz.lays128 : Go.Proofs.Lays.n128 Tryz.prog Tryz.lays128_ren := {
  mixed := by kernel_rfl
  f128 := Tryz.func112.trans (congrArg some (by kernel_rfl))
  t3 := Tryz.underlying3
  a3 := Tryz.isAgg3
  z3 := Tryz.sizeOf3
  v3 := Tryz.zeroValue3
  t4 := Tryz.underlying4
  a4 := Tryz.isAgg4
  z4 := Tryz.sizeOf4
  v4 := Tryz.zeroValue4
  t5 := Tryz.underlying5
  a5 := Tryz.isAgg5
  z5 := Tryz.sizeOf5
  v5 := Tryz.zeroValue5
  t9 := Tryz.underlying9
  a9 := Tryz.isAgg9
  z9 := Tryz.sizeOf9
  v9 := Tryz.zeroValue9
  t46 := Tryz.underlying136
  a46 := Tryz.isAgg136
  z46 := Tryz.sizeOf136
  v46 := Tryz.zeroValue136
  t51 := Tryz.underlying152
  a51 := Tryz.isAgg152
  z51 := Tryz.sizeOf152
  v51 := Tryz.zeroValue152 }
theorem Tryz.bits_Len32 (x : Int) (w : World) (h0 : 0 ≤ x) (h1 : x ≤ 4294967295) :
    Calls Tryz.prog 112 #[.int .u32 x] w fun e w' => e = .returned (.int .i64 (Lib.bitLen x.toNat)) ∧ w' = w := Any.bits_Len32 Tryz.lays128 x w h0 h1
def Tryz.lays125_ren : Go.Shelf.Ren := ⟨fun | 125 => 99 | 128 => 112 | 129 => 113 | n => n, fun | 46 => 136 | 3 => 3 | 51 => 152 | 53 => 154 | 4 => 4 | 5 => 5 | 9 => 9 | n => n, fun | n => n⟩
theorem Tryz.lays125 : Go.Proofs.Lays.n125 Tryz.prog Tryz.lays125_ren := {
  mixed := by kernel_rfl
  f125 := Tryz.func99.trans (congrArg some (by kernel_rfl))
  f128 := Tryz.func112.trans (congrArg some (by kernel_rfl))
  f129 := Tryz.func113.trans (congrArg some (by kernel_rfl))
  t3 := Tryz.underlying3
  a3 := Tryz.isAgg3
  z3 := Tryz.sizeOf3
  v3 := Tryz.zeroValue3
  t4 := Tryz.underlying4
  a4 := Tryz.isAgg4
  z4 := Tryz.sizeOf4
  v4 := Tryz.zeroValue4
  t5 := Tryz.underlying5
  a5 := Tryz.isAgg5
  z5 := Tryz.sizeOf5
  v5 := Tryz.zeroValue5
  t9 := Tryz.underlying9
  a9 := Tryz.isAgg9
  z9 := Tryz.sizeOf9
  v9 := Tryz.zeroValue9
  t46 := Tryz.underlying136
  a46 := Tryz.isAgg136
  z46 := Tryz.sizeOf136
  v46 := Tryz.zeroValue136
  t51 := Tryz.underlying152
  a51 := Tryz.isAgg152
  z51 := Tryz.sizeOf152
  v51 := Tryz.zeroValue152
  t53 := Tryz.underlying154
  a53 := Tryz.isAgg154
  z53 := Tryz.sizeOf154
  v53 := Tryz.zeroValue154 }
theorem Tryz.bits_Len (x : Int) (w : World) (h0 : 0 ≤ x) (h1 : x ≤ 18446744073709551615) :
    Calls Tryz.prog 99 #[.int .u64 x] w fun e w' => e = .returned (.int .i64 (Lib.bitLen x.toNat)) ∧ w' = w := Any.bits_Len Tryz.lays125 x w h0 h1
def Tryz.lays129_ren : Go.Shelf.Ren := ⟨fun | 129 => 113 | n => n, fun | 53 => 154 | 3 => 3 | 4 => 4 | 46 => 136 | 5 => 5 | 9 => 9 | n => n, fun | n => n⟩
theorem Tryz.lays129 : Go.Proofs.Lays.n129 Tryz.prog Tryz.lays129_ren := {
  mixed := by kernel_rfl
  f129 := Tryz.func113.trans (congrArg some (by kernel_rfl))
  t3 := Tryz.underlying3
  a3 := Tryz.isAgg3
  z3 := Tryz.sizeOf3
  v3 := Tryz.zeroValue3
  t4 := Tryz.underlying4
  a4 := Tryz.isAgg4
  z4 := Tryz.sizeOf4
  v4 := Tryz.zeroValue4
  t5 := Tryz.underlying5
  a5 := Tryz.isAgg5
  z5 := Tryz.sizeOf5
  v5 := Tryz.zeroValue5
  t9 := Tryz.underlying9
  a9 := Tryz.isAgg9
  z9 := Tryz.sizeOf9
  v9 := Tryz.zeroValue9
  t46 := Tryz.underlying136
  a46 := Tryz.isAgg136
  z46 := Tryz.sizeOf136
  v46 := Tryz.zeroValue136
  t53 := Tryz.underlying154
  a53 := Tryz.isAgg154
  z53 := Tryz.sizeOf154
  v53 := Tryz.zeroValue154 }
theorem Tryz.bits_Len64 (x : Int) (w : World) (h0 : 0 ≤ x) (h1 : x ≤ 18446744073709551615) :
    Calls Tryz.prog 113 #[.int .u64 x] w fun e w' => e = .returned (.int .i64 (Lib.bitLen x.toNat)) ∧ w' = w := Any.bits_Len64 Tryz.lays129 x w h0 h1
def Tryz.laysM316_ren : Go.Shelf.Ren := ⟨fun | 316 => 96 | n => n, fun | 9 => 9 | 3 => 3 | 4 => 4 | 37 => 122 | 0 => 0 | 127 => 142 | 5 => 5 | n => n, fun | n => n⟩
theorem Tryz.laysM316 : Go.Proofs.LaysM.n316 Tryz.prog Tryz.laysM316_ren := {
  mixed := by kernel_rfl
  f316 := Tryz.func96.trans (congrArg some (by kernel_rfl))
  t0 := Tryz.underlying0
  a0 := Tryz.isAgg0
  z0 := Tryz.sizeOf0
  v0 := Tryz.zeroValue0
  t3 := Tryz.underlying3
  a3 := Tryz.isAgg3
  z3 := Tryz.sizeOf3
  v3 := Tryz.zeroValue3
  t4 := Tryz.underlying4
  a4 := Tryz.isAgg4
  z4 := Tryz.sizeOf4
  v4 := Tryz.zeroValue4
  t9 := Tryz.underlying9
  a9 := Tryz.isAgg9
  z9 := Tryz.sizeOf9
  v9 := Tryz.zeroValue9
  t37 := Tryz.underlying122
  a37 := Tryz.isAgg122
  z37 := Tryz.sizeOf122
  v37 := Tryz.zeroValue122
  t127 := Tryz.underlying142
  a127 := Tryz.isAgg142
  z127 := Tryz.sizeOf142
  v127 := Tryz.zeroValue142
  t5 := Tryz.underlying5
  a5 := Tryz.isAgg5
  z5 := Tryz.sizeOf5
  v5 := Tryz.zeroValue5
  i0 := by kernel_rfl
  i3 := by kernel_rfl
  i4 := by kernel_rfl
  i5 := by kernel_rfl
  i9 := by kernel_rfl
  i37 := by kernel_rfl
  i127 := by kernel_rfl }
open Go.RowKit in
theorem Tryz.stringslite_Clone (s : ByteArray) (w : World) (hlim : s.size ≤ 281474976710656) :
    Calls Tryz.prog 96 #[.string s] w fun e w' => e = .returned (.string s) ∧ Below w.heap.size w w' := Any.stringslite_Clone Tryz.laysM316 s w hlim
def Tryz.laysNm237_ren : Go.Shelf.Ren := ⟨fun | 37 => 100 | n => n, fun | 3 => 3 | 4 => 4 | n => n, fun | n => n⟩
theorem Tryz.laysNm237 : Go.Proofs.Lays2.n37 Tryz.prog Tryz.laysNm237_ren := {
  mixed := by kernel_rfl
  f37 := Tryz.func100.trans (congrArg some (by kernel_rfl))
  t3 := Tryz.underlying3
  a3 := Tryz.isAgg3
  z3 := Tryz.sizeOf3
  v3 := Tryz.zeroValue3
  t4 := Tryz.underlying4
  a4 := Tryz.isAgg4
  z4 := Tryz.sizeOf4
  v4 := Tryz.zeroValue4 }
open Go.RowKit Go.Lib in
theorem Tryz.cmp_isNaN_int2 (x : Int) (w : World) :
    Calls Tryz.prog 100 #[.int .i64 x] w fun e w' => e = .returned (.bool false) ∧ w' = w := Any.cmp_isNaN_int2 Tryz.laysNm237 x w
end Go.Proofs.YtggjillpfclajaaGreat
/- Copies: impl.newList, strings.Clone, spec.l03Copy, spec.l04Copy by their contracts. -/
namespace Go.Proofs.YtggjillpfclajaaGreat
open Go.RowKit Kit
set_option maxRecDepth 100000 in
theorem newB_any (v : Value) (xs : List Bool) (w : World) (h : RFl w v xs) (hl : xs.length ≤ 1048576) :
    Calls Tryz.prog 74 #[v] w fun e w' => ∃ u, e = .returned u ∧ ROwns w' w.heap.size 4 u (fc xs) ∧ Below w.heap.size w w' := by
  have HR := hide h
  have HL : Hid (xs.length ≤ 100000000000) := Nat.le_trans hl (by decide)
  clear h hl
  go_enter Tryz.func74, Tryz.ntmps74
  go_wp2_with (at_builtin; refine wpList_append_copy _ rfl _ _ 22 rfl w.heap.size 4 Tryz.underlying22 _ 1 1 Tryz.i4 rfl (by decide) (by decide) _ rfl (World.ownsRow_nil _ _ _ _) (Nat.le_refl _) _ rfl xs.length (fc xs) HR.out.rc (by rw [fc_length, Nat.mul_one]) (fc_one xs) HL.out ?_; intro v' w1 R1 R2 R3)
  have HX : Hid (ROwns w1 w.heap.size 4 v' (fc xs) ∧ Below w.heap.size w w1) := ⟨by unfold ROwns; rw [fc_length]; exact R1, below_of_append (Below.refl _ _) (Nat.le_refl _) R2 (fun k hk => by cases hk)⟩
  clear R1 R2 R3
  go_wp2
  go_ret
  exact ⟨_, rfl, HX.out.1, HX.out.2⟩
set_option maxRecDepth 100000 in
theorem newI_any (v : Value) (xs : List Int) (w : World) (h : RInts w v xs) (hl : xs.length ≤ 1048576) :
    Calls Tryz.prog 88 #[v] w fun e w' => ∃ u, e = .returned u ∧ ROwns w' w.heap.size 3 u (ic xs) ∧ Below w.heap.size w w' := by
  have HR := hide h
  have HL : Hid (xs.length ≤ 100000000000) := Nat.le_trans hl (by decide)
  clear h hl
  go_enter Tryz.func88, Tryz.ntmps88
  go_wp2_with (at_builtin; refine wpList_append_copy _ rfl _ _ 47 rfl w.heap.size 3 Tryz.underlying47 _ 1 8 Tryz.i3 rfl (by decide) (by decide) _ rfl (World.ownsRow_nil _ _ _ _) (Nat.le_refl _) _ rfl xs.length (ic xs) HR.out.rc (by rw [ic_length, Nat.mul_one]) (ic_one xs) HL.out ?_; intro v' w1 R1 R2 R3)
  have HX : Hid (ROwns w1 w.heap.size 3 v' (ic xs) ∧ Below w.heap.size w w1) := ⟨by unfold ROwns; rw [ic_length]; exact R1, below_of_append (Below.refl _ _) (Nat.le_refl _) R2 (fun k hk => by cases hk)⟩
  clear R1 R2 R3
  go_wp2
  go_ret
  exact ⟨_, rfl, HX.out.1, HX.out.2⟩
set_option maxRecDepth 100000 in
theorem newS_any (v : Value) (xs : List Sl) (w : World) (h : RSl w v xs) (hl : xs.length ≤ 1048576) :
    Calls Tryz.prog 97 #[v] w fun e w' => ∃ u, e = .returned u ∧ SOwns w' w.heap.size 132 u xs ∧ Below w.heap.size w w' := by
  have HR := hide h
  have HL : Hid (xs.length ≤ 100000000000) := Nat.le_trans hl (by decide)
  clear h hl
  go_enter Tryz.func97, Tryz.ntmps97
  go_wp2_with (at_builtin; refine wpList_append_copy _ rfl _ _ 113 rfl w.heap.size 132 Tryz.underlying113 _ 2 24 Tryz.i132 rfl (by decide) (by decide) _ rfl (World.ownsRow_nil _ _ _ _) (Nat.le_refl _) _ rfl xs.length (sc xs) HR.out.rc (sc_length xs) (sc_one xs) HL.out ?_; intro v' w1 R1 R2 R3)
  have HX : Hid (SOwns w1 w.heap.size 132 v' xs ∧ Below w.heap.size w w1) := ⟨R1, below_of_append (Below.refl _ _) (Nat.le_refl _) R2 (fun k hk => by cases hk)⟩
  clear R1 R2 R3
  go_wp2
  go_ret
  exact ⟨_, rfl, HX.out.1, HX.out.2⟩
theorem clone_any (s : ByteArray) (w : World) (h : s.size ≤ 281474976710656) :
    Calls Tryz.prog 87 #[.string s] w fun e w' => e = .returned (.string s) ∧ Below w.heap.size w w' := by
  go_enter Tryz.func87, Tryz.ntmps87
  go_wp2_with (go_at_call 96; refine (Tryz.stringslite_Clone _ _ h).mono ?_; rintro e w1 ⟨rfl, hb⟩)
  go_ret
  exact ⟨rfl, hb⟩
end Go.Proofs.YtggjillpfclajaaGreat
