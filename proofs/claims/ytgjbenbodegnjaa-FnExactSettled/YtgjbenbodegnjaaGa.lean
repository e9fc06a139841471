
/- append of a whole list to none: a copy in memory of its own. No Go function is spoken of. -/
import Derived.Test.YtgjbenbodegnjaaGn
import Derived.Deep.Upon
namespace Go.Proofs.Ytgjbenbodegnjaa.Kit
open Go.RowKit
/-- The slice value v of n members reads as the cells cs. -/
def RC (w : World) (v : Value) (n : Nat) (cs : List Value) : Prop := ∃ a cap, v = .slice a n cap ∧ ∀ (j : Nat) (u : Value), cs[j]? = some u → ∃ g off, a = some ⟨g, off, none⟩ ∧ w.cell? ⟨g, off + j, none⟩ = some u
theorem run_append_copy {P : Program} (w : World) (t ty : TypeId) (base : Nat) (e : TypeId) (ht : P.underlying t = some (.slice e)) (z : Value) (m bytes : Nat)
    (hi : (P.info? e).map (fun i => (i.zero, i.size, i.bytes)) = some (some z, m, bytes)) (hzc : z.cells.size = m) (hm0 : 0 < m) (hby : bytes ≤ 640) (v : Value) (hown : w.ownsRow base e m v 0 [])
    (hbase : base ≤ w.heap.size) (x : Value) (n : Nat) (cs : List Value) (hx : RC w x n cs) (hcl : cs.length = n * m) (h1 : ∀ u ∈ cs, u.oneCell' = true) (hl : n ≤ 100000000000) :
    ∃ v' w', (Builtin.append_ #[t, t] ty #[v, x]).run P w = .ok v' w' ∧ w'.ownsRow base e m v' n cs ∧ w.grownBy w' v.ownBlock ∧ (v'.ownBlock = v.ownBlock ∨ v'.ownBlock = some w.heap.size) := by
  obtain ⟨i0, hi, hz0, hz1, hz2⟩ := info_parts hi
  obtain ⟨a, c, rfl, hc⟩ := hx
  cases a with
  | none =>
    have hx0 : cs = [] := by
      cases cs with
      | nil => rfl
      | cons y r => obtain ⟨_, _, h, _⟩ := hc 0 y (by simp); cases h
    subst hx0
    have hn : n = 0 := by
      rcases Nat.eq_zero_or_pos n with h | h
      · exact h
      · have := Nat.mul_pos h hm0; simp at hcl; omega
    subst hn
    obtain ⟨av, cv, rfl⟩ : ∃ av cv, v = .slice av 0 cv := by
      rcases hown.2 with ⟨h1, h0⟩ | ⟨g, cap, cur, h1, -, -, h4, -⟩
      · exact ⟨_, _, h1⟩
      · exact ⟨_, _, h1⟩
    have hr := run_append_nothing (P := P) w t t ty e i0 ht hi av 0 cv (Nat.zero_le _) (.slice none 0 c) (Src.ofNil w ht c)
    exact ⟨_, w, hr, hown, grownBy_below (Below.refl _ _) _, .inl rfl⟩
  | some ad =>
    have h63 : (0 + n) * bytes ≤ 100000000000 * 640 := Nat.mul_le_mul (by omega) hby
    obtain ⟨v', w', hr, h2, h3, _, h5⟩ := run_append_own_at (P := P) w base t ty e i0 z m bytes ht hi hz0 hz1 hz2 hzc hm0 v 0 [] hown ad n c cs hcl
      (fun j u hj => by
        obtain ⟨g, off, e1, h4⟩ := hc j u hj
        cases e1
        have ha : (⟨g, off, none⟩ : Addr).add j = ⟨g, off + j, none⟩ := by cases j <;> simp [Addr.add]
        rw [ha, h4]) h1 (by unfold maxLen; omega) (by omega) hbase
    refine ⟨v', w', hr, ?_, h3, h5⟩
    rw [Nat.zero_add, List.nil_append] at h2
    exact h2
theorem wp_append_copy {P : Program} (w : World) {o : Oper} {a : Act} {K : Act → World → Prop} {Q : Exit → Act → World → Prop} (s x : Operand) (t : TypeId)
    (ho : o.op = .call { callee := .builtin .append, args := #[s, x], argTypes := #[t, t] }) (base : Nat) (e : TypeId) (ht : P.underlying t = some (.slice e)) (z : Value) (m bytes : Nat)
    (hi : (P.info? e).map (fun i => (i.zero, i.size, i.bytes)) = some (some z, m, bytes)) (hzc : z.cells.size = m) (hm0 : 0 < m) (hby : bytes ≤ 640) (v : Value) (hs : a.eval s = v) (hown : w.ownsRow base e m v 0 [])
    (hbase : base ≤ w.heap.size) (u : Value) (hu : a.eval x = u) (n : Nat) (cs : List Value) (hx : RC w u n cs) (hcl : cs.length = n * m) (h1 : ∀ u ∈ cs, u.oneCell' = true) (hl : n ≤ 100000000000)
    (h : ∀ v' w', w'.ownsRow base e m v' n cs → w.grownBy w' v.ownBlock → (v'.ownBlock = v.ownBlock ∨ v'.ownBlock = some w.heap.size) → K (a.put o.dst v') w') : o.wp P a w K Q := by
  obtain ⟨v', w', hr, h2, h3, h4⟩ := run_append_copy (P := P) w t o.type base e ht z m bytes hi hzc hm0 hby v hown hbase u n cs hx hcl h1 hl
  unfold Oper.wp execOp
  simp only [ho, resolve, invoke, builtin, Sem.run_bind, Sem.run_pure, Result.andThen_ok, List.map_toArray, List.map_cons, List.map_nil, hs, hu, hr]
  exact h v' w' h2 h3 h4
theorem wpList_append_copy {P : Program} (w : World) {ops : Array Oper} {rest : List Oper} {o : Oper} {a : Act} {Q : Exit → Act → World → Prop} (hgd : o.guard = none) (s x : Operand) (t : TypeId)
    (ho : o.op = .call { callee := .builtin .append, args := #[s, x], argTypes := #[t, t] }) (base : Nat) (e : TypeId) (ht : P.underlying t = some (.slice e)) (z : Value) (m bytes : Nat)
    (hi : (P.info? e).map (fun i => (i.zero, i.size, i.bytes)) = some (some z, m, bytes)) (hzc : z.cells.size = m) (hm0 : 0 < m) (hby : bytes ≤ 640) (v : Value) (hs : a.eval s = v) (hown : w.ownsRow base e m v 0 [])
    (hbase : base ≤ w.heap.size) (u : Value) (hu : a.eval x = u) (n : Nat) (cs : List Value) (hx : RC w u n cs) (hcl : cs.length = n * m) (h1 : ∀ u ∈ cs, u.oneCell' = true) (hl : n ≤ 100000000000)
    (h : ∀ v' w', w'.ownsRow base e m v' n cs → w.grownBy w' v.ownBlock → (v'.ownBlock = v.ownBlock ∨ v'.ownBlock = some w.heap.size) → wpList P ops Q rest (a.put o.dst v') w') : wpList P ops Q (o :: rest) a w :=
  wpList_plain hgd fun _ hK => wp_append_copy w s x t ho base e ht z m bytes hi hzc hm0 hby v hs hown hbase u hu n cs hx hcl h1 hl fun v' w' a b c => hK _ _ (h v' w' a b c)
theorem step_append_copy {P : Program} (w : World) {ops : Array Oper} {o : Oper} {a : Act} {K : Act → World → Prop} {Q : Exit → Act → World → Prop} {E : Prop} (hgd : o.guard = none) (s x : Operand) (t : TypeId)
    (ho : o.op = .call { callee := .builtin .append, args := #[s, x], argTypes := #[t, t] }) (base : Nat) (e : TypeId) (ht : P.underlying t = some (.slice e)) (z : Value) (m bytes : Nat)
    (hi : (P.info? e).map (fun i => (i.zero, i.size, i.bytes)) = some (some z, m, bytes)) (hzc : z.cells.size = m) (hm0 : 0 < m) (hby : bytes ≤ 640) (v : Value) (hs : a.eval s = v) (hown : w.ownsRow base e m v 0 [])
    (hbase : base ≤ w.heap.size) (u : Value) (hu : a.eval x = u) (n : Nat) (cs : List Value) (hx : RC w u n cs) (hcl : cs.length = n * m) (h1 : ∀ u ∈ cs, u.oneCell' = true) (hl : n ≤ 100000000000)
    (h : ∀ v' w', w'.ownsRow base e m v' n cs → w.grownBy w' v.ownBlock → (v'.ownBlock = v.ownBlock ∨ v'.ownBlock = some w.heap.size) → K (a.put o.dst v') w') :
    if Region.wanted o (yielded ops a.tmps) = true then Oper.wp P o a w K Q else E := by
  rw [if_pos (by simp [Region.wanted, hgd])]
  exact wp_append_copy w s x t ho base e ht z m bytes hi hzc hm0 hby v hs hown hbase u hu n cs hx hcl h1 hl h
/-- To a list without any room nothing is written: only new blocks come. -/
theorem run_append_copy0 {P : Program} (w : World) (t ty : TypeId) (base : Nat) (e : TypeId) (ht : P.underlying t = some (.slice e)) (z : Value) (m bytes : Nat)
    (hi : (P.info? e).map (fun i => (i.zero, i.size, i.bytes)) = some (some z, m, bytes)) (hzc : z.cells.size = m) (hm0 : 0 < m) (hby : bytes ≤ 640) (ao : Option Addr) (hown : w.ownsRow base e m (.slice ao 0 0) 0 [])
    (hbase : base ≤ w.heap.size) (x : Value) (n : Nat) (cs : List Value) (hx : RC w x n cs) (hcl : cs.length = n * m) (h1 : ∀ u ∈ cs, u.oneCell' = true) (hl : n ≤ 100000000000) :
    ∃ v' w', (Builtin.append_ #[t, t] ty #[.slice ao 0 0, x]).run P w = .ok v' w' ∧ w'.ownsRow base e m v' n cs ∧ Below w.heap.size w w' ∧ (v'.ownBlock = (Value.slice ao 0 0).ownBlock ∨ v'.ownBlock = some w.heap.size) := by
  obtain ⟨v', w', hr, h2, h3, h4⟩ := run_append_copy (P := P) w t ty base e ht z m bytes hi hzc hm0 hby _ hown hbase x n cs hx hcl h1 hl
  refine ⟨v', w', hr, h2, ?_, h4⟩
  obtain ⟨i0, hi0, hz0, hz1, hz2⟩ := info_parts hi
  obtain ⟨a, c, rfl, hc⟩ := hx
  have same : w' = w → Below w.heap.size w w' := fun e => e ▸ Below.refl _ _
  cases a with
  | none =>
    have hx0 : cs = [] := by
      cases cs with
      | nil => rfl
      | cons y r => obtain ⟨_, _, h, _⟩ := hc 0 y (by simp); cases h
    subst hx0
    have hn : n = 0 := by
      rcases Nat.eq_zero_or_pos n with h | h
      · exact h
      · have := Nat.mul_pos h hm0; simp at hcl; omega
    subst hn
    have hr2 := run_append_nothing (P := P) w t t ty e i0 ht hi0 ao 0 0 (Nat.zero_le _) (.slice none 0 c) (Src.ofNil w ht c)
    rw [hr2] at hr
    simp only [Result.ok.injEq] at hr
    exact same hr.2.symm
  | some ad =>
    have hnews : ∀ j u, cs[j]? = some u → w.cell? (ad.add j) = some u := fun j u hj => by
      obtain ⟨g, off, e1, h4⟩ := hc j u hj
      cases e1
      have ha : (⟨g, off, none⟩ : Addr).add j = ⟨g, off + j, none⟩ := by cases j <;> simp [Addr.add]
      rw [ha, h4]
    subst hz1
    by_cases hn : n = 0
    · subst hn
      have hx0 : cs = [] := List.eq_nil_of_length_eq_zero (by simpa using hcl)
      subst hx0
      have hs : Src P i0.size t (.slice (some ad) 0 c) 0 [] w := Src.ofSlice w ht ad 0 c [] (by simp) (by simp) (by simp)
      have hr2 := run_append_nothing (P := P) w t t ty e i0 ht hi0 ao 0 0 (Nat.zero_le _) (.slice (some ad) 0 c) hs
      rw [hr2] at hr
      simp only [Result.ok.injEq] at hr
      exact same hr.2.symm
    · have hs : Src P i0.size t (.slice (some ad) n c) n cs w := Src.ofSlice w ht ad n c cs hcl hnews h1
      have h63 : (0 + n) * i0.bytes ≤ 100000000000 * 640 := Nat.mul_le_mul (by omega) (by rw [hz2]; exact hby)
      have hr2 := run_append_grow_src (P := P) w t t ty e i0 z ht hi0 hz0 ao 0 0 [] (by cases ao <;> simp [Builtin.firstCells, loadCells, loadCellsFrom]) (.slice (some ad) n c) n cs hs (by omega) (by omega) (growslice_fits (by omega) (by omega))
      rw [hr2] at hr
      simp only [Result.ok.injEq] at hr
      rw [← hr.2]
      exact (Below.refl _ w).drew.alloc (Nat.le_refl _) _
theorem wp_append_copy0 {P : Program} (w : World) {o : Oper} {a : Act} {K : Act → World → Prop} {Q : Exit → Act → World → Prop} (s x : Operand) (t : TypeId)
    (ho : o.op = .call { callee := .builtin .append, args := #[s, x], argTypes := #[t, t] }) (base : Nat) (e : TypeId) (ht : P.underlying t = some (.slice e)) (z : Value) (m bytes : Nat)
    (hi : (P.info? e).map (fun i => (i.zero, i.size, i.bytes)) = some (some z, m, bytes)) (hzc : z.cells.size = m) (hm0 : 0 < m) (hby : bytes ≤ 640) (ao : Option Addr) (hs : a.eval s = .slice ao 0 0) (hown : w.ownsRow base e m (.slice ao 0 0) 0 [])
    (hbase : base ≤ w.heap.size) (u : Value) (hu : a.eval x = u) (n : Nat) (cs : List Value) (hx : RC w u n cs) (hcl : cs.length = n * m) (h1 : ∀ u ∈ cs, u.oneCell' = true) (hl : n ≤ 100000000000)
    (h : ∀ v' w', w'.ownsRow base e m v' n cs → Below w.heap.size w w' → (v'.ownBlock = (Value.slice ao 0 0).ownBlock ∨ v'.ownBlock = some w.heap.size) → K (a.put o.dst v') w') : o.wp P a w K Q := by
  obtain ⟨v', w', hr, h2, h3, h4⟩ := run_append_copy0 (P := P) w t o.type base e ht z m bytes hi hzc hm0 hby ao hown hbase u n cs hx hcl h1 hl
  unfold Oper.wp execOp
  simp only [ho, resolve, invoke, builtin, Sem.run_bind, Sem.run_pure, Result.andThen_ok, List.map_toArray, List.map_cons, List.map_nil, hs, hu, hr]
  exact h v' w' h2 h3 h4
theorem step_append_copy0 {P : Program} (w : World) {ops : Array Oper} {o : Oper} {a : Act} {K : Act → World → Prop} {Q : Exit → Act → World → Prop} {E : Prop} (hgd : o.guard = none) (s x : Operand) (t : TypeId)
    (ho : o.op = .call { callee := .builtin .append, args := #[s, x], argTypes := #[t, t] }) (base : Nat) (e : TypeId) (ht : P.underlying t = some (.slice e)) (z : Value) (m bytes : Nat)
    (hi : (P.info? e).map (fun i => (i.zero, i.size, i.bytes)) = some (some z, m, bytes)) (hzc : z.cells.size = m) (hm0 : 0 < m) (hby : bytes ≤ 640) (ao : Option Addr) (hs : a.eval s = .slice ao 0 0) (hown : w.ownsRow base e m (.slice ao 0 0) 0 [])
    (hbase : base ≤ w.heap.size) (u : Value) (hu : a.eval x = u) (n : Nat) (cs : List Value) (hx : RC w u n cs) (hcl : cs.length = n * m) (h1 : ∀ u ∈ cs, u.oneCell' = true) (hl : n ≤ 100000000000)
    (h : ∀ v' w', w'.ownsRow base e m v' n cs → Below w.heap.size w w' → (v'.ownBlock = (Value.slice ao 0 0).ownBlock ∨ v'.ownBlock = some w.heap.size) → K (a.put o.dst v') w') :
    if Region.wanted o (yielded ops a.tmps) = true then Oper.wp P o a w K Q else E := by
  rw [if_pos (by simp [Region.wanted, hgd])]
  exact wp_append_copy0 w s x t ho base e ht z m bytes hi hzc hm0 hby ao hs hown hbase u hu n cs hx hcl h1 hl h
theorem RFl.rc {w : World} {v : Value} {xs : List Bool} (h : RFl w v xs) : RC w v xs.length (fc xs) := by
  obtain ⟨a, c, rfl, h⟩ := h
  refine ⟨a, c, rfl, fun j u hj => ?_⟩
  have hl : j < xs.length := by have := (List.getElem?_eq_some_iff.1 hj).1; rwa [fc_length] at this
  obtain ⟨g, off, e1, -, e2⟩ := h j hl
  have : u = .bool xs[j] := by simp [fc, hl] at hj; exact hj.symm
  exact ⟨g, off, e1, by rw [e2, this]⟩
theorem RInts.rc {w : World} {v : Value} {xs : List Int} (h : RInts w v xs) : RC w v xs.length (ic xs) := by
  obtain ⟨a, c, rfl, h⟩ := h
  refine ⟨a, c, rfl, fun j u hj => ?_⟩
  have hl : j < xs.length := by have := (List.getElem?_eq_some_iff.1 hj).1; rwa [ic_length] at this
  obtain ⟨g, off, e1, -, e2⟩ := h j hl
  have : u = .int .i64 xs[j] := by simp [ic, hl] at hj; exact hj.symm
  exact ⟨g, off, e1, by rw [e2, this]⟩
theorem RSl.rc {w : World} {v : Value} {xs : List Sl} (h : RSl w v xs) : RC w v xs.length (sc xs) := by
  obtain ⟨a, c, rfl, -, h⟩ := h
  refine ⟨a, c, rfl, fun j u hj => ?_⟩
  have hl : j < xs.length * 2 := by have := (List.getElem?_eq_some_iff.1 hj).1; rwa [sc_length] at this
  obtain ⟨q, hq⟩ : ∃ q, q = j / 2 := ⟨_, rfl⟩
  have hql : q < xs.length := by omega
  obtain ⟨g, off, e1, -, e2, e3⟩ := h q hql
  have hm : j % 2 = 0 ∨ j % 2 = 1 := by omega
  rcases hm with hm | hm
  · have hj2 : j = q * 2 := by omega
    rw [hj2, sc_name xs q hql] at hj
    exact ⟨g, off, e1, by rw [hj2, e2]; exact hj⟩
  · have hj2 : j = q * 2 + 1 := by omega
    rw [hj2, sc_ino xs q hql] at hj
    exact ⟨g, off, e1, by rw [hj2, ← Nat.add_assoc, e3]; exact hj⟩
theorem fc_one (xs : List Bool) : ∀ u ∈ fc xs, u.oneCell' = true := fun u hu => by simp only [fc, List.mem_map] at hu; obtain ⟨_, -, rfl⟩ := hu; rfl
theorem ic_one (xs : List Int) : ∀ u ∈ ic xs, u.oneCell' = true := fun u hu => by simp only [ic, List.mem_map] at hu; obtain ⟨_, -, rfl⟩ := hu; rfl
theorem sc_one (xs : List Sl) : ∀ u ∈ sc xs, u.oneCell' = true := by
  induction xs with
  | nil => intro u hu; cases hu
  | cons s r ih =>
    intro u hu
    simp only [sc, List.mem_cons] at hu
    rcases hu with rfl | rfl | hu
    · rfl
    · rfl
    · exact ih u hu
theorem RInts.drew {w : World} {v : Value} {xs : List Int} (h : RInts w v xs) : RInts w.drew v xs := h.below (Below.refl w.heap.size w).drew (Nat.le_refl _)
/-- Behind an append to what is new only new blocks have turned. -/
theorem below_of_append {B : Nat} {w0 w w' : World} {v : Value} (hb : Below B w0 w) (hB : B ≤ w.heap.size) (hg : w.grownBy w' v.ownBlock) (hv : ∀ k, v.ownBlock = some k → B ≤ k) : Below B w0 w' := hb.grown hg hB hv
end Go.Proofs.Ytgjbenbodegnjaa.Kit
