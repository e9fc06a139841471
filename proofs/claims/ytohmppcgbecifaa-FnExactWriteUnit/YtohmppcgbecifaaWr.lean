/- spec.WriteUnit and impl.WriteUnit by their contracts. -/
import Derived.Test.YtohmppcgbecifaaDev
import Derived.Test.YtohmppcgbecifaaShelf
import Derived.Deep.Upon
import Derived.Laws.CopyOwn
namespace Go.Proofs.Ytohmppcgbecifaa.Kit
open Go.RowKit
theorem run_append_texts {P : Program} (w : World) (t ty : TypeId) (base : Nat) (e : TypeId) (ht : P.underlying t = some (.slice e)) (z : Value) (bytes : Nat)
    (hi : (P.info? e).map (fun i => (i.zero, i.size, i.bytes)) = some (some z, 1, bytes)) (hzc : z.cells.size = 1) (hby : bytes ≤ 64) (v : Value) (ys xs : List ByteArray) (hown : ROwns w base e v (sc ys))
    (hbase : base ≤ w.heap.size) (x : Value) (hx : RSt w x xs) (hl : ys.length + xs.length ≤ 1000000000000) :
    ∃ v' w', (Builtin.append_ #[t, t] ty #[v, x]).run P w = .ok v' w' ∧ ROwns w' base e v' (sc (ys ++ xs)) ∧ w.grownBy w' v.ownBlock ∧ (v'.ownBlock = v.ownBlock ∨ v'.ownBlock = some w.heap.size) := by
  obtain ⟨i0, hi, hz0, hz1, hz2⟩ := info_parts hi
  obtain ⟨a, c, rfl, hc⟩ := hx
  cases a with
  | none =>
    have hx0 : xs = [] := by
      cases xs with
      | nil => rfl
      | cons y r => obtain ⟨_, _, h, _⟩ := hc 0 (by simp); cases h
    subst hx0
    obtain ⟨av, cv, rfl, -⟩ := hown.form
    have hle : (sc ys).length ≤ cv := by
      rcases hown.2 with ⟨h1, h0⟩ | ⟨g, cap, cur, h1, -, -, h4, -⟩
      · rw [h0]; exact Nat.zero_le _
      · simp only [Value.slice.injEq] at h1
        omega
    have hr := run_append_nothing (P := P) w t t ty e i0 ht hi av (sc ys).length cv hle (.slice none 0 c) (Src.ofNil w ht c)
    exact ⟨_, w, hr, by rw [List.append_nil]; exact hown, grownBy_below (Below.refl _ _) _, .inl rfl⟩
  | some ad =>
    have h63 : (ys.length + xs.length) * bytes ≤ 1000000000000 * 64 := Nat.mul_le_mul hl hby
    have hown' : w.ownsRow base e 1 v ys.length (sc ys) := by have : w.ownsRow base e 1 v (sc ys).length (sc ys) := hown; rwa [sc_length] at this
    obtain ⟨v', w', hr, h2, h3, _, h5⟩ := run_append_own_at (P := P) w base t ty e i0 z 1 bytes ht hi hz0 hz1 hz2 hzc (by decide) v ys.length (sc ys) hown' ad xs.length c (sc xs) (by rw [sc_length, Nat.mul_one])
      (fun j u hj => by
        have hjl : j < xs.length := by have := (List.getElem?_eq_some_iff.1 hj).1; rwa [sc_length] at this
        rw [sc_at xs j hjl] at hj
        cases hj
        obtain ⟨g, off, e1, -, h4⟩ := hc j hjl
        cases e1
        have ha : (⟨g, off, none⟩ : Addr).add j = ⟨g, off + j, none⟩ := by cases j <;> simp [Addr.add]
        rw [ha, h4])
      (fun u hu => by simp only [sc, List.mem_map] at hu; obtain ⟨_, -, rfl⟩ := hu; rfl)
      (by unfold maxLen; omega) (by omega) hbase
    refine ⟨v', w', hr, ?_, h3, h5⟩
    unfold ROwns
    rw [sc_append, List.length_append, sc_length, sc_length]
    exact h2
theorem wpList_append_texts {P : Program} (w : World) {ops : Array Oper} {rest : List Oper} {o : Oper} {a : Act} {Q : Exit → Act → World → Prop} (hgd : o.guard = none) (s x : Operand) (t : TypeId)
    (ho : o.op = .call { callee := .builtin .append, args := #[s, x], argTypes := #[t, t] }) (base : Nat) (e : TypeId) (ht : P.underlying t = some (.slice e)) (z : Value) (bytes : Nat)
    (hi : (P.info? e).map (fun i => (i.zero, i.size, i.bytes)) = some (some z, 1, bytes)) (hzc : z.cells.size = 1) (hby : bytes ≤ 64) (v u : Value) (ys xs : List ByteArray) (hs : a.eval s = v) (hu : a.eval x = u) (hown : ROwns w base e v (sc ys))
    (hbase : base ≤ w.heap.size) (hx : RSt w u xs) (hl : ys.length + xs.length ≤ 1000000000000)
    (h : ∀ v' w', ROwns w' base e v' (sc (ys ++ xs)) → w.grownBy w' v.ownBlock → (v'.ownBlock = v.ownBlock ∨ v'.ownBlock = some w.heap.size) → wpList P ops Q rest (a.put o.dst v') w') : wpList P ops Q (o :: rest) a w := by
  refine wpList_plain hgd fun K hK => ?_
  obtain ⟨v', w', hr, h2, h3, h4⟩ := run_append_texts (P := P) w t o.type base e ht z bytes hi hzc hby v ys xs hown hbase u hx hl
  unfold Oper.wp execOp
  simp only [ho, resolve, invoke, builtin, Sem.run_bind, Sem.run_pure, Result.andThen_ok, List.map_toArray, List.map_cons, List.map_nil, hs, hu, hr]
  exact hK _ _ (h v' w' h2 h3 h4)
/-- The block of what is owned without spare room. -/
theorem ROwns.whole {w : World} {base g : Nat} {e : TypeId} {l : List Value} (h : ROwns w base e (.slice (some ⟨g, 0, none⟩) l.length l.length) l) : w.heap[g]? = some (.cells l.toArray e (0, 0)) := by
  rcases h.2 with ⟨h1, h0⟩ | ⟨g', cap, cur, h1, -, h3, -, -, h6, h7⟩
  · cases h1
  · simp only [Value.slice.injEq, Option.some.injEq, Addr.mk.injEq] at h1
    obtain ⟨⟨rfl, -, -⟩, -, rfl⟩ := h1
    rw [h3]
    congr 2
    apply Array.ext'
    rw [Nat.mul_one, List.take_of_length_le (by rw [Array.length_toList]; omega)] at h7
    simpa using h7
theorem whole_owns {w : World} {base g : Nat} {e : TypeId} {l : List Value} (h : w.heap[g]? = some (.cells l.toArray e (0, 0))) (hb : base ≤ g) (hm : l.length ≤ maxLen) : ROwns w base e (.slice (some ⟨g, 0, none⟩) l.length l.length) l :=
  ⟨by omega, .inr ⟨g, l.length, l.toArray, rfl, hb, h, Nat.le_refl _, hm, by simp, by simp⟩⟩
theorem splice_one (l : List ByteArray) (k : Nat) (t : ByteArray) (h : k < l.length) : splice (sc l) k [.string t] = sc (l.set k t) := by
  unfold splice
  rw [← sc_set, List.set_eq_take_append_cons_drop, if_pos (by rw [sc_length]; exact h)]
  simp
/-- What WriteUnit answers: is it written. -/
def okW (xs : List ByteArray) (u : Int) (s : ByteArray) : Bool := okD xs && (decide (0 ≤ u) && decide (u < 21)) && decide (s.size ≤ 60)
/-- The device behind WriteUnit. -/
def wr (xs : List ByteArray) (u : Int) (s : ByteArray) : List ByteArray := if okW xs u s then xs.set u.toNat s else xs
theorem wr_length (xs : List ByteArray) (u : Int) (s : ByteArray) : (wr xs u s).length = xs.length := by
  unfold wr
  split <;> simp
theorem wr_no {xs : List ByteArray} {u : Int} {s : ByteArray} (h : okW xs u s = false) : wr xs u s = xs := by simp [wr, h]
theorem wr_yes {xs : List ByteArray} {u : Int} {s : ByteArray} (h : okW xs u s = true) : wr xs u s = xs.set u.toNat s := by simp [wr, h]
end Go.Proofs.Ytohmppcgbecifaa.Kit
namespace Go.Proofs.Ytohmppcgbecifaa
open Go.RowKit Kit
theorem clone_any (s : ByteArray) (w : World) (h : s.size ≤ 281474976710656) :
    Calls Try.prog 35 #[.string s] w fun e w' => e = .returned (.string s) ∧ Below w.heap.size w w' := by
  go_enter Try.func35, Try.ntmps35
  go_wp2_with (go_at_call 37; refine (Try.stringslite_Clone _ _ h).mono ?_; rintro e w1 ⟨rfl, hb⟩)
  go_ret
  exact ⟨rfl, hb⟩

set_option maxRecDepth 100000 in
set_option maxHeartbeats 1600000 in
theorem newU_any (v : Value) (xs : List ByteArray) (w : World) (hv : RSt w v xs) (hl : xs.length ≤ 1048576) (hs : ∀ (j : Nat) (h : j < xs.length), xs[j].size ≤ 1048576) :
    Calls Try.prog 31 #[v] w fun e w' => e = .returned (.slice (some ⟨w.heap.size, 0, none⟩) xs.length xs.length) ∧ ROwns w' w.heap.size 9 (.slice (some ⟨w.heap.size, 0, none⟩) xs.length xs.length) (sc xs) ∧ Below w.heap.size w w' := by
  obtain ⟨a, c, rfl, hc⟩ := hv
  have HC := hide hc
  have HS := hide hs
  clear hc hs
  have mk := make_st xs.length (by omega)
  go_enter Try.func31, Try.ntmps31
  go_wp2
  go_loopw [11] (fun i wr => ∃ j : Nat, j ≤ xs.length ∧ i = .int .i64 j ∧ ROwns wr w.heap.size 9 (.slice (some ⟨w.heap.size, 0, none⟩) xs.length xs.length) (sc (copied j xs)) ∧ Below w.heap.size w wr) (fun i _ => xs.length - (intOf i).toNat)
  case atStart => exact ⟨0, Nat.zero_le _, rfl, made_texts w xs (by omega) 9, (Below.refl _ w).alloc (Nat.le_refl _) _⟩
  case round =>
    obtain ⟨j, hj, rfl, hown, hb⟩ := hrel
    by_cases hlt : j < xs.length
    · obtain ⟨g, off, rfl, hg, k1⟩ := HC.out j hlt
      have q1 : wr.cell? ⟨g, off + j, none⟩ = some (.string xs[j]) := (hb.cell (p := ⟨g, off + j, none⟩) hg).trans k1
      have hgt := HS.out j hlt
      obtain ⟨t, ht⟩ : ∃ t, xs[j] = t := ⟨_, rfl⟩
      have HN : Hid (∀ w1, Below wr.heap.size wr w1 → ROwns (w1.setCell ⟨w.heap.size, j, none⟩ (.string t)) w.heap.size 9 (.slice (some ⟨w.heap.size, 0, none⟩) xs.length xs.length) (sc (copied (j + 1) xs)) ∧ Below w.heap.size w (w1.setCell ⟨w.heap.size, j, none⟩ (.string t)) ∧ w1.cell? ⟨w.heap.size, j, none⟩ = some (.string ByteArray.empty) ∧ w1.frozen? ⟨w.heap.size, j, none⟩ = false ∧ w.heap.size < w1.heap.size) := fun w1 b1 => by
        obtain ⟨O2, q2, q3, q4⟩ := copied_next rfl hlt (hown.below b1 (Nat.le_refl _))
        rw [ht] at O2
        exact ⟨O2, (hb.trans (b1.mono hb.size)).setCell (p := ⟨w.heap.size, j, none⟩) (Nat.le_refl _) (.string t), q2, q3, q4⟩
      rw [ht] at q1 hgt
      have hg2 : g < wr.heap.size := by have := hb.size; omega
      have hcl : t.size ≤ 281474976710656 := by omega
      have j0 : (0 : Int) ≤ (j : Int) := by omega
      have j1 : (j : Int) < (xs.length : Int) := by omega
      clear hown hb ht k1 mk
      go_wp2_with (go_at_call 35; refine (clone_any t _ hcl).mono ?_; rintro e w1 ⟨rfl, b1⟩; obtain ⟨n1, n2, n3, n4, n5⟩ := HN.out _ b1; have N1 := hide (And.intro n1 n2); clear n1 n2 b1)
      go_roundw
      case rel => exact ⟨j + 1, by omega, by go_num, N1.out.1, N1.out.2⟩
      case measure => simp [intOf]; omega
    · have hjl : j = xs.length := by omega
      have HR := hide (And.intro hown hb)
      have HJ := hide hjl
      clear hown hb hjl mk
      go_wp2
      go_ret
      exact ⟨rfl, by have := HR.out.1; rwa [HJ.out, copied_all] at this, HR.out.2⟩

theorem unitAt_any (g k : Nat) (w : World) (hk : k < 21) : Calls Try.prog 32 #[.slice (some ⟨g, 0, none⟩) 21 21, .int .i64 (k : Int)] w fun e w' => e = .returned (.slice (some ⟨g, k, none⟩) 1 1) ∧ w = w' := by
  go_enter Try.func32, Try.ntmps32
  go_wp2
  go_ret
  exact ⟨by go_num, rfl⟩
theorem isUnit_any (u : Int) (w : World) : Calls Try.prog 30 #[.int .i64 u] w fun e w' => e = .returned (.bool (decide (0 ≤ u) && decide (u < 21))) ∧ w = w' := by
  by_cases h : 0 ≤ u
  · have b0 : decide (0 ≤ u) = true := by simpa using h
    rw [b0, Bool.true_and]
    go_enter Try.func30, Try.ntmps30
    go_wp2
    go_ret
    exact ⟨rfl, rfl⟩
  · have b0 : decide (0 ≤ u) = false := by simpa using h
    rw [b0, Bool.false_and]
    go_enter Try.func30, Try.ntmps30
    go_wp2
    go_ret
    exact ⟨rfl, rfl⟩
end Go.Proofs.Ytohmppcgbecifaa
