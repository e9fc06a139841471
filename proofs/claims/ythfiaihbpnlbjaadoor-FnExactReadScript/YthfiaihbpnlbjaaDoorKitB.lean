/- Plain facts for the walks of one seat, no Go function spoken of: slices of one-cell elements that a call owns or reads. -/
import Derived.Test.YthfiaihbpnlbjaaDoorKit
namespace Go.Proofs.YthfiaihbpnlbjaaDoor.Kit
open Go.RowKit

/-- The slice value v owns the cells xs (element type e), in blocks from 'base' on. -/
def ROwns (w : World) (base : Nat) (e : TypeId) (v : Value) (xs : List Value) : Prop := w.ownsRow base e 1 v xs.length xs

theorem ROwns.alloc {w : World} {base : Nat} {e : TypeId} {v : Value} {l : List Value} (h : ROwns w base e v l) (o : Obj) : ROwns (w.alloc o) base e v l := World.ownsRow.alloc h o
theorem ROwns.drew {w : World} {base : Nat} {e : TypeId} {v : Value} {l : List Value} (h : ROwns w base e v l) : ROwns w.drew base e v l := World.ownsRow.drew h
theorem ROwns.nil (w : World) (base : Nat) (e : TypeId) : ROwns w base e (.slice none 0 0) [] := World.ownsRow_nil _ _ _ _
theorem ROwns.lit0 (w : World) (base : Nat) (e : TypeId) (hb : base ≤ w.heap.size) : ROwns (w.alloc (.cells #[] e)) base e (.slice (some ⟨w.heap.size, 0, none⟩) 0 0) [] :=
  World.ownsRow_lit w #[] 0 hb (Nat.zero_le _) rfl
theorem ROwns.lit (w : World) (base : Nat) (e : TypeId) (cs : Array Value) (hb : base ≤ w.heap.size) (hm : cs.size ≤ maxLen) : ROwns (w.alloc (.cells cs e)) base e (.slice (some ⟨w.heap.size, 0, none⟩) cs.size cs.size) cs.toList := by
  have := World.ownsRow_lit (base := base) (e := e) (size := 1) w cs cs.size hb hm (by omega)
  unfold ROwns
  rwa [Array.length_toList]
theorem ROwns.lt {w : World} {base : Nat} {e : TypeId} {v : Value} {l : List Value} (h : ROwns w base e v l) : ∀ k, v.ownBlock = some k → base ≤ k ∧ k < w.heap.size := World.ownsRow.lt h
theorem ROwns.base_le {w : World} {base base' : Nat} {e : TypeId} {v : Value} {l : List Value} (h : ROwns w base e v l) (hb : base' ≤ base) : ROwns w base' e v l := by
  refine ⟨h.1, ?_⟩
  rcases h.2 with h1 | ⟨g, cap, cur, h1, h2, h3⟩
  · exact .inl h1
  · exact .inr ⟨g, cap, cur, h1, by omega, h3⟩
theorem ROwns.form {w : World} {base : Nat} {e : TypeId} {v : Value} {l : List Value} (h : ROwns w base e v l) : ∃ a cap, v = .slice a l.length cap ∧ (a = none → l = []) := by
  rcases h.2 with ⟨rfl, h0⟩ | ⟨g, cap, cur, rfl, _⟩
  · exact ⟨none, 0, by rw [h0], fun _ => List.length_eq_zero_iff.1 h0⟩
  · exact ⟨_, _, rfl, fun h => by cases h⟩
/-- What is owned stays owned where its own block stays as it was. -/
theorem ROwns.of_heap {w w' : World} {base : Nat} {e : TypeId} {v : Value} {l : List Value} (h : ROwns w base e v l) (hh : ∀ k, v.ownBlock = some k → w'.heap[k]? = w.heap[k]?) : ROwns w' base e v l := by
  refine ⟨h.1, ?_⟩
  rcases h.2 with h1 | ⟨g, cap, cur, h1, h2, h3, h4⟩
  · exact .inl h1
  · exact .inr ⟨g, cap, cur, h1, h2, by rw [hh g (by rw [h1]; rfl), h3], h4⟩
theorem ROwns.below {w w' : World} {base B : Nat} {e : TypeId} {v : Value} {l : List Value} (h : ROwns w base e v l) (hb : Below B w w') (hB : w.heap.size ≤ B) : ROwns w' base e v l :=
  h.of_heap fun k hk => hb.block k (by have := (h.lt k hk).2; omega)
theorem ROwns.grown {w w' : World} {base : Nat} {e : TypeId} {v : Value} {l : List Value} {row : Option Nat} (h : ROwns w base e v l) (hg : w.grownBy w' row) (hn : ∀ k, v.ownBlock = some k → row ≠ some k) : ROwns w' base e v l :=
  h.of_heap fun k hk => hg.block k (h.lt k hk).2 (fun e => hn k hk e.symm)
theorem grownBy_below {w w' : World} (h : Below w.heap.size w w') (row : Option Nat) : w.grownBy w' row := ⟨h.os, h.tape, h.output, h.size, fun k hk _ => h.block k hk⟩
theorem grownBy_trans {a b c : World} {row : Option Nat} (h : a.grownBy b row) (k : b.grownBy c row) : a.grownBy c row :=
  ⟨k.os.trans h.os, k.tape.trans h.tape, k.output.trans h.output, Nat.le_trans h.size k.size, fun i hi hr => (k.block i (by have := h.size; omega) hr).trans (h.block i hi hr)⟩

/-- 'out = append(out, u)' of one cell that was just laid in a block of its own. -/
theorem wpList_append_cell {P : Program} (w0 w : World) {ops : Array Oper} {rest : List Oper} {o : Oper} {a : Act} {Q : Exit → Act → World → Prop} (hgd : o.guard = none) (s x : Operand) (t : TypeId)
    (ho : o.op = .call { callee := .builtin .append, args := #[s, x], argTypes := #[t, t] }) (base : Nat) (e : TypeId) (ht : P.underlying t = some (.slice e)) (z : Value) (bytes : Nat)
    (hi : (P.info? e).map (fun i => (i.zero, i.size, i.bytes)) = some (some z, 1, bytes)) (hzc : z.cells.size = 1) (hby : bytes ≤ 64) (v : Value) (xs : List Value) (hs : a.eval s = v) (hown : ROwns w base e v xs)
    (hb : Below base w0 w) (hbase : base ≤ w.heap.size) (u : Value) (hu : u.oneCell' = true) (hx : a.eval x = .slice (some ⟨w.heap.size, 0, none⟩) 1 1) (hl : xs.length ≤ 1000000000000)
    (h : ∀ v' w', ROwns w' base e v' (xs ++ [u]) → Below base w0 w' → Keeps w w' v v' → wpList P ops Q rest (a.put o.dst v') w') : wpList P ops Q (o :: rest) a (w.alloc (.cells #[u] e)) := by
  obtain ⟨i0, hi, hz0, hz1, hz2⟩ := info_parts hi
  have hown2 : (w.alloc (.cells #[u] e)).ownsRow base e 1 v xs.length xs := hown.alloc _
  refine wpList_append_lies _ hgd s x t ho base e i0 z 1 bytes ht hi hz0 hz1 hz2 hzc (by decide) v xs.length xs hs hown2 ⟨w.heap.size, 0, none⟩ 1 1 [u] hx rfl ?_ ?_ (by decide) ?_ ?_ (by simp; omega) (w.heap.size + 1) (by simp) ?_
  · intro j y hj
    match j, hj with
    | 0, hj => simp at hj; subst hj; simp [Addr.add]
  · intro y hy; simp at hy; subst hy; exact hu
  · unfold maxLen; omega
  · have : (xs.length + 1) * bytes ≤ 1000000000001 * 64 := Nat.mul_le_mul (by omega) hby
    omega
  · intro g' cap w' hown' hgrow hat _
    refine h _ w' ?_ ((hb.alloc hbase _).grown hgrow (by simp; omega) fun k hk => (hown2.lt k hk).1) ?_
    · unfold ROwns
      rw [List.length_append]
      exact hown'
    · intro B hB hne
      constructor
      · intro hc
        simp only [Value.ownBlock, Option.some.injEq] at hc
        subst hc
        rcases hat with hat | hat
        · exact hne hat
        · omega
      · rw [hgrow.block B (by simp; omega) (fun e => hne e.symm)]
        exact Below.heap_alloc _ _ _ hB

/-- Where the cells of what is owned lie. -/
theorem ROwns.at {w : World} {base : Nat} {e : TypeId} {v : Value} {l : List Value} (h : ROwns w base e v l) (k : Nat) (hk : k < l.length) :
    ∃ g cap, v = .slice (some ⟨g, 0, none⟩) l.length cap ∧ w.cell? ⟨g, k, none⟩ = l[k]? ∧ w.frozen? ⟨g, k, none⟩ = false ∧ base ≤ g ∧ g < w.heap.size ∧ l.length ≤ cap := by
  have hlt := h.lt
  rcases h.2 with ⟨h1, h0⟩ | ⟨g, cap, cur, rfl, h2, h3, h4, h5, h6, h7⟩
  · omega
  · have h' : w.ownsRow base e 1 (.slice (some ⟨g, 0, none⟩) l.length cap) l.length l := h
    exact ⟨g, cap, rfl, h'.cellAt k (by omega), h'.frozenAt k, h2, (hlt g rfl).2, h4⟩
theorem ROwns.stored {w : World} {base g cap : Nat} {e : TypeId} {l : List Value} (h : ROwns w base e (.slice (some ⟨g, 0, none⟩) l.length cap) l) (k : Nat) (u : Value) :
    ROwns (w.setCell ⟨g, k, none⟩ u) base e (.slice (some ⟨g, 0, none⟩) l.length cap) (l.set k u) ∧ w.grownBy (w.setCell ⟨g, k, none⟩ u) (some g) := by
  have := World.ownsRow.stored h k u
  refine ⟨?_, this.2⟩
  unfold ROwns
  rw [List.length_set]
  exact this.1
end Go.Proofs.YthfiaihbpnlbjaaDoor.Kit
