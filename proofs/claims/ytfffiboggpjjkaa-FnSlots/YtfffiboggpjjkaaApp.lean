/- 'xs = append(xs, Slot{..})' at a step of a region that draws. No Go function is spoken of. -/
import Derived.Test.YtfffiboggpjjkaaAt
namespace Go.Proofs.Ytfffiboggpjjkaa.Kit
open Go.RowKit
theorem step_append_slot {P : Program} (w0 w : World) {ops : Array Oper} {o : Oper} {a : Act} {K : Act → World → Prop} {Q : Exit → Act → World → Prop} {E : Prop} (hgd : o.guard = none) (s x : Operand) (t : TypeId)
    (ho : o.op = .call { callee := .builtin .append, args := #[s, x], argTypes := #[t, t] }) (base : Nat) (e : TypeId) (ht : P.underlying t = some (.slice e)) (z : Value) (bytes : Nat)
    (hi : (P.info? e).map (fun i => (i.zero, i.size, i.bytes)) = some (some z, 2, bytes)) (hzc : z.cells.size = 2) (hby : bytes ≤ 64) (v : Value) (xs : List Sl) (hs : a.eval s = v) (hown : SOwns w base e v xs)
    (hb : Below base w0 w) (hbase : base ≤ w.heap.size) (n : ByteArray) (i : Int) (hx : a.eval x = .slice (some ⟨w.heap.size, 0, none⟩) 1 1) (hl : xs.length ≤ 1000000000000)
    (h : ∀ v' w', SOwns w' base e v' (xs ++ [(n, i)]) → Below base w0 w' → Keeps w w' v v' → K (a.put o.dst v') w') :
    if Region.wanted o (yielded ops a.tmps) = true then Oper.wp P o a (w.alloc (.cells #[.string n, .int .i64 i] e)).drew K Q else E := by
  obtain ⟨i0, hi, hz0, hz1, hz2⟩ := info_parts hi
  have hown2 : (w.alloc (.cells #[.string n, .int .i64 i] e)).drew.ownsRow base e 2 v xs.length (sc xs) := (hown.alloc _).drew
  refine step_append_lies _ hgd s x t ho base e i0 z 2 bytes ht hi hz0 hz1 hz2 hzc (by decide) v xs.length (sc xs) hs hown2 ⟨w.heap.size, 0, none⟩ 1 1 (sc [(n, i)]) hx rfl ?_ ?_ (by decide) ?_ ?_ (by simp; omega) (w.heap.size + 1) (by simp) ?_
  · intro j y hj
    match j, hj with
    | 0, hj => simp [sc] at hj; subst hj; simp [Addr.add]
    | 1, hj => simp [sc] at hj; subst hj; simp [Addr.add]
    | j + 2, hj => simp [sc] at hj
  · intro y hy
    simp [sc] at hy
    rcases hy with rfl | rfl <;> rfl
  · unfold maxLen; omega
  · have : (xs.length + 1) * bytes ≤ 1000000000001 * 64 := Nat.mul_le_mul (by omega) hby
    omega
  · intro g' cap w' hown' hgrow hat _
    refine h _ w' ?_ ((hb.alloc hbase _).drew.grown hgrow (by simp; omega) fun k hk => (hown2.lt k hk).1) ?_
    · unfold SOwns
      rw [List.length_append, sc_append]
      exact hown'
    · intro B hB hne
      constructor
      · intro hc
        simp only [Value.ownBlock, Option.some.injEq] at hc
        subst hc
        rcases hat with hat | hat
        · exact hne hat
        · omega
      · rw [hgrow.block B (by simp; omega) (fun e => hne e.symm)]
        exact Below.heap_alloc _ _ _ hB
end Go.Proofs.Ytfffiboggpjjkaa.Kit
