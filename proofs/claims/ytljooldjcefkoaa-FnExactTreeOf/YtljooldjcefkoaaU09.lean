/- Texts of the proof, bundled: Idl, Ua. -/
import Derived.Deep.AppendLies
import Derived.Test.YtljooldjcefkoaaU08
import Derived.Test.YtljooldjcefkoaaU07
/- The states of a region's operations that are closed under what they wait for, counted without the others. No Go function is spoken of. -/
namespace Go.Proofs.Ytljooldjcefkoaa.Kit
open Go.RowKit
/-- One of t waits for x. -/
def needs (md : Region.Mode) (ops : Array Oper) (t : List Nat) (x : Nat) : Bool := t.any fun i => match ops[i]? with | some o => o.after.any fun e => Region.binds md e && e.on == x | none => false
def ideals (md : Region.Mode) (ops : Array Oper) : List Nat → List (List Nat)
  | [] => [[]]
  | x :: r => (ideals md ops r).filter (fun t => !needs md ops t x) ++ (ideals md ops r).map fun t => x :: t
theorem subs_sub : ∀ (js t : List Nat), t ∈ subs js → ∀ i ∈ t, i ∈ js
  | [], t, h, i, hi => by simp [subs] at h; subst h; simp at hi
  | x :: r, t, h, i, hi => by
    rw [subs, List.mem_append] at h
    rcases h with h | h
    · exact List.mem_cons_of_mem _ (subs_sub r t h i hi)
    · obtain ⟨t', h', rfl⟩ := List.mem_map.mp h
      rcases List.mem_cons.mp hi with rfl | hi
      · exact List.mem_cons_self
      · exact List.mem_cons_of_mem _ (subs_sub r t' h' i hi)
theorem mem_ideals (md : Region.Mode) (ops : Array Oper) : ∀ (js : List Nat), js.Nodup → ∀ t ∈ subs js, (∀ i ∈ t, ∀ o, ops[i]? = some o → ∀ e ∈ o.after, Region.binds md e = true → e.on ∈ js → e.on ∈ t) → t ∈ ideals md ops js
  | [], _, t, ht, _ => by simpa [subs, ideals] using ht
  | x :: r, hn, t, ht, hc => by
    obtain ⟨hx, hr⟩ := List.nodup_cons.mp hn
    rw [subs, List.mem_append] at ht
    rw [ideals, List.mem_append]
    rcases ht with ht | ht
    · left
      refine List.mem_filter.mpr ⟨mem_ideals md ops r hr t ht fun i hi o ho e he hb hj => hc i hi o ho e he hb (List.mem_cons_of_mem _ hj), ?_⟩
      have hxt : x ∉ t := fun e => hx (subs_sub r t ht x e)
      simp only [Bool.not_eq_true', needs, List.any_eq_false]
      intro i hi
      cases ho : ops[i]? with
      | none => simp
      | some o =>
        intro hh
        obtain ⟨k, hk, hh⟩ := Array.any_eq_true.mp hh
        simp only [Bool.and_eq_true, beq_iff_eq] at hh
        obtain ⟨hb, he⟩ := hh
        exact hxt (he ▸ hc i hi o ho o.after[k] (Array.getElem_mem hk) hb (by rw [he]; exact List.mem_cons_self))
    · right
      obtain ⟨t', h', rfl⟩ := List.mem_map.mp ht
      refine List.mem_map.mpr ⟨t', mem_ideals md ops r hr t' h' fun i hi o ho e he hb hj => ?_, rfl⟩
      rcases List.mem_cons.mp (hc i (List.mem_cons_of_mem _ hi) o ho e he hb (List.mem_cons_of_mem _ hj)) with q | q
      · exact absurd (q ▸ hj) hx
      · exact q
def makersOkI (md : Region.Mode) (ops : Array Oper) (js : List Nat) (exits : List (List Nat)) : Bool :=
  (ideals md ops js).all fun t => t == js || exits.contains t || !closedB md ops t || (!(Region.ready md ops (mask ops.size t)).isEmpty && (Region.ready md ops (mask ops.size t)).all fun i => js.contains i && !t.contains i)
theorem makersOk2_of {md : Region.Mode} {ops : Array Oper} {js : List Nat} {exits : List (List Nat)} (hn : decide js.Nodup = true) (h : makersOkI md ops js exits = true) : makersOk2 md ops js exits = true := by
  unfold makersOk2
  refine List.all_eq_true.mpr fun t ht => ?_
  by_cases hc : closedB md ops t = true
  · refine List.all_eq_true.mp h t (mem_ideals md ops js (of_decide_eq_true hn) t ht fun i hi o ho e he hb _ => ?_)
    have := List.all_eq_true.mp hc i hi
    rw [ho] at this
    obtain ⟨k, hk, rfl⟩ := Array.mem_iff_getElem.mp he
    have := Array.all_eq_true.mp this k hk
    rw [hb] at this
    simpa using this
  · simp [hc]
theorem makersOk_of {md : Region.Mode} {ops : Array Oper} {js : List Nat} (hn : decide js.Nodup = true) (h : makersOkI md ops js [] = true) : makersOk md ops js = true := by
  have := makersOk2_of hn h
  unfold makersOk2 at this
  unfold makersOk
  simpa using this
end Go.Proofs.Ytljooldjcefkoaa.Kit
/- Small facts of texts and appends. No Go function is spoken of. -/
namespace Go.Proofs.Ytljooldjcefkoaa.Kit
open Go.RowKit
/-- Texts as cells. -/
def stc (l : List ByteArray) : List Value := l.map fun z => Value.string z
theorem stc_length (l : List ByteArray) : (stc l).length = l.length := by simp [stc]
theorem stc_append (a b : List ByteArray) : stc (a ++ b) = stc a ++ stc b := by simp [stc]
theorem step_append_one {P : Program} (W : World) {ops : Array Oper} {o : Oper} {a : Act} {K : Act → World → Prop} {Q : Exit → Act → World → Prop} {E : Prop} (hgd : o.guard = none) (s x : Operand) (t : TypeId)
    (ho : o.op = .call { callee := .builtin .append, args := #[s, x], argTypes := #[t, t] }) (base : Nat) (e : TypeId) (ht : P.underlying t = some (.slice e)) (z : Value) (bytes : Nat)
    (hi : (P.info? e).map (fun i => (i.zero, i.size, i.bytes)) = some (some z, 1, bytes)) (hzc : z.cells.size = 1) (hby : bytes ≤ 640) (v : Value) (l : List Value) (hs : a.eval s = v) (hown : ROwns W base e v l) (hbase : base ≤ W.heap.size)
    (g : Nat) (y : Value) (hx : a.eval x = .slice (some ⟨g, 0, none⟩) 1 1) (hc : W.cell? ⟨g, 0, none⟩ = some y) (h1 : y.oneCell' = true) (hl : l.length ≤ 100000000000)
    (h : ∀ v' w', ROwns w' base e v' (l ++ [y]) → W.grownBy w' v.ownBlock → (∀ k, v'.ownBlock = some k → v.ownBlock = some k ∨ W.heap.size ≤ k) → K (a.put o.dst v') w') :
    if Region.wanted o (yielded ops a.tmps) = true then Oper.wp P o a W K Q else E := by
  obtain ⟨i0, hi, hz0, hz1, hz2⟩ := info_parts hi
  refine step_append_lies _ hgd s x t ho base e i0 z 1 bytes ht hi hz0 hz1 hz2 hzc (by decide) v l.length l hs hown ⟨g, 0, none⟩ 1 1 [y] hx rfl ?_ (by simpa using h1) (by decide) ?_ ?_ hbase W.heap.size rfl ?_
  · intro j u hj
    cases j with
    | zero => simp only [List.getElem?_cons_zero, Option.some.injEq] at hj; subst hj; simpa [Addr.add] using hc
    | succ j => simp at hj
  · unfold maxLen; omega
  · have : (l.length + 1) * bytes ≤ 100000000001 * 640 := Nat.mul_le_mul (by omega) hby
    omega
  · intro g' cap w' hown' hgrow hat _
    refine h _ w' ?_ hgrow fun k hk => ?_
    · unfold ROwns
      rw [List.length_append]
      exact hown'
    · simp only [Value.ownBlock, Option.some.injEq] at hk
      subst hk
      rcases hat with hat | hat
      · exact .inl hat
      · exact .inr (by omega)
/-- What l11Block answers: a block that is there, or none. -/
def BlkR (w0 : World) (bd : Bool) (btx : ByteArray) (bss : List Sl) (F : Bool) (_ _ : Nat) (_ : World) (a r : Value) : Prop := ∃ (sa : Option Addr) (sc : Nat), a = .agg #[.bool bd, .slice sa bss.length sc, .string btx] ∧ r = .bool F ∧ RSl w0 (.slice sa bss.length sc) bss
theorem BlkR.below {w0 : World} {bd : Bool} {btx : ByteArray} {bss : List Sl} {F : Bool} (lo hi : Nat) (w w' : World) (a r : Value) (h : BlkR w0 bd btx bss F lo hi w a r) (_ : Below w.heap.size w w') : BlkR w0 bd btx bss F lo hi w' a r := h
theorem beq_empty {a : ByteArray} (h : ¬ a = ⟨#[]⟩) : (a.toList == ([] : List UInt8)) = false := by
  have := beq_false (b := ⟨#[]⟩) h
  rwa [show (⟨#[]⟩ : ByteArray).toList = [] from by rw [ByteArray.toList_eq]] at this
theorem blkAt_in {bs : List Blk} {x : Int} (h : inB x 1 bs.length = true) : ∃ (jb : Nat) (hb : jb < bs.length), x = (jb : Int) + 1 ∧ blkAt bs x = bs[jb] := by
  obtain ⟨h1, h2⟩ := inB_true h
  refine ⟨(x - 1).toNat, by omega, by omega, ?_⟩
  unfold blkAt
  rw [h, if_pos rfl]
  rw [List.getD_eq_getElem?_getD, List.getElem?_eq_getElem (show (x - 1).toNat < bs.length by omega)]
  rfl
end Go.Proofs.Ytljooldjcefkoaa.Kit
