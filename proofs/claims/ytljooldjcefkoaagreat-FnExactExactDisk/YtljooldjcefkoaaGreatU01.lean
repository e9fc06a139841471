/- Texts of the proof, bundled: Kit, KitB, Com, KSl, KAt, IIn, IRec, IEq, BIn. -/
import Derived.WalkKit
import Derived.WalkSpells
import Derived.WalkLawsBesides
import Derived.Laws.IdiomStrings
import Derived.Deep.AppendLies
import Derived.Test.YtljooldjcefkoaaGreatRows
import Derived.Handy
import Derived.Deep.QuietTactic
import Derived.BigQuiet
/- Plain facts for the walks of one seat, no Go function spoken of: byte slices that a call owns, bytes of numbers in base 128, figures, what a text's bytes in a block are. -/
namespace Go.Proofs.YtljooldjcefkoaaGreat.Kit
open Go.RowKit

/-- Put a fact out of the walk's sight. -/
theorem hide {p : Prop} (h : p) : Hid p := h

/-- A byte as a cell. -/
def bc (l : List UInt8) : List Value := l.map fun b => Value.int .u8 (b.toNat : Int)

theorem bc_append (a b : List UInt8) : bc (a ++ b) = bc a ++ bc b := by simp [bc]
theorem bc_length (a : List UInt8) : (bc a).length = a.length := by simp [bc]
theorem bc_one (b : UInt8) : bc [b] = [Value.int .u8 (b.toNat : Int)] := rfl

/-- The slice value v owns the bytes l (element type e), in blocks from 'base' on. -/
def Owns (w : World) (base : Nat) (e : TypeId) (v : Value) (l : List UInt8) : Prop := w.ownsRow base e 1 v l.length (bc l)

theorem Owns.alloc {w : World} {base : Nat} {e : TypeId} {v : Value} {l : List UInt8} (h : Owns w base e v l) (o : Obj) : Owns (w.alloc o) base e v l := World.ownsRow.alloc h o
theorem Owns.drew {w : World} {base : Nat} {e : TypeId} {v : Value} {l : List UInt8} (h : Owns w base e v l) : Owns w.drew base e v l := World.ownsRow.drew h
theorem Owns.nil (w : World) (base : Nat) (e : TypeId) : Owns w base e (.slice none 0 0) [] := World.ownsRow_nil _ _ _ _
theorem Owns.lit0 (w : World) (base : Nat) (e : TypeId) (hb : base ≤ w.heap.size) : Owns (w.alloc (.cells #[] e)) base e (.slice (some ⟨w.heap.size, 0, none⟩) 0 0) [] :=
  World.ownsRow_lit w #[] 0 hb (Nat.zero_le _) rfl

/-- 'string(b)' of a slice that owns the bytes l. -/
theorem conv_own {P : Program} {w : World} {base : Nat} {v : Value} {l : List UInt8} (src dst e : TypeId) (hs : P.underlying src = some (.slice e)) (he : P.underlying e = some (.int .u8)) (hd : P.underlying dst = some .string)
    (hown : Owns w base e v l) : (convert src dst v).run P w = .ok (.string ⟨l.toArray⟩) w := by
  unfold Owns at hown
  rcases hown.2 with ⟨rfl, h0⟩ | ⟨g, cap, cur, rfl, _, hg, hnc, hcm, hcs, htake⟩
  · have : l = [] := List.length_eq_zero_iff.1 h0
    subst this
    rw [run_convert_bytes_string w src dst e none 0 0 hs he hd]
    simp [Conv.bytesToString]
    rfl
  · refine run_convert_bytes_back w src dst e ⟨g, 0, none⟩ cap l hs he hd ?_
    intro j hj
    have hc : w.cell? ⟨g, j, none⟩ = (bc l)[j]? := hown.cellAt j (by omega)
    have ha : (⟨g, 0, none⟩ : Addr).add j = ⟨g, j, none⟩ := by cases j <;> simp [Addr.add]
    rw [ha, hc]
    simp [bc, hj]

/-- 'out = append(out, b)' of one byte, out a slice that the call owns: what it owns behind it, and that nothing below 'base' has turned. -/
theorem wpList_append_byte {P : Program} {w : World} {ops : Array Oper} {rest : List Oper} {o : Oper} {a : Act} {Q : Exit → Act → World → Prop} (w0 : World) (hgd : o.guard = none) (s x : Operand) (t : TypeId)
    (ho : o.op = .call { callee := .builtin .append, args := #[s, x], argTypes := #[t, t] }) (base : Nat) (e : TypeId) (ht : P.underlying t = some (.slice e))
    (hi : (P.info? e).map (fun i => (i.zero, i.size, i.bytes)) = some (some (.int .u8 0), 1, 1)) (v : Value) (pre : List UInt8) (hs : a.eval s = v) (hown : Owns w base e v pre)
    (hb : Below base w0 w) (hbase : base ≤ w.heap.size) (g : Nat) (hx : a.eval x = .slice (some ⟨g, 0, none⟩) 1 1) (b : UInt8) (z : Int) (hz : z = (b.toNat : Int)) (hc : w.cell? ⟨g, 0, none⟩ = some (.int .u8 z)) (hl : pre.length ≤ 1000000000000)
    (h : ∀ v' w', Owns w' base e v' (pre ++ [b]) → Below base w0 w' → w.grownBy w' v.ownBlock → wpList P ops Q rest (a.put o.dst v') w') : wpList P ops Q (o :: rest) a w := by
  obtain ⟨i0, hi, hz0, hz1, hz2⟩ := info_parts hi
  unfold Owns at hown
  refine wpList_append_own w hgd s x t ho base e i0 (.int .u8 0) 1 1 ht hi hz0 hz1 hz2 rfl (by decide) v pre.length (bc pre) hs hown ⟨g, 0, none⟩ 1 1 [.int .u8 z] hx rfl ?_ ?_ ?_ ?_ hbase ?_
  · intro j u hj
    match j, hj with
    | 0, hj => simp at hj; subst hj; simpa [Addr.add] using hc
  · intro u hu; simp at hu; subst hu; rfl
  · unfold maxLen; omega
  · omega
  · intro v' w' hown' hgrow _
    refine h v' w' ?_ (hb.grown hgrow hbase fun k hk => (hown.lt k hk).1) hgrow
    unfold Owns
    rw [bc_append, bc_one, ← hz]
    simpa using hown'

/-- The byte that goes on: the lowest seven bits, and 128. -/
def hiB (m : Nat) : UInt8 := UInt8.ofNat (m % 128 + 128)
/-- The last byte. -/
def loB (m : Nat) : UInt8 := UInt8.ofNat m

/-- The bytes of a number, with fuel. -/
def vbF : Nat → Nat → List UInt8
  | 0, n => [loB n]
  | f + 1, n => if 127 < n then hiB n :: vbF f (n / 128) else [loB n]

/-- The bytes of a number (below 2^63). -/
def vb (n : Nat) : List UInt8 := vbF 9 n

theorem vbF_big (f n : Nat) (h : 127 < n) : vbF (f + 1) n = hiB n :: vbF f (n / 128) := by simp [vbF, h]
theorem vbF_small (f n : Nat) (h : n ≤ 127) : vbF f n = [loB n] := by
  cases f with
  | zero => rfl
  | succ f => simp [vbF]; omega
theorem vbF_len (f n : Nat) : (vbF f n).length ≤ f + 1 := by
  induction f generalizing n with
  | zero => simp [vbF]
  | succ f ih => 
    unfold vbF
    split
    · have := ih (n / 128); simp; omega
    · simp

/-- 'append(out, b, ..)' of some bytes at a step of a region that draws its order. -/
theorem step_append_bytes {P : Program} {w : World} {ops : Array Oper} {o : Oper} {a : Act} {K : Act → World → Prop} {Q : Exit → Act → World → Prop} {E : Prop} (w0 : World) (hgd : o.guard = none) (s x : Operand) (t : TypeId)
    (ho : o.op = .call { callee := .builtin .append, args := #[s, x], argTypes := #[t, t] }) (base : Nat) (e : TypeId) (ht : P.underlying t = some (.slice e))
    (hi : (P.info? e).map (fun i => (i.zero, i.size, i.bytes)) = some (some (.int .u8 0), 1, 1)) (v : Value) (pre : List UInt8) (hs : a.eval s = v) (hown : Owns w base e v pre)
    (hb : Below base w0 w) (hbase : base ≤ w.heap.size) (g m : Nat) (hx : a.eval x = .slice (some ⟨g, 0, none⟩) m m) (nb : List UInt8) (hm : nb.length = m) (h0 : 0 < m)
    (hc : ∀ (j : Nat) (b : UInt8), nb[j]? = some b → w.cell? ⟨g, j, none⟩ = some (.int .u8 (b.toNat : Int))) (hl : pre.length + m ≤ 1000000000000)
    (h : ∀ v' w', Owns w' base e v' (pre ++ nb) → Below base w0 w' → w.grownBy w' v.ownBlock → K (a.put o.dst v') w') :
    if Region.wanted o (yielded ops a.tmps) = true then Oper.wp P o a w K Q else E := by
  obtain ⟨i0, hi, hz0, hz1, hz2⟩ := info_parts hi
  unfold Owns at hown
  refine step_append_lies w hgd s x t ho base e i0 (.int .u8 0) 1 1 ht hi hz0 hz1 hz2 rfl (by decide) v pre.length (bc pre) hs hown ⟨g, 0, none⟩ m m (bc nb) hx ?_ ?_ ?_ h0 ?_ ?_ hbase w.heap.size rfl ?_
  · rw [bc_length, hm]; omega
  · intro j u hj
    have ha : (⟨g, 0, none⟩ : Addr).add j = ⟨g, j, none⟩ := by cases j <;> simp [Addr.add]
    simp only [bc, List.getElem?_map, Option.map_eq_some_iff] at hj
    obtain ⟨b, hb1, rfl⟩ := hj
    rw [ha]
    exact hc j b hb1
  · intro u hu
    simp only [bc, List.mem_map] at hu
    obtain ⟨b, _, rfl⟩ := hu
    rfl
  · unfold maxLen; omega
  · omega
  · intro g' cap w' hown' hgrow _ _
    refine h _ w' ?_ (hb.grown hgrow hbase fun k hk => (hown.lt k hk).1) hgrow
    unfold Owns
    rw [bc_append, List.length_append, hm]
    exact hown'

/-- The same at two bytes that were just laid in a block of their own. -/
theorem step_append_two {P : Program} (w0 w : World) {ops : Array Oper} {o : Oper} {a : Act} {K : Act → World → Prop} {Q : Exit → Act → World → Prop} {E : Prop} (hgd : o.guard = none) (s x : Operand) (t : TypeId)
    (ho : o.op = .call { callee := .builtin .append, args := #[s, x], argTypes := #[t, t] }) (base : Nat) (e : TypeId) (ht : P.underlying t = some (.slice e))
    (hi : (P.info? e).map (fun i => (i.zero, i.size, i.bytes)) = some (some (.int .u8 0), 1, 1)) (v : Value) (pre : List UInt8) (hs : a.eval s = v) (hown : Owns w base e v pre)
    (hb : Below base w0 w) (hbase : base ≤ w.heap.size) (b1 b2 : UInt8) (hx : a.eval x = .slice (some ⟨w.heap.size, 0, none⟩) 2 2) (hl : pre.length + 2 ≤ 1000000000000)
    (h : ∀ v' w', Owns w' base e v' (pre ++ [b1, b2]) → Below base w0 w' → K (a.put o.dst v') w') :
    if Region.wanted o (yielded ops a.tmps) = true then Oper.wp P o a (w.alloc (.cells #[.int .u8 (b1.toNat : Int), .int .u8 (b2.toNat : Int)] e)).drew K Q else E := by
  refine step_append_bytes w0 hgd s x t ho base e ht hi v pre hs (hown.alloc _).drew (hb.alloc hbase _).drew (by simp; omega) w.heap.size 2 hx [b1, b2] rfl (by decide) ?_ hl fun v' w' h1 h2 _ => h v' w' h1 h2
  intro j b hj
  match j, hj with
  | 0, hj => simp at hj; subst hj; simp
  | 1, hj => simp at hj; subst hj; simp

theorem wrapId {x : Int} (h0 : 0 ≤ x) (h1 : x ≤ 1000000000000) : IntKind.i64.wrap x = x := by
  simp [IntKind.wrap, IntKind.signed, IntKind.bits]
  omega
/-- A figure. -/
def figB (x : Nat) : UInt8 := UInt8.ofNat (if x < 10 then 48 + x else 87 + x)
/-- The figures of bytes. -/
def hexL : List UInt8 → List UInt8
  | [] => []
  | c :: r => figB (c.toNat / 16) :: figB (c.toNat % 16) :: hexL r
theorem hexL_snoc (l : List UInt8) (c : UInt8) : hexL (l ++ [c]) = hexL l ++ [figB (c.toNat / 16), figB (c.toNat % 16)] := by
  induction l with
  | nil => rfl
  | cons a r ih => simp [hexL, ih]
theorem hexL_length (l : List UInt8) : (hexL l).length = 2 * l.length := by
  induction l with
  | nil => rfl
  | cons a r ih => simp [hexL, ih]; omega
theorem take_snoc (s : ByteArray) (k : Nat) (h : k < s.size) : s.data.toList.take (k + 1) = s.data.toList.take k ++ [s[k]] := by
  rw [List.take_succ_eq_append_getElem (by simpa using h)]; rfl
theorem hexL_next (s : ByteArray) (k : Nat) (h : k < s.size) {c : Nat} (hc : (s[k]).toNat = c) : hexL (s.data.toList.take (k + 1)) = hexL (s.data.toList.take k) ++ [figB (c / 16), figB (c % 16)] := by
  rw [take_snoc s k h, hexL_snoc, hc]
theorem take_all (s : ByteArray) (k : Nat) (h : s.size ≤ k) : s.data.toList.take k = s.data.toList := List.take_of_length_le (by simpa using h)
theorem figB_lo (x : Nat) (h : x < 10) : ((figB x).toNat : Int) = 48 + (x : Int) := by simp [figB, h, UInt8.toNat_ofNat']; omega
theorem figB_hi (x : Nat) (h : ¬ x < 10) (h1 : x < 16) : ((figB x).toNat : Int) = 87 + (x : Int) := by simp [figB, h, UInt8.toNat_ofNat']; omega

/-- Blocks that v does not own stay as they were, and v' does not own them either. -/
def Keeps (w w' : World) (v v' : Value) : Prop := ∀ B, B < w.heap.size → v.ownBlock ≠ some B → v'.ownBlock ≠ some B ∧ w'.heap[B]? = w.heap[B]?

theorem step_append_keeps {P : Program} (w0 w : World) {ops : Array Oper} {o : Oper} {a : Act} {K : Act → World → Prop} {Q : Exit → Act → World → Prop} {E : Prop} (hgd : o.guard = none) (s x : Operand) (t : TypeId)
    (ho : o.op = .call { callee := .builtin .append, args := #[s, x], argTypes := #[t, t] }) (base : Nat) (e : TypeId) (ht : P.underlying t = some (.slice e))
    (hi : (P.info? e).map (fun i => (i.zero, i.size, i.bytes)) = some (some (.int .u8 0), 1, 1)) (v : Value) (pre : List UInt8) (hs : a.eval s = v) (hown : Owns w base e v pre)
    (hb : Below base w0 w) (hbase : base ≤ w.heap.size) (b1 b2 : UInt8) (hx : a.eval x = .slice (some ⟨w.heap.size, 0, none⟩) 2 2) (hl : pre.length + 2 ≤ 1000000000000)
    (h : ∀ v' w', Owns w' base e v' (pre ++ [b1, b2]) → Below base w0 w' → Keeps w w' v v' → K (a.put o.dst v') w') :
    if Region.wanted o (yielded ops a.tmps) = true then Oper.wp P o a (w.alloc (.cells #[.int .u8 (b1.toNat : Int), .int .u8 (b2.toNat : Int)] e)).drew K Q else E := by
  obtain ⟨i0, hi, hz0, hz1, hz2⟩ := info_parts hi
  have hown2 : (w.alloc (.cells #[.int .u8 (b1.toNat : Int), .int .u8 (b2.toNat : Int)] e)).drew.ownsRow base e 1 v pre.length (bc pre) := (hown.alloc _).drew
  refine step_append_lies _ hgd s x t ho base e i0 (.int .u8 0) 1 1 ht hi hz0 hz1 hz2 rfl (by decide) v pre.length (bc pre) hs hown2 ⟨w.heap.size, 0, none⟩ 2 2 (bc [b1, b2]) hx rfl ?_ ?_ (by decide) ?_ ?_ (by simp; omega) (w.heap.size + 1) (by simp) ?_
  · intro j u hj
    match j, hj with
    | 0, hj => simp [bc] at hj; subst hj; simp [Addr.add]
    | 1, hj => simp [bc] at hj; subst hj; simp [Addr.add]
    | j + 2, hj => simp [bc] at hj
  · intro u hu
    simp only [bc, List.mem_map] at hu
    obtain ⟨b, _, rfl⟩ := hu
    rfl
  · unfold maxLen; omega
  · omega
  · intro g' cap w' hown' hgrow hat _
    refine h _ w' ?_ ((hb.alloc hbase _).drew.grown hgrow (by simp; omega) fun k hk => (hown2.lt k hk).1) ?_
    · unfold Owns
      rw [bc_append, List.length_append]
      exact hown'
    · intro B hB hne
      constructor
      · intro hc
        simp only [Value.ownBlock, Option.some.injEq] at hc
        subst hc
        rcases hat with hat | hat
        · exact hne hat
        · omega
      · rw [hgrow.block B (by simp; omega) (fun e => hne e.symm)]
        exact Below.heap_alloc _ _ _ hB

theorem Owns.grown_none {w w' : World} {base : Nat} {e : TypeId} {v : Value} {l : List UInt8} (h : Owns w base e v l) (hg : w.grownBy w' none) (hv : v.ownBlock ≠ none) : Owns w' base e v l :=
  World.ownsRow.kept h hg (.inr hv)

/-- The bytes of s lie in block B. -/
def Lies (w : World) (B : Nat) (s : ByteArray) : Prop := ∃ cur e fr, w.heap[B]? = some (.cells cur e fr) ∧ ∀ (k : Nat) (h : k < s.size), cur[k]? = some (.int .u8 (s[k].toNat : Int))
theorem Lies.cell {w : World} {B : Nat} {s : ByteArray} (h : Lies w B s) (k : Nat) (hk : k < s.size) : w.cell? ⟨B, k, none⟩ = some (.int .u8 (s[k].toNat : Int)) := by
  obtain ⟨cur, e, fr, h1, h2⟩ := h
  rw [cell_of_row w B k cur e fr h1, h2 k hk]
theorem Lies.of_heap {w w' : World} {B : Nat} {s : ByteArray} (h : Lies w B s) (he : w'.heap[B]? = w.heap[B]?) : Lies w' B s := by
  obtain ⟨cur, e, fr, h1, h2⟩ := h
  exact ⟨cur, e, fr, by rw [he, h1], h2⟩
theorem Lies.lt {w : World} {B : Nat} {s : ByteArray} (h : Lies w B s) : B < w.heap.size := by
  obtain ⟨cur, e, fr, h1, _⟩ := h
  exact (Array.getElem?_eq_some_iff.1 h1).1
theorem lies_new (w : World) (s : ByteArray) (n : Nat) (e : TypeId) (fr : Nat × Nat) : Lies (w.alloc (.cells (bytesRow s n) e fr)) w.heap.size s := by
  refine ⟨bytesRow s n, e, fr, ?_, ?_⟩
  · show (w.heap.push _)[w.heap.size]? = _
    simp
  · intro k hk
    have e1 : s.data[k]? = some s[k] := Array.getElem?_eq_getElem (show k < s.data.size from hk)
    simp only [bytesRow, Array.getElem?_append, Array.size_map]
    rw [if_pos (show k < s.data.size from hk), Array.getElem?_map, e1]
    rfl
/-- 'out = append(out, b)' of one byte that was just laid in a block of its own, with what becomes of other blocks. -/
theorem wpList_append_one {P : Program} (w0 w : World) {ops : Array Oper} {rest : List Oper} {o : Oper} {a : Act} {Q : Exit → Act → World → Prop} (hgd : o.guard = none) (s x : Operand) (t : TypeId)
    (ho : o.op = .call { callee := .builtin .append, args := #[s, x], argTypes := #[t, t] }) (base : Nat) (e : TypeId) (ht : P.underlying t = some (.slice e))
    (hi : (P.info? e).map (fun i => (i.zero, i.size, i.bytes)) = some (some (.int .u8 0), 1, 1)) (v : Value) (pre : List UInt8) (hs : a.eval s = v) (hown : Owns w base e v pre)
    (hb : Below base w0 w) (hbase : base ≤ w.heap.size) (hx : a.eval x = .slice (some ⟨w.heap.size, 0, none⟩) 1 1) (b : UInt8) (z : Int) (hz : z = (b.toNat : Int)) (hl : pre.length ≤ 1000000000000)
    (h : ∀ v' w', Owns w' base e v' (pre ++ [b]) → Below base w0 w' → Keeps w w' v v' → wpList P ops Q rest (a.put o.dst v') w') : wpList P ops Q (o :: rest) a (w.alloc (.cells #[.int .u8 z] e)) := by
  obtain ⟨i0, hi, hz0, hz1, hz2⟩ := info_parts hi
  have hown2 : (w.alloc (.cells #[.int .u8 z] e)).ownsRow base e 1 v pre.length (bc pre) := hown.alloc _
  refine wpList_append_lies _ hgd s x t ho base e i0 (.int .u8 0) 1 1 ht hi hz0 hz1 hz2 rfl (by decide) v pre.length (bc pre) hs hown2 ⟨w.heap.size, 0, none⟩ 1 1 [.int .u8 z] hx rfl ?_ ?_ (by decide) ?_ ?_ (by simp; omega) (w.heap.size + 1) (by simp) ?_
  · intro j u hj
    match j, hj with
    | 0, hj => simp at hj; subst hj; simp [Addr.add]
  · intro u hu; simp at hu; subst hu; rfl
  · unfold maxLen; omega
  · omega
  · intro g' cap w' hown' hgrow hat _
    refine h _ w' ?_ ((hb.alloc hbase _).grown hgrow (by simp; omega) fun k hk => (hown2.lt k hk).1) ?_
    · unfold Owns
      rw [bc_append, bc_one, ← hz, List.length_append]
      exact hown'
    · intro B hB hne
      constructor
      · intro hc
        simp only [Value.ownBlock, Option.some.injEq] at hc
        subst hc
        rcases hat with hat | hat
        · exact hne hat
        · omega
      · rw [hgrow.block B (by simp; omega) (fun e => hne e.symm)]
        exact Below.heap_alloc _ _ _ hB
theorem of_drew {w w1 : World} (h : Below w.drew.heap.size w.drew w1) : Below w.heap.size w w1 := (Below.refl _ w).drew.trans h
theorem ret_of {v v' : Value} (h : v' = v) : Ending.returned v = .returned v' := by rw [h]
end Go.Proofs.YtljooldjcefkoaaGreat.Kit
/- Plain facts for the walks of one seat, no Go function spoken of: slices of one-cell elements that a call owns or reads. -/
namespace Go.Proofs.YtljooldjcefkoaaGreat.Kit
open Go.RowKit

/-- The slice value v owns the cells xs (element type e), in blocks from 'base' on. -/
def ROwns (w : World) (base : Nat) (e : TypeId) (v : Value) (xs : List Value) : Prop := w.ownsRow base e 1 v xs.length xs

theorem ROwns.alloc {w : World} {base : Nat} {e : TypeId} {v : Value} {l : List Value} (h : ROwns w base e v l) (o : Obj) : ROwns (w.alloc o) base e v l := World.ownsRow.alloc h o
theorem ROwns.drew {w : World} {base : Nat} {e : TypeId} {v : Value} {l : List Value} (h : ROwns w base e v l) : ROwns w.drew base e v l := World.ownsRow.drew h
theorem ROwns.nil (w : World) (base : Nat) (e : TypeId) : ROwns w base e (.slice none 0 0) [] := World.ownsRow_nil _ _ _ _
theorem ROwns.lit0 (w : World) (base : Nat) (e : TypeId) (hb : base ≤ w.heap.size) : ROwns (w.alloc (.cells #[] e)) base e (.slice (some ⟨w.heap.size, 0, none⟩) 0 0) [] :=
  World.ownsRow_lit w #[] 0 hb (Nat.zero_le _) rfl
theorem ROwns.lit (w : World) (base : Nat) (e : TypeId) (cs : Array Value) (hb : base ≤ w.heap.size) (hm : cs.size ≤ maxLen) : ROwns (w.alloc (.cells cs e)) base e (.slice (some ⟨w.heap.size, 0, none⟩) cs.size cs.size) cs.toList := by
  have := World.ownsRow_lit (base := base) (e := e) (size := 1) w cs cs.size hb hm (by omega)
  unfold ROwns
  rwa [Array.length_toList]
theorem ROwns.lt {w : World} {base : Nat} {e : TypeId} {v : Value} {l : List Value} (h : ROwns w base e v l) : ∀ k, v.ownBlock = some k → base ≤ k ∧ k < w.heap.size := World.ownsRow.lt h
theorem ROwns.base_le {w : World} {base base' : Nat} {e : TypeId} {v : Value} {l : List Value} (h : ROwns w base e v l) (hb : base' ≤ base) : ROwns w base' e v l := by
  refine ⟨h.1, ?_⟩
  rcases h.2 with h1 | ⟨g, cap, cur, h1, h2, h3⟩
  · exact .inl h1
  · exact .inr ⟨g, cap, cur, h1, by omega, h3⟩
theorem ROwns.form {w : World} {base : Nat} {e : TypeId} {v : Value} {l : List Value} (h : ROwns w base e v l) : ∃ a cap, v = .slice a l.length cap ∧ (a = none → l = []) := by
  rcases h.2 with ⟨rfl, h0⟩ | ⟨g, cap, cur, rfl, _⟩
  · exact ⟨none, 0, by rw [h0], fun _ => List.length_eq_zero_iff.1 h0⟩
  · exact ⟨_, _, rfl, fun h => by cases h⟩
/-- What is owned stays owned where its own block stays as it was. -/
theorem ROwns.of_heap {w w' : World} {base : Nat} {e : TypeId} {v : Value} {l : List Value} (h : ROwns w base e v l) (hh : ∀ k, v.ownBlock = some k → w'.heap[k]? = w.heap[k]?) : ROwns w' base e v l := by
  refine ⟨h.1, ?_⟩
  rcases h.2 with h1 | ⟨g, cap, cur, h1, h2, h3, h4⟩
  · exact .inl h1
  · exact .inr ⟨g, cap, cur, h1, h2, by rw [hh g (by rw [h1]; rfl), h3], h4⟩
theorem ROwns.below {w w' : World} {base B : Nat} {e : TypeId} {v : Value} {l : List Value} (h : ROwns w base e v l) (hb : Below B w w') (hB : w.heap.size ≤ B) : ROwns w' base e v l :=
  h.of_heap fun k hk => hb.block k (by have := (h.lt k hk).2; omega)
theorem ROwns.grown {w w' : World} {base : Nat} {e : TypeId} {v : Value} {l : List Value} {row : Option Nat} (h : ROwns w base e v l) (hg : w.grownBy w' row) (hn : ∀ k, v.ownBlock = some k → row ≠ some k) : ROwns w' base e v l :=
  h.of_heap fun k hk => hg.block k (h.lt k hk).2 (fun e => hn k hk e.symm)
theorem grownBy_below {w w' : World} (h : Below w.heap.size w w') (row : Option Nat) : w.grownBy w' row := ⟨h.os, h.tape, h.output, h.size, fun k hk _ => h.block k hk⟩
theorem grownBy_trans {a b c : World} {row : Option Nat} (h : a.grownBy b row) (k : b.grownBy c row) : a.grownBy c row :=
  ⟨k.os.trans h.os, k.tape.trans h.tape, k.output.trans h.output, Nat.le_trans h.size k.size, fun i hi hr => (k.block i (by have := h.size; omega) hr).trans (h.block i hi hr)⟩

/-- 'out = append(out, u)' of one cell that was just laid in a block of its own. -/
theorem wpList_append_cell {P : Program} (w0 w : World) {ops : Array Oper} {rest : List Oper} {o : Oper} {a : Act} {Q : Exit → Act → World → Prop} (hgd : o.guard = none) (s x : Operand) (t : TypeId)
    (ho : o.op = .call { callee := .builtin .append, args := #[s, x], argTypes := #[t, t] }) (base : Nat) (e : TypeId) (ht : P.underlying t = some (.slice e)) (z : Value) (bytes : Nat)
    (hi : (P.info? e).map (fun i => (i.zero, i.size, i.bytes)) = some (some z, 1, bytes)) (hzc : z.cells.size = 1) (hby : bytes ≤ 64) (v : Value) (xs : List Value) (hs : a.eval s = v) (hown : ROwns w base e v xs)
    (hb : Below base w0 w) (hbase : base ≤ w.heap.size) (u : Value) (hu : u.oneCell' = true) (hx : a.eval x = .slice (some ⟨w.heap.size, 0, none⟩) 1 1) (hl : xs.length ≤ 1000000000000)
    (h : ∀ v' w', ROwns w' base e v' (xs ++ [u]) → Below base w0 w' → Keeps w w' v v' → wpList P ops Q rest (a.put o.dst v') w') : wpList P ops Q (o :: rest) a (w.alloc (.cells #[u] e)) := by
  obtain ⟨i0, hi, hz0, hz1, hz2⟩ := info_parts hi
  have hown2 : (w.alloc (.cells #[u] e)).ownsRow base e 1 v xs.length xs := hown.alloc _
  refine wpList_append_lies _ hgd s x t ho base e i0 z 1 bytes ht hi hz0 hz1 hz2 hzc (by decide) v xs.length xs hs hown2 ⟨w.heap.size, 0, none⟩ 1 1 [u] hx rfl ?_ ?_ (by decide) ?_ ?_ (by simp; omega) (w.heap.size + 1) (by simp) ?_
  · intro j y hj
    match j, hj with
    | 0, hj => simp at hj; subst hj; simp [Addr.add]
  · intro y hy; simp at hy; subst hy; exact hu
  · unfold maxLen; omega
  · have : (xs.length + 1) * bytes ≤ 1000000000001 * 64 := Nat.mul_le_mul (by omega) hby
    omega
  · intro g' cap w' hown' hgrow hat _
    refine h _ w' ?_ ((hb.alloc hbase _).grown hgrow (by simp; omega) fun k hk => (hown2.lt k hk).1) ?_
    · unfold ROwns
      rw [List.length_append]
      exact hown'
    · intro B hB hne
      constructor
      · intro hc
        simp only [Value.ownBlock, Option.some.injEq] at hc
        subst hc
        rcases hat with hat | hat
        · exact hne hat
        · omega
      · rw [hgrow.block B (by simp; omega) (fun e => hne e.symm)]
        exact Below.heap_alloc _ _ _ hB

/-- Where the cells of what is owned lie. -/
theorem ROwns.at {w : World} {base : Nat} {e : TypeId} {v : Value} {l : List Value} (h : ROwns w base e v l) (k : Nat) (hk : k < l.length) :
    ∃ g cap, v = .slice (some ⟨g, 0, none⟩) l.length cap ∧ w.cell? ⟨g, k, none⟩ = l[k]? ∧ w.frozen? ⟨g, k, none⟩ = false ∧ base ≤ g ∧ g < w.heap.size ∧ l.length ≤ cap := by
  have hlt := h.lt
  rcases h.2 with ⟨h1, h0⟩ | ⟨g, cap, cur, rfl, h2, h3, h4, h5, h6, h7⟩
  · omega
  · have h' : w.ownsRow base e 1 (.slice (some ⟨g, 0, none⟩) l.length cap) l.length l := h
    exact ⟨g, cap, rfl, h'.cellAt k (by omega), h'.frozenAt k, h2, (hlt g rfl).2, h4⟩
theorem ROwns.stored {w : World} {base g cap : Nat} {e : TypeId} {l : List Value} (h : ROwns w base e (.slice (some ⟨g, 0, none⟩) l.length cap) l) (k : Nat) (u : Value) :
    ROwns (w.setCell ⟨g, k, none⟩ u) base e (.slice (some ⟨g, 0, none⟩) l.length cap) (l.set k u) ∧ w.grownBy (w.setCell ⟨g, k, none⟩ u) (some g) := by
  have := World.ownsRow.stored h k u
  refine ⟨?_, this.2⟩
  unfold ROwns
  rw [List.length_set]
  exact this.1
end Go.Proofs.YtljooldjcefkoaaGreat.Kit
/- Facts that the families of texts of this seat share. -/
namespace Go.Proofs.YtljooldjcefkoaaGreat.Kit
open Go.RowKit
theorem ROwns.setCell_other {w : World} {base : Nat} {e : TypeId} {v : Value} {l : List Value} (h : ROwns w base e v l) {b j : Nat} (hp : b < base) (x : Value) : ROwns (w.setCell ⟨b, j, none⟩ x) base e v l :=
  h.of_heap fun k hk => heap_setCell_other w ⟨b, j, none⟩ k x (fun e => by have := (h.lt k hk).1; simp at e; omega)

theorem heap_new (w : World) (o : Obj) : (w.alloc o).heap[w.heap.size]? = some o := by
  show (w.heap.push o)[w.heap.size]? = some o
  simp

end Go.Proofs.YtljooldjcefkoaaGreat.Kit
namespace Go.Proofs.YtljooldjcefkoaaGreat
open Go.RowKit Kit
theorem Tryz.u148 : Tryz.prog.underlying 148 = some (.slice 5) := by kernel_rfl

theorem Tryz.i5 : (Tryz.prog.info? 5).map (fun i => (i.zero, i.size, i.bytes)) = some (some (.int .u8 0), 1, 1) := by kernel_rfl

theorem ret_bool {b c : Bool} (h : b = c) : Ending.returned (.bool b) = .returned (.bool c) := by rw [h]

end Go.Proofs.YtljooldjcefkoaaGreat
/- Slots: how they lie in memory, and the model of what is asked of them. No Go function is spoken of. -/
namespace Go.Proofs.YtljooldjcefkoaaGreat.Kit
open Go.RowKit
/-- A slot: its name, its number. -/
abbrev Sl := ByteArray × Int
/-- Slots as cells, two each. -/
def sc : List Sl → List Value
  | [] => []
  | s :: r => .string s.1 :: .int .i64 s.2 :: sc r
theorem sc_length (xs : List Sl) : (sc xs).length = xs.length * 2 := by
  induction xs with
  | nil => rfl
  | cons s r ih => simp [sc, ih]; omega
theorem sc_append (a b : List Sl) : sc (a ++ b) = sc a ++ sc b := by
  induction a with
  | nil => rfl
  | cons s r ih => simp [sc, ih]
theorem sc_name (xs : List Sl) (j : Nat) (h : j < xs.length) : (sc xs)[j * 2]? = some (.string xs[j].1) := by
  induction xs generalizing j with
  | nil => simp at h
  | cons s r ih =>
    cases j with
    | zero => rfl
    | succ j =>
      rw [show (j + 1) * 2 = j * 2 + 1 + 1 by omega]
      simp only [sc, List.getElem?_cons_succ, List.getElem_cons_succ]
      exact ih j (by simpa using h)
theorem sc_ino (xs : List Sl) (j : Nat) (h : j < xs.length) : (sc xs)[j * 2 + 1]? = some (.int .i64 xs[j].2) := by
  induction xs generalizing j with
  | nil => simp at h
  | cons s r ih =>
    cases j with
    | zero => rfl
    | succ j =>
      rw [show (j + 1) * 2 + 1 = j * 2 + 1 + 1 + 1 by omega]
      simp only [sc, List.getElem?_cons_succ, List.getElem_cons_succ]
      exact ih j (by simpa using h)
theorem sc_set_name (xs : List Sl) (j : Nat) (t : ByteArray) (h : j < xs.length) : (sc xs).set (j * 2) (.string t) = sc (xs.set j (t, xs[j].2)) := by
  induction xs generalizing j with
  | nil => simp at h
  | cons s r ih =>
    cases j with
    | zero => rfl
    | succ j =>
      rw [show (j + 1) * 2 = j * 2 + 1 + 1 by omega]
      simp only [sc, List.set_cons_succ, List.getElem_cons_succ]
      rw [ih j (by simpa using h)]
theorem sc_set_ino (xs : List Sl) (j : Nat) (z : Int) (h : j < xs.length) : (sc xs).set (j * 2 + 1) (.int .i64 z) = sc (xs.set j (xs[j].1, z)) := by
  induction xs generalizing j with
  | nil => simp at h
  | cons s r ih =>
    cases j with
    | zero => rfl
    | succ j =>
      rw [show (j + 1) * 2 + 1 = j * 2 + 1 + 1 + 1 by omega]
      simp only [sc, List.set_cons_succ, List.getElem_cons_succ]
      rw [ih j (by simpa using h)]
theorem sc_set (xs : List Sl) (j : Nat) (t : ByteArray) (z : Int) (h : j < xs.length) : ((sc xs).set (j * 2) (.string t)).set (j * 2 + 1) (.int .i64 z) = sc (xs.set j (t, z)) := by
  rw [sc_set_name xs j t h, sc_set_ino _ j z (by simpa using h)]
  simp
/-- The slice value v owns the slots xs (element type e), in blocks from 'base' on. -/
def SOwns (w : World) (base : Nat) (e : TypeId) (v : Value) (xs : List Sl) : Prop := w.ownsRow base e 2 v xs.length (sc xs)
theorem SOwns.alloc {w : World} {base : Nat} {e : TypeId} {v : Value} {l : List Sl} (h : SOwns w base e v l) (o : Obj) : SOwns (w.alloc o) base e v l := World.ownsRow.alloc h o
theorem SOwns.drew {w : World} {base : Nat} {e : TypeId} {v : Value} {l : List Sl} (h : SOwns w base e v l) : SOwns w.drew base e v l := World.ownsRow.drew h
theorem SOwns.nil (w : World) (base : Nat) (e : TypeId) : SOwns w base e (.slice none 0 0) [] := World.ownsRow_nil _ _ _ _
theorem SOwns.lit (w : World) (base : Nat) (e : TypeId) (cs : Array Value) (xs : List Sl) (hc : cs.toList = sc xs) (hb : base ≤ w.heap.size) (hm : xs.length ≤ maxLen) : SOwns (w.alloc (.cells cs e)) base e (.slice (some ⟨w.heap.size, 0, none⟩) xs.length xs.length) xs := by
  have h1 : cs.size = xs.length * 2 := by rw [← Array.length_toList, hc, sc_length]
  have := World.ownsRow_lit (base := base) (e := e) (size := 2) w cs xs.length hb hm h1
  unfold SOwns
  rwa [hc] at this
theorem SOwns.lt {w : World} {base : Nat} {e : TypeId} {v : Value} {l : List Sl} (h : SOwns w base e v l) : ∀ k, v.ownBlock = some k → base ≤ k ∧ k < w.heap.size := World.ownsRow.lt h
theorem SOwns.base_le {w : World} {base base' : Nat} {e : TypeId} {v : Value} {l : List Sl} (h : SOwns w base e v l) (hb : base' ≤ base) : SOwns w base' e v l := by
  refine ⟨h.1, ?_⟩
  rcases h.2 with h1 | ⟨g, cap, cur, h1, h2, h3⟩
  · exact .inl h1
  · exact .inr ⟨g, cap, cur, h1, by omega, h3⟩
theorem SOwns.form {w : World} {base : Nat} {e : TypeId} {v : Value} {l : List Sl} (h : SOwns w base e v l) : ∃ a cap, v = .slice a l.length cap ∧ (a = none → l = []) := by
  rcases h.2 with ⟨rfl, h0⟩ | ⟨g, cap, cur, rfl, _⟩
  · exact ⟨none, 0, by rw [h0], fun _ => List.length_eq_zero_iff.1 h0⟩
  · exact ⟨_, _, rfl, fun h => by cases h⟩
theorem SOwns.of_heap {w w' : World} {base : Nat} {e : TypeId} {v : Value} {l : List Sl} (h : SOwns w base e v l) (hh : ∀ k, v.ownBlock = some k → w'.heap[k]? = w.heap[k]?) : SOwns w' base e v l := by
  refine ⟨h.1, ?_⟩
  rcases h.2 with h1 | ⟨g, cap, cur, h1, h2, h3, h4⟩
  · exact .inl h1
  · exact .inr ⟨g, cap, cur, h1, h2, by rw [hh g (by rw [h1]; rfl), h3], h4⟩
theorem SOwns.below {w w' : World} {base B : Nat} {e : TypeId} {v : Value} {l : List Sl} (h : SOwns w base e v l) (hb : Below B w w') (hB : w.heap.size ≤ B) : SOwns w' base e v l :=
  h.of_heap fun k hk => hb.block k (by have := (h.lt k hk).2; omega)
theorem SOwns.grown {w w' : World} {base : Nat} {e : TypeId} {v : Value} {l : List Sl} {row : Option Nat} (h : SOwns w base e v l) (hg : w.grownBy w' row) (hn : ∀ k, v.ownBlock = some k → row ≠ some k) : SOwns w' base e v l :=
  h.of_heap fun k hk => hg.block k (h.lt k hk).2 (fun e => hn k hk e.symm)
theorem SOwns.setCell_other {w : World} {base : Nat} {e : TypeId} {v : Value} {l : List Sl} (h : SOwns w base e v l) {b j : Nat} (hp : v.ownBlock ≠ some b) (x : Value) : SOwns (w.setCell ⟨b, j, none⟩ x) base e v l :=
  h.of_heap fun k hk => heap_setCell_other w ⟨b, j, none⟩ k x (fun e => by simp at e; subst e; exact hp hk)
theorem SOwns.setCell_low {w : World} {base : Nat} {e : TypeId} {v : Value} {l : List Sl} (h : SOwns w base e v l) {b j : Nat} (hp : b < base) (x : Value) : SOwns (w.setCell ⟨b, j, none⟩ x) base e v l :=
  h.setCell_other (fun e => by have := (h.lt b e).1; omega) x
/-- Where the cells of what is owned lie. -/
theorem SOwns.at {w : World} {base : Nat} {e : TypeId} {v : Value} {l : List Sl} (h : SOwns w base e v l) (k : Nat) (hk : k < l.length) :
    ∃ g cap, v = .slice (some ⟨g, 0, none⟩) l.length cap ∧ w.cell? ⟨g, k * 2, none⟩ = some (.string l[k].1) ∧ w.cell? ⟨g, k * 2 + 1, none⟩ = some (.int .i64 l[k].2) ∧ (∀ j, w.frozen? ⟨g, j, none⟩ = false) ∧ base ≤ g ∧ g < w.heap.size ∧ l.length ≤ cap := by
  have hlt := h.lt
  rcases h.2 with ⟨h1, h0⟩ | ⟨g, cap, cur, rfl, h2, h3, h4, h5, h6, h7⟩
  · omega
  · have h' : w.ownsRow base e 2 (.slice (some ⟨g, 0, none⟩) l.length cap) l.length (sc l) := h
    exact ⟨g, cap, rfl, (h'.cellAt _ (by omega)).trans (sc_name l k hk), (h'.cellAt _ (by omega)).trans (sc_ino l k hk), h'.frozenAt, h2, (hlt g rfl).2, h4⟩
theorem SOwns.set_name {w : World} {base g cap : Nat} {e : TypeId} {l : List Sl} (h : SOwns w base e (.slice (some ⟨g, 0, none⟩) l.length cap) l) (k : Nat) (hk : k < l.length) (t : ByteArray) :
    SOwns (w.setCell ⟨g, k * 2, none⟩ (.string t)) base e (.slice (some ⟨g, 0, none⟩) l.length cap) (l.set k (t, l[k].2)) ∧ w.grownBy (w.setCell ⟨g, k * 2, none⟩ (.string t)) (some g) := by
  have := World.ownsRow.stored h (k * 2) (.string t)
  refine ⟨?_, this.2⟩
  unfold SOwns
  rw [List.length_set, ← sc_set_name l k t hk]
  exact this.1
theorem SOwns.set_ino {w : World} {base g cap : Nat} {e : TypeId} {l : List Sl} (h : SOwns w base e (.slice (some ⟨g, 0, none⟩) l.length cap) l) (k : Nat) (hk : k < l.length) (z : Int) :
    SOwns (w.setCell ⟨g, k * 2 + 1, none⟩ (.int .i64 z)) base e (.slice (some ⟨g, 0, none⟩) l.length cap) (l.set k (l[k].1, z)) ∧ w.grownBy (w.setCell ⟨g, k * 2 + 1, none⟩ (.int .i64 z)) (some g) := by
  have := World.ownsRow.stored h (k * 2 + 1) (.int .i64 z)
  refine ⟨?_, this.2⟩
  unfold SOwns
  rw [List.length_set, ← sc_set_ino l k z hk]
  exact this.1
theorem SOwns.set_both {w : World} {base g cap : Nat} {e : TypeId} {l : List Sl} (h : SOwns w base e (.slice (some ⟨g, 0, none⟩) l.length cap) l) (k : Nat) (hk : k < l.length) (t : ByteArray) (z : Int) :
    SOwns ((w.setCell ⟨g, k * 2, none⟩ (.string t)).setCell ⟨g, k * 2 + 1, none⟩ (.int .i64 z)) base e (.slice (some ⟨g, 0, none⟩) l.length cap) (l.set k (t, z)) ∧ w.grownBy ((w.setCell ⟨g, k * 2, none⟩ (.string t)).setCell ⟨g, k * 2 + 1, none⟩ (.int .i64 z)) (some g) := by
  have h1 := h.set_name k hk t
  have h2 : SOwns (w.setCell ⟨g, k * 2, none⟩ (.string t)) base e (.slice (some ⟨g, 0, none⟩) (l.set k (t, l[k].2)).length cap) (l.set k (t, l[k].2)) := by rw [List.length_set]; exact h1.1
  have h3 := h2.set_ino k (by simpa using hk) z
  simp only [List.length_set, List.getElem_set_self, List.set_set] at h3
  exact ⟨h3.1, grownBy_trans h1.2 h3.2⟩
/-- The slice value v reads as the slots xs. -/
def RSl (w : World) (v : Value) (xs : List Sl) : Prop := ∃ a cap, v = .slice a xs.length cap ∧ xs.length ≤ cap ∧ ∀ (j : Nat) (h : j < xs.length), ∃ g off, a = some ⟨g, off, none⟩ ∧ g < w.heap.size ∧ w.cell? ⟨g, off + j * 2, none⟩ = some (.string xs[j].1) ∧ w.cell? ⟨g, off + j * 2 + 1, none⟩ = some (.int .i64 xs[j].2)
theorem RSl.below {w w' : World} {B : Nat} {v : Value} {xs : List Sl} (h : RSl w v xs) (hb : Below B w w') (hB : w.heap.size ≤ B) : RSl w' v xs := by
  obtain ⟨a, cap, rfl, hcap, h⟩ := h
  refine ⟨a, cap, rfl, hcap, fun j hj => ?_⟩
  obtain ⟨g, off, e, hg, hc, hd⟩ := h j hj
  exact ⟨g, off, e, Nat.lt_of_lt_of_le hg hb.size, (hb.cell (p := ⟨g, off + j * 2, none⟩) (Nat.lt_of_lt_of_le hg hB)).trans hc, (hb.cell (p := ⟨g, off + j * 2 + 1, none⟩) (Nat.lt_of_lt_of_le hg hB)).trans hd⟩
theorem RSl.alloc {w : World} {v : Value} {xs : List Sl} (h : RSl w v xs) (o : Obj) : RSl (w.alloc o) v xs := h.below ((Below.refl _ w).alloc (Nat.le_refl _) o) (Nat.le_refl _)
theorem RSl.drew {w : World} {v : Value} {xs : List Sl} (h : RSl w v xs) : RSl w.drew v xs := h
theorem RSl.form {w : World} {v : Value} {xs : List Sl} (h : RSl w v xs) : ∃ a c, v = .slice a xs.length c := by
  obtain ⟨a, c, h, _⟩ := h
  exact ⟨a, c, h⟩
theorem SOwns.rsl {w : World} {base : Nat} {e : TypeId} {v : Value} {xs : List Sl} (h : SOwns w base e v xs) : RSl w v xs := by
  rcases h.2 with ⟨rfl, h0⟩ | ⟨g, cap, cur, rfl, _, _, hcap, _⟩
  · have : xs = [] := List.length_eq_zero_iff.1 h0
    subst this
    exact ⟨none, 0, rfl, Nat.le_refl _, fun j hj => absurd hj (Nat.not_lt_zero _)⟩
  · refine ⟨_, cap, rfl, hcap, fun j hj => ?_⟩
    obtain ⟨g', c', e1, k1, k2, _, _, k5, _⟩ := h.at j hj
    simp only [Value.slice.injEq, Option.some.injEq, Addr.mk.injEq] at e1
    obtain ⟨⟨rfl, -, -⟩, -, rfl⟩ := e1
    exact ⟨g, 0, rfl, k5, by rw [Nat.zero_add]; exact k1, by rw [Nat.zero_add]; exact k2⟩
end Go.Proofs.YtljooldjcefkoaaGreat.Kit
/- A variable in a block of its own: what is known of it over calls and stores. No Go function is spoken of. -/
namespace Go.Proofs.YtljooldjcefkoaaGreat.Kit
open Go.RowKit
/-- Block b holds the cells cs of a variable of type T. -/
def AtC (w : World) (b : Nat) (T : TypeId) (cs : Array Value) : Prop := w.heap[b]? = some (.cells cs T (0, 0))
theorem AtC.lt {w : World} {b : Nat} {T : TypeId} {cs : Array Value} (h : AtC w b T cs) : b < w.heap.size := (Array.getElem?_eq_some_iff.1 h).1
theorem AtC.new (w : World) (T : TypeId) (cs : Array Value) : AtC (w.alloc (.cells cs T)) w.heap.size T cs := heap_new w _
theorem AtC.alloc {w : World} {b : Nat} {T : TypeId} {cs : Array Value} (h : AtC w b T cs) (o : Obj) : AtC (w.alloc o) b T cs := (Below.heap_alloc _ _ _ h.lt).trans h
theorem AtC.drew {w : World} {b : Nat} {T : TypeId} {cs : Array Value} (h : AtC w b T cs) : AtC w.drew b T cs := h
theorem AtC.below {w w' : World} {b B : Nat} {T : TypeId} {cs : Array Value} (h : AtC w b T cs) (hb : Below B w w') (hB : b < B) : AtC w' b T cs := (hb.block b hB).trans h
theorem AtC.over {w w' : World} {b : Nat} {T : TypeId} {cs : Array Value} (h : AtC w b T cs) (hb : Below w.heap.size w w') : AtC w' b T cs := h.below hb h.lt
theorem AtC.grown {w w' : World} {b : Nat} {T : TypeId} {cs : Array Value} {row : Option Nat} (h : AtC w b T cs) (hg : w.grownBy w' row) (hr : row ≠ some b) : AtC w' b T cs := (hg.block b h.lt (fun e => hr e.symm)).trans h
theorem AtC.set {w : World} {b : Nat} {T : TypeId} {cs : Array Value} (h : AtC w b T cs) (k : Nat) (x : Value) : AtC (w.setCell ⟨b, k, none⟩ x) b T (cs.setIfInBounds k x) := heap_setCell_same w b k cs T x h
theorem AtC.other {w : World} {b : Nat} {T : TypeId} {cs : Array Value} (h : AtC w b T cs) {g k : Nat} (hn : b ≠ g) (x : Value) : AtC (w.setCell ⟨g, k, none⟩ x) b T cs := (heap_setCell_other w ⟨g, k, none⟩ b x hn).trans h
theorem AtC.cell {w : World} {b : Nat} {T : TypeId} {cs : Array Value} (h : AtC w b T cs) (k : Nat) : w.cell? ⟨b, k, none⟩ = cs[k]? := cell_of_row w b k cs T _ h
theorem AtC.frozen {w : World} {b : Nat} {T : TypeId} {cs : Array Value} (h : AtC w b T cs) (k : Nat) : w.frozen? ⟨b, k, none⟩ = false := frozen_of_row w b k cs T h
theorem AtC.two {w : World} {b : Nat} {T : TypeId} {x y : Value} (h : AtC w b T #[x, y]) : w.cell? ⟨b, 0, none⟩ = some x ∧ w.cell? ⟨b, 1, none⟩ = some y ∧ b < w.heap.size := ⟨h.cell 0, h.cell 1, h.lt⟩
theorem AtC.three {w : World} {b : Nat} {T : TypeId} {x y z : Value} (h : AtC w b T #[x, y, z]) : w.cell? ⟨b, 0, none⟩ = some x ∧ w.cell? ⟨b, 1, none⟩ = some y ∧ w.cell? ⟨b, 2, none⟩ = some z ∧ b < w.heap.size := ⟨h.cell 0, h.cell 1, h.cell 2, h.lt⟩
theorem AtC.frz {w : World} {b : Nat} {T : TypeId} {cs : Array Value} (h : AtC w b T cs) : w.frozen? ⟨b, 0, none⟩ = false ∧ w.frozen? ⟨b, 1, none⟩ = false ∧ w.frozen? ⟨b, 2, none⟩ = false := ⟨h.frozen 0, h.frozen 1, h.frozen 2⟩
end Go.Proofs.YtljooldjcefkoaaGreat.Kit
/- laws.eqIntS, laws.sameInts, laws.markIntS and laws.heldIntS by their contracts. -/
namespace Go.Proofs.YtljooldjcefkoaaGreat.Kit
open Go.RowKit
/-- Numbers as cells. -/
def ic (l : List Int) : List Value := l.map fun z => Value.int .i64 z
theorem ic_length (l : List Int) : (ic l).length = l.length := by simp [ic]
/-- The slice value v reads as the numbers xs. -/
def RInts (w : World) (v : Value) (xs : List Int) : Prop := ∃ a cap, v = .slice a xs.length cap ∧ ∀ (j : Nat) (h : j < xs.length), ∃ g off, a = some ⟨g, off, none⟩ ∧ g < w.heap.size ∧ w.cell? ⟨g, off + j, none⟩ = some (.int .i64 xs[j])
theorem RInts.below {w w' : World} {B : Nat} {v : Value} {xs : List Int} (h : RInts w v xs) (hb : Below B w w') (hB : w.heap.size ≤ B) : RInts w' v xs := by
  obtain ⟨a, cap, rfl, h⟩ := h
  refine ⟨a, cap, rfl, fun j hj => ?_⟩
  obtain ⟨g, off, e, hg, hc⟩ := h j hj
  exact ⟨g, off, e, Nat.lt_of_lt_of_le hg hb.size, (hb.cell (p := ⟨g, off + j, none⟩) (Nat.lt_of_lt_of_le hg hB)).trans hc⟩
theorem ROwns.rints {w : World} {base : Nat} {e : TypeId} {v : Value} {xs : List Int} (h : ROwns w base e v (ic xs)) : RInts w v xs := by
  obtain ⟨a, cap, rfl, _⟩ := h.form
  refine ⟨a, cap, by rw [ic_length], fun j hj => ?_⟩
  obtain ⟨g, c, e1, k1, _, _, k4, _⟩ := h.at j (by rw [ic_length]; exact hj)
  simp only [Value.slice.injEq] at e1
  refine ⟨g, 0, e1.1, k4, ?_⟩
  rw [Nat.zero_add, k1]
  simp [ic, hj]
/-- The marksI from k on, n of them. -/
def marksI (k n : Nat) : List Int := (List.range n).map fun j => ((k + j : Nat) : Int)
theorem marks_lengthI (k n : Nat) : (marksI k n).length = n := by simp [marksI]
theorem marks_atI (k n j : Nat) (h : j < n) : (ic (marksI k n))[j]? = some (.int .i64 ((k + j : Nat) : Int)) := by simp [marksI, ic, h]
/-- The first j cells are marksI already. -/
def markedI (k j : Nat) (l : List Int) : List Int := marksI k j ++ l.drop j
theorem marked_lengthI (k j : Nat) (l : List Int) (h : j ≤ l.length) : (markedI k j l).length = l.length := by simp [markedI, marks_lengthI]; omega
theorem marked_zeroI (k : Nat) (l : List Int) : markedI k 0 l = l := by simp [markedI, marksI]
theorem marked_allI (k : Nat) (l : List Int) : markedI k l.length l = marksI k l.length := by simp [markedI]
theorem marked_setI (k j : Nat) (l : List Int) (h : j < l.length) : (ic (markedI k j l)).set j (.int .i64 ((k + j : Nat) : Int)) = ic (markedI k (j + 1) l) := by
  have : (markedI k j l).set j ((k + j : Nat) : Int) = markedI k (j + 1) l := by
    unfold markedI
    rw [List.set_append_right _ _ (by rw [marks_lengthI]; omega), marks_lengthI, Nat.sub_self, List.drop_eq_getElem_cons h, List.set_cons_zero]
    simp [marksI, List.range_succ]
  rw [← this]
  simp [ic, List.map_set]
theorem marked_cellI (k j : Nat) (l : List Int) (h : j < l.length) : (ic (markedI k j l))[j]? = some (.int .i64 l[j]) := by
  unfold ic markedI
  rw [List.map_append, List.getElem?_append_right (by rw [List.length_map, marks_lengthI]; omega), List.length_map, marks_lengthI, Nat.sub_self, List.map_drop, List.getElem?_drop]
  simp [h]
end Go.Proofs.YtljooldjcefkoaaGreat.Kit
namespace Go.Proofs.YtljooldjcefkoaaGreat
open Go.RowKit Kit

set_option maxRecDepth 100000 in
set_option maxHeartbeats 800000 in
theorem eqI_same (va vb : Value) (l : List Int) (w : World) (ha : RInts w va l) (hb : RInts w vb l) (hl : l.length ≤ 1000000000) :
    Calls Tryz.prog 93 #[va, vb] w fun e w' => e = .returned (.bool true) ∧ Below w.heap.size w w' := by
  obtain ⟨a1, c1, rfl, ha⟩ := ha
  obtain ⟨a2, c2, rfl, hb⟩ := hb
  have HA := hide ha
  have HB := hide hb
  clear ha hb
  go_enter Tryz.func93, Tryz.ntmps93
  go_wp2
  go_loopw [5] (fun i wr => ∃ j : Nat, j ≤ l.length ∧ i = .int .i64 j ∧ ∃ q, wr = w.drewN q) (fun i _ => l.length - (intOf i).toNat)
  case atStart => exact ⟨0, Nat.zero_le _, rfl, 0, rfl⟩
  case round =>
    obtain ⟨j, hj, rfl, q, rfl⟩ := hrel
    by_cases hlt : j < l.length
    · obtain ⟨g1, o1, rfl, _, k1⟩ := HA.out j hlt
      obtain ⟨g2, o2, rfl, _, k2⟩ := HB.out j hlt
      obtain ⟨t, ht⟩ : ∃ t, l[j] = t := ⟨_, rfl⟩
      rw [ht] at k1 k2
      clear ht
      have j0 : (0 : Int) ≤ (j : Int) := by omega
      have j1 : (j : Int) < (l.length : Int) := by omega
      go_wp2
      go_quiet (fail)
      go_wp2
      go_roundw
      case rel => exact ⟨j + 1, by omega, by go_num, _, rfl⟩
      case measure => simp [intOf]; omega
    · go_wp2
      go_ret
      exact ⟨rfl, below_drewN (Below.refl _ _) _⟩

end Go.Proofs.YtljooldjcefkoaaGreat
/- spec.InodeNew and (impl.inodeRecord).inode by their contracts. -/
namespace Go.Proofs.YtljooldjcefkoaaGreat.Kit
open Go.RowKit
theorem ROwns.form2 {w : World} {base : Nat} {e : TypeId} {v : Value} {p q : Int} (h : ROwns w base e v (ic [p, q])) : ∃ a c, v = .slice a 2 c := by
  obtain ⟨a, c, h1, _⟩ := h.form
  exact ⟨a, c, h1⟩
theorem heap_new2 (w : World) (o o2 : Obj) : ((w.alloc o).alloc o2).heap[w.heap.size]? = some o := (Below.heap_alloc _ _ _ (by simp)).trans (heap_new w o)
theorem heap_new3 (w : World) (o o2 o3 : Obj) : (((w.alloc o).alloc o2).alloc o3).heap[w.heap.size]? = some o := (Below.heap_alloc _ _ _ (by simp; omega)).trans (heap_new2 w o o2)
end Go.Proofs.YtljooldjcefkoaaGreat.Kit
namespace Go.Proofs.YtljooldjcefkoaaGreat
open Go.RowKit Kit
theorem Tryz.u42 : Tryz.prog.underlying 42 = some (.slice 3) := by kernel_rfl
theorem Tryz.i3 : (Tryz.prog.info? 3).map (fun i => (i.zero, i.size, i.bytes)) = some (some (.int .i64 0), 1, 8) := by kernel_rfl
theorem make22 (w : World) : (Instr.makeSlice 42 (.int .i64 2) (.int .i64 2)).run Tryz.prog w = .ok (.slice (some ⟨w.heap.size, 0, none⟩) 2 2) (w.alloc (.cells #[.int .i64 0, .int .i64 0] 3)) := by
  obtain ⟨i0, hi, hz0, hz1, hz2⟩ := info_parts Tryz.i3
  rw [run_make w 42 3 i0 (.int .i64 0) Tryz.u42 hi hz0 .i64 .i64 2 2 (by decide) (by decide) (by rw [hz2]; decide) (by decide), hz1]
  have e1 : ∀ (z : Value) n (l : List Value), List.replicate n z = l → madeCells #[z] n = l.toArray := fun z n l h => Array.toList_inj.1 (by rw [toList_madeCells_one, h])
  rw [show Value.cells _ = #[_] from rfl, e1 _ _ _ rfl]
  rfl
theorem make02 (w : World) : (Instr.makeSlice 42 (.int .i64 0) (.int .i64 2)).run Tryz.prog w = .ok (.slice (some ⟨w.heap.size, 0, none⟩) 0 2) (w.alloc (.cells #[.int .i64 0, .int .i64 0] 3)) := by
  obtain ⟨i0, hi, hz0, hz1, hz2⟩ := info_parts Tryz.i3
  rw [run_make w 42 3 i0 (.int .i64 0) Tryz.u42 hi hz0 .i64 .i64 0 2 (by decide) (by decide) (by rw [hz2]; decide) (by decide), hz1]
  have e1 : ∀ (z : Value) n (l : List Value), List.replicate n z = l → madeCells #[z] n = l.toArray := fun z n l h => Array.toList_inj.1 (by rw [toList_madeCells_one, h])
  rw [show Value.cells _ = #[_] from rfl, e1 _ _ _ rfl]
  rfl
theorem make04 (w : World) : (Instr.makeSlice 148 (.int .i64 0) (.int .i64 4)).run Tryz.prog w = .ok (.slice (some ⟨w.heap.size, 0, none⟩) 0 4) (w.alloc (.cells #[.int .u8 0, .int .u8 0, .int .u8 0, .int .u8 0] 5)) := by
  obtain ⟨i0, hi, hz0, hz1, hz2⟩ := info_parts Tryz.i5
  rw [run_make w 148 5 i0 (.int .u8 0) Tryz.u148 hi hz0 .i64 .i64 0 4 (by decide) (by decide) (by rw [hz2]; decide) (by decide), hz1]
  have e1 : ∀ (z : Value) n (l : List Value), List.replicate n z = l → madeCells #[z] n = l.toArray := fun z n l h => Array.toList_inj.1 (by rw [toList_madeCells_one, h])
  rw [show Value.cells _ = #[_] from rfl, e1 _ _ _ rfl]
  rfl
theorem Tryz.u116 : Tryz.prog.underlying 116 = some (.array 2 3) := by kernel_rfl
theorem arr0 (p q : Int) (w : World) : (Instr.index 116 (.agg #[.int .i64 p, .int .i64 q]) (.int .i64 0)).run Tryz.prog w = .ok (.int .i64 p) w := by
  obtain ⟨i0, hi, hz0, hz1, hz2⟩ := info_parts Tryz.i3
  simp [Instr.index, run_underlying Tryz.u116, asIntOf, go_sem, sizeOf, typeInfo, hi, hz1, part]
theorem arr1 (p q : Int) (w : World) : (Instr.index 116 (.agg #[.int .i64 p, .int .i64 q]) (.int .i64 1)).run Tryz.prog w = .ok (.int .i64 q) w := by
  obtain ⟨i0, hi, hz0, hz1, hz2⟩ := info_parts Tryz.i3
  simp [Instr.index, run_underlying Tryz.u116, asIntOf, go_sem, sizeOf, typeInfo, hi, hz1, part]
/-- The links of a new inode. -/
def newLinks (k : Int) : Int := if k = 0 then 0 else 1

end Go.Proofs.YtljooldjcefkoaaGreat
/- laws.eqInode, laws.markInode and laws.heldInode by their contracts. -/
namespace Go.Proofs.YtljooldjcefkoaaGreat.Kit
open Go.RowKit
theorem RInts.alloc {w : World} {v : Value} {xs : List Int} (h : RInts w v xs) (o : Obj) : RInts (w.alloc o) v xs := h.below ((Below.refl _ w).alloc (Nat.le_refl _) o) (Nat.le_refl _)
theorem RInts.form {w : World} {v : Value} {xs : List Int} (h : RInts w v xs) : ∃ a c, v = .slice a xs.length c := by
  obtain ⟨a, c, h, _⟩ := h
  exact ⟨a, c, h⟩
/-- A variable of an inode's type lies in block b. -/
def AtI (w : World) (b : Nat) (k l : Int) (v : Value) : Prop := w.heap[b]? = some (.cells #[.int .i64 k, .int .i64 l, v] 44 (0, 0))
theorem AtI.lt {w : World} {b : Nat} {k l : Int} {v : Value} (h : AtI w b k l v) : b < w.heap.size := (Array.getElem?_eq_some_iff.1 h).1
theorem AtI.new (w : World) (k l : Int) (v : Value) : AtI (w.alloc (.cells #[.int .i64 k, .int .i64 l, v] 44)) w.heap.size k l v := heap_new w _
theorem AtI.alloc {w : World} {b : Nat} {k l : Int} {v : Value} (h : AtI w b k l v) (o : Obj) : AtI (w.alloc o) b k l v := (Below.heap_alloc _ _ _ h.lt).trans h
theorem AtI.below {w w' : World} {b B : Nat} {k l : Int} {v : Value} (h : AtI w b k l v) (hb : Below B w w') (hB : b < B) : AtI w' b k l v := (hb.block b hB).trans h
theorem AtI.grown {w w' : World} {b : Nat} {k l : Int} {v : Value} {row : Option Nat} (h : AtI w b k l v) (hg : w.grownBy w' row) (hr : row ≠ some b) : AtI w' b k l v := (hg.block b h.lt (fun e => hr e.symm)).trans h
theorem AtI.cells {w : World} {b : Nat} {k l : Int} {v : Value} (h : AtI w b k l v) :
    w.cell? ⟨b, 0, none⟩ = some (.int .i64 k) ∧ w.cell? ⟨b, 1, none⟩ = some (.int .i64 l) ∧ w.cell? ⟨b, 2, none⟩ = some v ∧ b < w.heap.size := by
  have h' : w.heap[b]? = some (.cells #[.int .i64 k, .int .i64 l, v] 44 (0, 0)) := h
  exact ⟨by simp [World.cell?, h'], by simp [World.cell?, h'], by simp [World.cell?, h'], h.lt⟩
end Go.Proofs.YtljooldjcefkoaaGreat.Kit
namespace Go.Proofs.YtljooldjcefkoaaGreat
open Go.RowKit Kit

set_option maxHeartbeats 800000 in
theorem eqN_sameI (k l : Int) (va vb : Value) (xs : List Int) (w : World) (ha : RInts w va xs) (hb : RInts w vb xs) (hl : xs.length ≤ 1000000000) :
    Calls Tryz.prog 76 #[.agg #[.int .i64 k, .int .i64 l, va], .agg #[.int .i64 k, .int .i64 l, vb]] w fun e w' => e = .returned (.bool true) ∧ Below w.heap.size w w' := by
  obtain ⟨a1, c1, rfl⟩ := ha.form
  obtain ⟨a2, c2, rfl⟩ := hb.form
  have HA := hide ha
  have HB := hide hb
  clear ha hb
  go_enter Tryz.func76, Tryz.ntmps76
  go_wp2_with fail
  refine (eqI_same _ _ xs _ ((HA.out.alloc _).alloc _) ((HB.out.alloc _).alloc _) hl).mono ?_
  rintro e w1 ⟨rfl, B1⟩
  have HB1 := hide B1
  clear B1
  go_wp2
  go_ret
  exact ⟨rfl, ((((Below.refl _ w).alloc (Nat.le_refl _) _).alloc (by simp) _).trans (HB1.out.mono (by simp; omega)))⟩

end Go.Proofs.YtljooldjcefkoaaGreat
/- laws.eqBoolS, laws.markBoolS and laws.heldBoolS by their contracts. -/
namespace Go.Proofs.YtljooldjcefkoaaGreat.Kit
open Go.RowKit
/-- Flags as cells. -/
def fc (l : List Bool) : List Value := l.map fun z => Value.bool z
theorem fc_length (l : List Bool) : (fc l).length = l.length := by simp [fc]
theorem fc_append (a b : List Bool) : fc (a ++ b) = fc a ++ fc b := by simp [fc]
/-- The slice value v reads as the flags xs. -/
def RFl (w : World) (v : Value) (xs : List Bool) : Prop := ∃ a cap, v = .slice a xs.length cap ∧ ∀ (j : Nat) (h : j < xs.length), ∃ g off, a = some ⟨g, off, none⟩ ∧ g < w.heap.size ∧ w.cell? ⟨g, off + j, none⟩ = some (.bool xs[j])
theorem RFl.below {w w' : World} {B : Nat} {v : Value} {xs : List Bool} (h : RFl w v xs) (hb : Below B w w') (hB : w.heap.size ≤ B) : RFl w' v xs := by
  obtain ⟨a, cap, rfl, h⟩ := h
  refine ⟨a, cap, rfl, fun j hj => ?_⟩
  obtain ⟨g, off, e, hg, hc⟩ := h j hj
  exact ⟨g, off, e, Nat.lt_of_lt_of_le hg hb.size, (hb.cell (p := ⟨g, off + j, none⟩) (Nat.lt_of_lt_of_le hg hB)).trans hc⟩
theorem ROwns.rfl {w : World} {base : Nat} {e : TypeId} {v : Value} {xs : List Bool} (h : ROwns w base e v (fc xs)) : RFl w v xs := by
  obtain ⟨a, cap, rfl, _⟩ := h.form
  refine ⟨a, cap, by rw [fc_length], fun j hj => ?_⟩
  obtain ⟨g, c, e1, k1, _, _, k4, _⟩ := h.at j (by rw [fc_length]; exact hj)
  simp only [Value.slice.injEq] at e1
  refine ⟨g, 0, e1.1, k4, ?_⟩
  rw [Nat.zero_add, k1]
  simp [fc, hj]
theorem RFl.alloc {w : World} {v : Value} {xs : List Bool} (h : RFl w v xs) (o : Obj) : RFl (w.alloc o) v xs := h.below ((Below.refl _ w).alloc (Nat.le_refl _) o) (Nat.le_refl _)
theorem RFl.drew {w : World} {v : Value} {xs : List Bool} (h : RFl w v xs) : RFl w.drew v xs := h.below (Below.refl w.heap.size w).drew (Nat.le_refl _)
theorem RFl.form {w : World} {v : Value} {xs : List Bool} (h : RFl w v xs) : ∃ a c, v = .slice a xs.length c := by
  obtain ⟨a, c, h, _⟩ := h
  exact ⟨a, c, h⟩
/-- The mark of a place. -/
def mk3 (k : Nat) : Bool := decide (k % 3 = 0)
theorem mk3_int (k : Nat) : mk3 k = ((k : Int) % 3 == 0) := by
  unfold mk3
  rw [Bool.eq_iff_iff]
  simp
  omega
/-- The marksB from k on, n of them. -/
def marksB (k n : Nat) : List Bool := (List.range n).map fun j => mk3 (k + j)
theorem marks_lengthB (k n : Nat) : (marksB k n).length = n := by simp [marksB]
theorem marks_atB (k n j : Nat) (h : j < n) : (fc (marksB k n))[j]? = some (.bool (mk3 (k + j))) := by simp [marksB, fc, h]
/-- The first j cells are marksB already. -/
def markedB (k j : Nat) (l : List Bool) : List Bool := marksB k j ++ l.drop j
theorem marked_lengthB (k j : Nat) (l : List Bool) (h : j ≤ l.length) : (markedB k j l).length = l.length := by simp [markedB, marks_lengthB]; omega
theorem marked_zeroB (k : Nat) (l : List Bool) : markedB k 0 l = l := by simp [markedB, marksB]
theorem marked_allB (k : Nat) (l : List Bool) : markedB k l.length l = marksB k l.length := by simp [markedB]
theorem marked_setB (k j : Nat) (l : List Bool) (h : j < l.length) : (fc (markedB k j l)).set j (.bool (mk3 (k + j))) = fc (markedB k (j + 1) l) := by
  have : (markedB k j l).set j (mk3 (k + j)) = markedB k (j + 1) l := by
    unfold markedB
    rw [List.set_append_right _ _ (by rw [marks_lengthB]; omega), marks_lengthB, Nat.sub_self, List.drop_eq_getElem_cons h, List.set_cons_zero]
    simp [marksB, List.range_succ]
  rw [← this]
  simp [fc, List.map_set]
theorem marked_cellB (k j : Nat) (l : List Bool) (h : j < l.length) : (fc (markedB k j l))[j]? = some (.bool l[j]) := by
  unfold fc markedB
  rw [List.map_append, List.getElem?_append_right (by rw [List.length_map, marks_lengthB]; omega), List.length_map, marks_lengthB, Nat.sub_self, List.map_drop, List.getElem?_drop]
  simp [h]
end Go.Proofs.YtljooldjcefkoaaGreat.Kit
namespace Go.Proofs.YtljooldjcefkoaaGreat
open Go.RowKit Kit

set_option maxRecDepth 100000 in
set_option maxHeartbeats 800000 in
theorem eqB_sameB (va vb : Value) (l : List Bool) (w : World) (ha : RFl w va l) (hb : RFl w vb l) (hl : l.length ≤ 1000000000) :
    Calls Tryz.prog 75 #[va, vb] w fun e w' => e = .returned (.bool true) ∧ Below w.heap.size w w' := by
  obtain ⟨a1, c1, rfl, ha⟩ := ha
  obtain ⟨a2, c2, rfl, hb⟩ := hb
  have HA := hide ha
  have HB := hide hb
  clear ha hb
  go_enter Tryz.func75, Tryz.ntmps75
  go_wp2
  go_loopw [5] (fun i wr => ∃ j : Nat, j ≤ l.length ∧ i = .int .i64 j ∧ ∃ q, wr = w.drewN q) (fun i _ => l.length - (intOf i).toNat)
  case atStart => exact ⟨0, Nat.zero_le _, rfl, 0, rfl⟩
  case round =>
    obtain ⟨j, hj, rfl, q, rfl⟩ := hrel
    by_cases hlt : j < l.length
    · obtain ⟨g1, o1, rfl, _, k1⟩ := HA.out j hlt
      obtain ⟨g2, o2, rfl, _, k2⟩ := HB.out j hlt
      obtain ⟨t, ht⟩ : ∃ t, l[j] = t := ⟨_, rfl⟩
      rw [ht] at k1 k2
      clear ht
      have j0 : (0 : Int) ≤ (j : Int) := by omega
      have j1 : (j : Int) < (l.length : Int) := by omega
      go_wp2
      go_quiet (fail)
      go_wp2
      go_roundw
      case rel => exact ⟨j + 1, by omega, by go_num, _, rfl⟩
      case measure => simp [intOf]; omega
    · go_wp2
      go_ret
      exact ⟨rfl, below_drewN (Below.refl _ _) _⟩

end Go.Proofs.YtljooldjcefkoaaGreat
