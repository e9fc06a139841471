/- Plain facts for the walks of one seat, no Go function spoken of: byte slices that a call owns, bytes of numbers in base 128, figures, what a text's bytes in a block are. -/
import Derived.WalkKit
import Derived.WalkSpells
import Derived.WalkLawsBesides
import Derived.Laws.IdiomStrings
import Derived.Deep.AppendLies
namespace Go.Proofs.YthfiaihbpnlbjaaDoor.Kit
open Go.RowKit

/-- Put a fact out of the walk's sight. -/
theorem hide {p : Prop} (h : p) : Hid p := h

/-- A byte as a cell. -/
def bc (l : List UInt8) : List Value := l.map fun b => Value.int .u8 (b.toNat : Int)

theorem bc_append (a b : List UInt8) : bc (a ++ b) = bc a ++ bc b := by simp [bc]
theorem bc_length (a : List UInt8) : (bc a).length = a.length := by simp [bc]
theorem bc_one (b : UInt8) : bc [b] = [Value.int .u8 (b.toNat : Int)] := rfl

/-- The slice value v owns the bytes l (element type e), in blocks from 'base' on. -/
def Owns (w : World) (base : Nat) (e : TypeId) (v : Value) (l : List UInt8) : Prop := w.ownsRow base e 1 v l.length (bc l)

theorem Owns.alloc {w : World} {base : Nat} {e : TypeId} {v : Value} {l : List UInt8} (h : Owns w base e v l) (o : Obj) : Owns (w.alloc o) base e v l := World.ownsRow.alloc h o
theorem Owns.drew {w : World} {base : Nat} {e : TypeId} {v : Value} {l : List UInt8} (h : Owns w base e v l) : Owns w.drew base e v l := World.ownsRow.drew h
theorem Owns.nil (w : World) (base : Nat) (e : TypeId) : Owns w base e (.slice none 0 0) [] := World.ownsRow_nil _ _ _ _
theorem Owns.lit0 (w : World) (base : Nat) (e : TypeId) (hb : base ≤ w.heap.size) : Owns (w.alloc (.cells #[] e)) base e (.slice (some ⟨w.heap.size, 0, none⟩) 0 0) [] :=
  World.ownsRow_lit w #[] 0 hb (Nat.zero_le _) rfl

/-- 'string(b)' of a slice that owns the bytes l. -/
theorem conv_own {P : Program} {w : World} {base : Nat} {v : Value} {l : List UInt8} (src dst e : TypeId) (hs : P.underlying src = some (.slice e)) (he : P.underlying e = some (.int .u8)) (hd : P.underlying dst = some .string)
    (hown : Owns w base e v l) : (convert src dst v).run P w = .ok (.string ⟨l.toArray⟩) w := by
  unfold Owns at hown
  rcases hown.2 with ⟨rfl, h0⟩ | ⟨g, cap, cur, rfl, _, hg, hnc, hcm, hcs, htake⟩
  · have : l = [] := List.length_eq_zero_iff.1 h0
    subst this
    rw [run_convert_bytes_string w src dst e none 0 0 hs he hd]
    simp [Conv.bytesToString]
    rfl
  · refine run_convert_bytes_back w src dst e ⟨g, 0, none⟩ cap l hs he hd ?_
    intro j hj
    have hc : w.cell? ⟨g, j, none⟩ = (bc l)[j]? := hown.cellAt j (by omega)
    have ha : (⟨g, 0, none⟩ : Addr).add j = ⟨g, j, none⟩ := by cases j <;> simp [Addr.add]
    rw [ha, hc]
    simp [bc, hj]

/-- 'out = append(out, b)' of one byte, out a slice that the call owns: what it owns behind it, and that nothing below 'base' has turned. -/
theorem wpList_append_byte {P : Program} {w : World} {ops : Array Oper} {rest : List Oper} {o : Oper} {a : Act} {Q : Exit → Act → World → Prop} (w0 : World) (hgd : o.guard = none) (s x : Operand) (t : TypeId)
    (ho : o.op = .call { callee := .builtin .append, args := #[s, x], argTypes := #[t, t] }) (base : Nat) (e : TypeId) (ht : P.underlying t = some (.slice e))
    (hi : (P.info? e).map (fun i => (i.zero, i.size, i.bytes)) = some (some (.int .u8 0), 1, 1)) (v : Value) (pre : List UInt8) (hs : a.eval s = v) (hown : Owns w base e v pre)
    (hb : Below base w0 w) (hbase : base ≤ w.heap.size) (g : Nat) (hx : a.eval x = .slice (some ⟨g, 0, none⟩) 1 1) (b : UInt8) (z : Int) (hz : z = (b.toNat : Int)) (hc : w.cell? ⟨g, 0, none⟩ = some (.int .u8 z)) (hl : pre.length ≤ 1000000000000)
    (h : ∀ v' w', Owns w' base e v' (pre ++ [b]) → Below base w0 w' → w.grownBy w' v.ownBlock → wpList P ops Q rest (a.put o.dst v') w') : wpList P ops Q (o :: rest) a w := by
  obtain ⟨i0, hi, hz0, hz1, hz2⟩ := info_parts hi
  unfold Owns at hown
  refine wpList_append_own w hgd s x t ho base e i0 (.int .u8 0) 1 1 ht hi hz0 hz1 hz2 rfl (by decide) v pre.length (bc pre) hs hown ⟨g, 0, none⟩ 1 1 [.int .u8 z] hx rfl ?_ ?_ ?_ ?_ hbase ?_
  · intro j u hj
    match j, hj with
    | 0, hj => simp at hj; subst hj; simpa [Addr.add] using hc
  · intro u hu; simp at hu; subst hu; rfl
  · unfold maxLen; omega
  · omega
  · intro v' w' hown' hgrow _
    refine h v' w' ?_ (hb.grown hgrow hbase fun k hk => (hown.lt k hk).1) hgrow
    unfold Owns
    rw [bc_append, bc_one, ← hz]
    simpa using hown'

/-- The byte that goes on: the lowest seven bits, and 128. -/
def hiB (m : Nat) : UInt8 := UInt8.ofNat (m % 128 + 128)
/-- The last byte. -/
def loB (m : Nat) : UInt8 := UInt8.ofNat m

/-- The bytes of a number, with fuel. -/
def vbF : Nat → Nat → List UInt8
  | 0, n => [loB n]
  | f + 1, n => if 127 < n then hiB n :: vbF f (n / 128) else [loB n]

/-- The bytes of a number (below 2^63). -/
def vb (n : Nat) : List UInt8 := vbF 9 n

theorem vbF_big (f n : Nat) (h : 127 < n) : vbF (f + 1) n = hiB n :: vbF f (n / 128) := by simp [vbF, h]
theorem vbF_small (f n : Nat) (h : n ≤ 127) : vbF f n = [loB n] := by
  cases f with
  | zero => rfl
  | succ f => simp [vbF]; omega
theorem vbF_len (f n : Nat) : (vbF f n).length ≤ f + 1 := by
  induction f generalizing n with
  | zero => simp [vbF]
  | succ f ih => 
    unfold vbF
    split
    · have := ih (n / 128); simp; omega
    · simp

/-- 'append(out, b, ..)' of some bytes at a step of a region that draws its order. -/
theorem step_append_bytes {P : Program} {w : World} {ops : Array Oper} {o : Oper} {a : Act} {K : Act → World → Prop} {Q : Exit → Act → World → Prop} {E : Prop} (w0 : World) (hgd : o.guard = none) (s x : Operand) (t : TypeId)
    (ho : o.op = .call { callee := .builtin .append, args := #[s, x], argTypes := #[t, t] }) (base : Nat) (e : TypeId) (ht : P.underlying t = some (.slice e))
    (hi : (P.info? e).map (fun i => (i.zero, i.size, i.bytes)) = some (some (.int .u8 0), 1, 1)) (v : Value) (pre : List UInt8) (hs : a.eval s = v) (hown : Owns w base e v pre)
    (hb : Below base w0 w) (hbase : base ≤ w.heap.size) (g m : Nat) (hx : a.eval x = .slice (some ⟨g, 0, none⟩) m m) (nb : List UInt8) (hm : nb.length = m) (h0 : 0 < m)
    (hc : ∀ (j : Nat) (b : UInt8), nb[j]? = some b → w.cell? ⟨g, j, none⟩ = some (.int .u8 (b.toNat : Int))) (hl : pre.length + m ≤ 1000000000000)
    (h : ∀ v' w', Owns w' base e v' (pre ++ nb) → Below base w0 w' → w.grownBy w' v.ownBlock → K (a.put o.dst v') w') :
    if Region.wanted o (yielded ops a.tmps) = true then Oper.wp P o a w K Q else E := by
  obtain ⟨i0, hi, hz0, hz1, hz2⟩ := info_parts hi
  unfold Owns at hown
  refine step_append_lies w hgd s x t ho base e i0 (.int .u8 0) 1 1 ht hi hz0 hz1 hz2 rfl (by decide) v pre.length (bc pre) hs hown ⟨g, 0, none⟩ m m (bc nb) hx ?_ ?_ ?_ h0 ?_ ?_ hbase w.heap.size rfl ?_
  · rw [bc_length, hm]; omega
  · intro j u hj
    have ha : (⟨g, 0, none⟩ : Addr).add j = ⟨g, j, none⟩ := by cases j <;> simp [Addr.add]
    simp only [bc, List.getElem?_map, Option.map_eq_some_iff] at hj
    obtain ⟨b, hb1, rfl⟩ := hj
    rw [ha]
    exact hc j b hb1
  · intro u hu
    simp only [bc, List.mem_map] at hu
    obtain ⟨b, _, rfl⟩ := hu
    rfl
  · unfold maxLen; omega
  · omega
  · intro g' cap w' hown' hgrow _ _
    refine h _ w' ?_ (hb.grown hgrow hbase fun k hk => (hown.lt k hk).1) hgrow
    unfold Owns
    rw [bc_append, List.length_append, hm]
    exact hown'

/-- The same at two bytes that were just laid in a block of their own. -/
theorem step_append_two {P : Program} (w0 w : World) {ops : Array Oper} {o : Oper} {a : Act} {K : Act → World → Prop} {Q : Exit → Act → World → Prop} {E : Prop} (hgd : o.guard = none) (s x : Operand) (t : TypeId)
    (ho : o.op = .call { callee := .builtin .append, args := #[s, x], argTypes := #[t, t] }) (base : Nat) (e : TypeId) (ht : P.underlying t = some (.slice e))
    (hi : (P.info? e).map (fun i => (i.zero, i.size, i.bytes)) = some (some (.int .u8 0), 1, 1)) (v : Value) (pre : List UInt8) (hs : a.eval s = v) (hown : Owns w base e v pre)
    (hb : Below base w0 w) (hbase : base ≤ w.heap.size) (b1 b2 : UInt8) (hx : a.eval x = .slice (some ⟨w.heap.size, 0, none⟩) 2 2) (hl : pre.length + 2 ≤ 1000000000000)
    (h : ∀ v' w', Owns w' base e v' (pre ++ [b1, b2]) → Below base w0 w' → K (a.put o.dst v') w') :
    if Region.wanted o (yielded ops a.tmps) = true then Oper.wp P o a (w.alloc (.cells #[.int .u8 (b1.toNat : Int), .int .u8 (b2.toNat : Int)] e)).drew K Q else E := by
  refine step_append_bytes w0 hgd s x t ho base e ht hi v pre hs (hown.alloc _).drew (hb.alloc hbase _).drew (by simp; omega) w.heap.size 2 hx [b1, b2] rfl (by decide) ?_ hl fun v' w' h1 h2 _ => h v' w' h1 h2
  intro j b hj
  match j, hj with
  | 0, hj => simp at hj; subst hj; simp
  | 1, hj => simp at hj; subst hj; simp

theorem wrapId {x : Int} (h0 : 0 ≤ x) (h1 : x ≤ 1000000000000) : IntKind.i64.wrap x = x := by
  simp [IntKind.wrap, IntKind.signed, IntKind.bits]
  omega
/-- A figure. -/
def figB (x : Nat) : UInt8 := UInt8.ofNat (if x < 10 then 48 + x else 87 + x)
/-- The figures of bytes. -/
def hexL : List UInt8 → List UInt8
  | [] => []
  | c :: r => figB (c.toNat / 16) :: figB (c.toNat % 16) :: hexL r
theorem hexL_snoc (l : List UInt8) (c : UInt8) : hexL (l ++ [c]) = hexL l ++ [figB (c.toNat / 16), figB (c.toNat % 16)] := by
  induction l with
  | nil => rfl
  | cons a r ih => simp [hexL, ih]
theorem hexL_length (l : List UInt8) : (hexL l).length = 2 * l.length := by
  induction l with
  | nil => rfl
  | cons a r ih => simp [hexL, ih]; omega
theorem take_snoc (s : ByteArray) (k : Nat) (h : k < s.size) : s.data.toList.take (k + 1) = s.data.toList.take k ++ [s[k]] := by
  rw [List.take_succ_eq_append_getElem (by simpa using h)]; rfl
theorem hexL_next (s : ByteArray) (k : Nat) (h : k < s.size) {c : Nat} (hc : (s[k]).toNat = c) : hexL (s.data.toList.take (k + 1)) = hexL (s.data.toList.take k) ++ [figB (c / 16), figB (c % 16)] := by
  rw [take_snoc s k h, hexL_snoc, hc]
theorem take_all (s : ByteArray) (k : Nat) (h : s.size ≤ k) : s.data.toList.take k = s.data.toList := List.take_of_length_le (by simpa using h)
theorem figB_lo (x : Nat) (h : x < 10) : ((figB x).toNat : Int) = 48 + (x : Int) := by simp [figB, h, UInt8.toNat_ofNat']; omega
theorem figB_hi (x : Nat) (h : ¬ x < 10) (h1 : x < 16) : ((figB x).toNat : Int) = 87 + (x : Int) := by simp [figB, h, UInt8.toNat_ofNat']; omega

/-- Blocks that v does not own stay as they were, and v' does not own them either. -/
def Keeps (w w' : World) (v v' : Value) : Prop := ∀ B, B < w.heap.size → v.ownBlock ≠ some B → v'.ownBlock ≠ some B ∧ w'.heap[B]? = w.heap[B]?

theorem step_append_keeps {P : Program} (w0 w : World) {ops : Array Oper} {o : Oper} {a : Act} {K : Act → World → Prop} {Q : Exit → Act → World → Prop} {E : Prop} (hgd : o.guard = none) (s x : Operand) (t : TypeId)
    (ho : o.op = .call { callee := .builtin .append, args := #[s, x], argTypes := #[t, t] }) (base : Nat) (e : TypeId) (ht : P.underlying t = some (.slice e))
    (hi : (P.info? e).map (fun i => (i.zero, i.size, i.bytes)) = some (some (.int .u8 0), 1, 1)) (v : Value) (pre : List UInt8) (hs : a.eval s = v) (hown : Owns w base e v pre)
    (hb : Below base w0 w) (hbase : base ≤ w.heap.size) (b1 b2 : UInt8) (hx : a.eval x = .slice (some ⟨w.heap.size, 0, none⟩) 2 2) (hl : pre.length + 2 ≤ 1000000000000)
    (h : ∀ v' w', Owns w' base e v' (pre ++ [b1, b2]) → Below base w0 w' → Keeps w w' v v' → K (a.put o.dst v') w') :
    if Region.wanted o (yielded ops a.tmps) = true then Oper.wp P o a (w.alloc (.cells #[.int .u8 (b1.toNat : Int), .int .u8 (b2.toNat : Int)] e)).drew K Q else E := by
  obtain ⟨i0, hi, hz0, hz1, hz2⟩ := info_parts hi
  have hown2 : (w.alloc (.cells #[.int .u8 (b1.toNat : Int), .int .u8 (b2.toNat : Int)] e)).drew.ownsRow base e 1 v pre.length (bc pre) := (hown.alloc _).drew
  refine step_append_lies _ hgd s x t ho base e i0 (.int .u8 0) 1 1 ht hi hz0 hz1 hz2 rfl (by decide) v pre.length (bc pre) hs hown2 ⟨w.heap.size, 0, none⟩ 2 2 (bc [b1, b2]) hx rfl ?_ ?_ (by decide) ?_ ?_ (by simp; omega) (w.heap.size + 1) (by simp) ?_
  · intro j u hj
    match j, hj with
    | 0, hj => simp [bc] at hj; subst hj; simp [Addr.add]
    | 1, hj => simp [bc] at hj; subst hj; simp [Addr.add]
    | j + 2, hj => simp [bc] at hj
  · intro u hu
    simp only [bc, List.mem_map] at hu
    obtain ⟨b, _, rfl⟩ := hu
    rfl
  · unfold maxLen; omega
  · omega
  · intro g' cap w' hown' hgrow hat _
    refine h _ w' ?_ ((hb.alloc hbase _).drew.grown hgrow (by simp; omega) fun k hk => (hown2.lt k hk).1) ?_
    · unfold Owns
      rw [bc_append, List.length_append]
      exact hown'
    · intro B hB hne
      constructor
      · intro hc
        simp only [Value.ownBlock, Option.some.injEq] at hc
        subst hc
        rcases hat with hat | hat
        · exact hne hat
        · omega
      · rw [hgrow.block B (by simp; omega) (fun e => hne e.symm)]
        exact Below.heap_alloc _ _ _ hB

theorem Owns.grown_none {w w' : World} {base : Nat} {e : TypeId} {v : Value} {l : List UInt8} (h : Owns w base e v l) (hg : w.grownBy w' none) (hv : v.ownBlock ≠ none) : Owns w' base e v l :=
  World.ownsRow.kept h hg (.inr hv)

/-- The bytes of s lie in block B. -/
def Lies (w : World) (B : Nat) (s : ByteArray) : Prop := ∃ cur e fr, w.heap[B]? = some (.cells cur e fr) ∧ ∀ (k : Nat) (h : k < s.size), cur[k]? = some (.int .u8 (s[k].toNat : Int))
theorem Lies.cell {w : World} {B : Nat} {s : ByteArray} (h : Lies w B s) (k : Nat) (hk : k < s.size) : w.cell? ⟨B, k, none⟩ = some (.int .u8 (s[k].toNat : Int)) := by
  obtain ⟨cur, e, fr, h1, h2⟩ := h
  rw [cell_of_row w B k cur e fr h1, h2 k hk]
theorem Lies.of_heap {w w' : World} {B : Nat} {s : ByteArray} (h : Lies w B s) (he : w'.heap[B]? = w.heap[B]?) : Lies w' B s := by
  obtain ⟨cur, e, fr, h1, h2⟩ := h
  exact ⟨cur, e, fr, by rw [he, h1], h2⟩
theorem Lies.lt {w : World} {B : Nat} {s : ByteArray} (h : Lies w B s) : B < w.heap.size := by
  obtain ⟨cur, e, fr, h1, _⟩ := h
  exact (Array.getElem?_eq_some_iff.1 h1).1
theorem lies_new (w : World) (s : ByteArray) (n : Nat) (e : TypeId) (fr : Nat × Nat) : Lies (w.alloc (.cells (bytesRow s n) e fr)) w.heap.size s := by
  refine ⟨bytesRow s n, e, fr, ?_, ?_⟩
  · show (w.heap.push _)[w.heap.size]? = _
    simp
  · intro k hk
    have e1 : s.data[k]? = some s[k] := Array.getElem?_eq_getElem (show k < s.data.size from hk)
    simp only [bytesRow, Array.getElem?_append, Array.size_map]
    rw [if_pos (show k < s.data.size from hk), Array.getElem?_map, e1]
    rfl
/-- 'out = append(out, b)' of one byte that was just laid in a block of its own, with what becomes of other blocks. -/
theorem wpList_append_one {P : Program} (w0 w : World) {ops : Array Oper} {rest : List Oper} {o : Oper} {a : Act} {Q : Exit → Act → World → Prop} (hgd : o.guard = none) (s x : Operand) (t : TypeId)
    (ho : o.op = .call { callee := .builtin .append, args := #[s, x], argTypes := #[t, t] }) (base : Nat) (e : TypeId) (ht : P.underlying t = some (.slice e))
    (hi : (P.info? e).map (fun i => (i.zero, i.size, i.bytes)) = some (some (.int .u8 0), 1, 1)) (v : Value) (pre : List UInt8) (hs : a.eval s = v) (hown : Owns w base e v pre)
    (hb : Below base w0 w) (hbase : base ≤ w.heap.size) (hx : a.eval x = .slice (some ⟨w.heap.size, 0, none⟩) 1 1) (b : UInt8) (z : Int) (hz : z = (b.toNat : Int)) (hl : pre.length ≤ 1000000000000)
    (h : ∀ v' w', Owns w' base e v' (pre ++ [b]) → Below base w0 w' → Keeps w w' v v' → wpList P ops Q rest (a.put o.dst v') w') : wpList P ops Q (o :: rest) a (w.alloc (.cells #[.int .u8 z] e)) := by
  obtain ⟨i0, hi, hz0, hz1, hz2⟩ := info_parts hi
  have hown2 : (w.alloc (.cells #[.int .u8 z] e)).ownsRow base e 1 v pre.length (bc pre) := hown.alloc _
  refine wpList_append_lies _ hgd s x t ho base e i0 (.int .u8 0) 1 1 ht hi hz0 hz1 hz2 rfl (by decide) v pre.length (bc pre) hs hown2 ⟨w.heap.size, 0, none⟩ 1 1 [.int .u8 z] hx rfl ?_ ?_ (by decide) ?_ ?_ (by simp; omega) (w.heap.size + 1) (by simp) ?_
  · intro j u hj
    match j, hj with
    | 0, hj => simp at hj; subst hj; simp [Addr.add]
  · intro u hu; simp at hu; subst hu; rfl
  · unfold maxLen; omega
  · omega
  · intro g' cap w' hown' hgrow hat _
    refine h _ w' ?_ ((hb.alloc hbase _).grown hgrow (by simp; omega) fun k hk => (hown2.lt k hk).1) ?_
    · unfold Owns
      rw [bc_append, bc_one, ← hz, List.length_append]
      exact hown'
    · intro B hB hne
      constructor
      · intro hc
        simp only [Value.ownBlock, Option.some.injEq] at hc
        subst hc
        rcases hat with hat | hat
        · exact hne hat
        · omega
      · rw [hgrow.block B (by simp; omega) (fun e => hne e.symm)]
        exact Below.heap_alloc _ _ _ hB
theorem of_drew {w w1 : World} (h : Below w.drew.heap.size w.drew w1) : Below w.heap.size w w1 := (Below.refl _ w).drew.trans h
theorem ret_of {v v' : Value} (h : v' = v) : Ending.returned v = .returned v' := by rw [h]
end Go.Proofs.YthfiaihbpnlbjaaDoor.Kit
