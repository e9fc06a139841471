/- Texts of the proof, bundled: Kit, KitB, Com, KSl, KAt, IIn, IRec, IEq, BIn, BBit, BRow, BFl, BEq, Dk, BNew, BTo, INew, ITo, KMarks, KEq, KTo, Sz, SzD, Ts, Opn, Gn, Mk, Dd, Om, Ga. -/
import Derived.WalkKit
import Derived.WalkSpells
import Derived.WalkLawsBesides
import Derived.Laws.IdiomStrings
import Derived.Deep.AppendLies
import Derived.Test.YtmjhgfkplolelaaGreatRows
import Derived.Handy
import Derived.Deep.QuietTactic
import Derived.BigQuiet
import Derived.Deep.OwnRows
import Derived.Deep.RegionHeld3
import Derived.ProofKit
import Derived.OpenShut
import Derived.ShutString
import Derived.ChangeOld
import Derived.Below
import Derived.Lib.SmallJoins
import Derived.Deep.SlicePairs
import Derived.Deep.Grids
import Derived.Deep.Upon
/- Plain facts for the walks of one seat, no Go function spoken of: byte slices that a call owns, bytes of numbers in base 128, figures, what a text's bytes in a block are. -/
namespace Go.Proofs.YtmjhgfkplolelaaGreat.Kit
open Go.RowKit

/-- Put a fact out of the walk's sight. -/
theorem hide {p : Prop} (h : p) : Hid p := h

/-- A byte as a cell. -/
def bc (l : List UInt8) : List Value := l.map fun b => Value.int .u8 (b.toNat : Int)

theorem bc_append (a b : List UInt8) : bc (a ++ b) = bc a ++ bc b := by simp [bc]
theorem bc_length (a : List UInt8) : (bc a).length = a.length := by simp [bc]
theorem bc_one (b : UInt8) : bc [b] = [Value.int .u8 (b.toNat : Int)] := rfl

/-- The slice value v owns the bytes l (element type e), in blocks from 'base' on. -/
def Owns (w : World) (base : Nat) (e : TypeId) (v : Value) (l : List UInt8) : Prop := w.ownsRow base e 1 v l.length (bc l)

theorem Owns.alloc {w : World} {base : Nat} {e : TypeId} {v : Value} {l : List UInt8} (h : Owns w base e v l) (o : Obj) : Owns (w.alloc o) base e v l := World.ownsRow.alloc h o
theorem Owns.drew {w : World} {base : Nat} {e : TypeId} {v : Value} {l : List UInt8} (h : Owns w base e v l) : Owns w.drew base e v l := World.ownsRow.drew h
theorem Owns.nil (w : World) (base : Nat) (e : TypeId) : Owns w base e (.slice none 0 0) [] := World.ownsRow_nil _ _ _ _
theorem Owns.lit0 (w : World) (base : Nat) (e : TypeId) (hb : base ≤ w.heap.size) : Owns (w.alloc (.cells #[] e)) base e (.slice (some ⟨w.heap.size, 0, none⟩) 0 0) [] :=
  World.ownsRow_lit w #[] 0 hb (Nat.zero_le _) rfl

/-- 'string(b)' of a slice that owns the bytes l. -/
theorem conv_own {P : Program} {w : World} {base : Nat} {v : Value} {l : List UInt8} (src dst e : TypeId) (hs : P.underlying src = some (.slice e)) (he : P.underlying e = some (.int .u8)) (hd : P.underlying dst = some .string)
    (hown : Owns w base e v l) : (convert src dst v).run P w = .ok (.string ⟨l.toArray⟩) w := by
  unfold Owns at hown
  rcases hown.2 with ⟨rfl, h0⟩ | ⟨g, cap, cur, rfl, _, hg, hnc, hcm, hcs, htake⟩
  · have : l = [] := List.length_eq_zero_iff.1 h0
    subst this
    rw [run_convert_bytes_string w src dst e none 0 0 hs he hd]
    simp [Conv.bytesToString]
    rfl
  · refine run_convert_bytes_back w src dst e ⟨g, 0, none⟩ cap l hs he hd ?_
    intro j hj
    have hc : w.cell? ⟨g, j, none⟩ = (bc l)[j]? := hown.cellAt j (by omega)
    have ha : (⟨g, 0, none⟩ : Addr).add j = ⟨g, j, none⟩ := by cases j <;> simp [Addr.add]
    rw [ha, hc]
    simp [bc, hj]

/-- 'out = append(out, b)' of one byte, out a slice that the call owns: what it owns behind it, and that nothing below 'base' has turned. -/
theorem wpList_append_byte {P : Program} {w : World} {ops : Array Oper} {rest : List Oper} {o : Oper} {a : Act} {Q : Exit → Act → World → Prop} (w0 : World) (hgd : o.guard = none) (s x : Operand) (t : TypeId)
    (ho : o.op = .call { callee := .builtin .append, args := #[s, x], argTypes := #[t, t] }) (base : Nat) (e : TypeId) (ht : P.underlying t = some (.slice e))
    (hi : (P.info? e).map (fun i => (i.zero, i.size, i.bytes)) = some (some (.int .u8 0), 1, 1)) (v : Value) (pre : List UInt8) (hs : a.eval s = v) (hown : Owns w base e v pre)
    (hb : Below base w0 w) (hbase : base ≤ w.heap.size) (g : Nat) (hx : a.eval x = .slice (some ⟨g, 0, none⟩) 1 1) (b : UInt8) (z : Int) (hz : z = (b.toNat : Int)) (hc : w.cell? ⟨g, 0, none⟩ = some (.int .u8 z)) (hl : pre.length ≤ 1000000000000)
    (h : ∀ v' w', Owns w' base e v' (pre ++ [b]) → Below base w0 w' → w.grownBy w' v.ownBlock → wpList P ops Q rest (a.put o.dst v') w') : wpList P ops Q (o :: rest) a w := by
  obtain ⟨i0, hi, hz0, hz1, hz2⟩ := info_parts hi
  unfold Owns at hown
  refine wpList_append_own w hgd s x t ho base e i0 (.int .u8 0) 1 1 ht hi hz0 hz1 hz2 rfl (by decide) v pre.length (bc pre) hs hown ⟨g, 0, none⟩ 1 1 [.int .u8 z] hx rfl ?_ ?_ ?_ ?_ hbase ?_
  · intro j u hj
    match j, hj with
    | 0, hj => simp at hj; subst hj; simpa [Addr.add] using hc
  · intro u hu; simp at hu; subst hu; rfl
  · unfold maxLen; omega
  · omega
  · intro v' w' hown' hgrow _
    refine h v' w' ?_ (hb.grown hgrow hbase fun k hk => (hown.lt k hk).1) hgrow
    unfold Owns
    rw [bc_append, bc_one, ← hz]
    simpa using hown'

/-- The byte that goes on: the lowest seven bits, and 128. -/
def hiB (m : Nat) : UInt8 := UInt8.ofNat (m % 128 + 128)
/-- The last byte. -/
def loB (m : Nat) : UInt8 := UInt8.ofNat m

/-- The bytes of a number, with fuel. -/
def vbF : Nat → Nat → List UInt8
  | 0, n => [loB n]
  | f + 1, n => if 127 < n then hiB n :: vbF f (n / 128) else [loB n]

/-- The bytes of a number (below 2^63). -/
def vb (n : Nat) : List UInt8 := vbF 9 n

theorem vbF_big (f n : Nat) (h : 127 < n) : vbF (f + 1) n = hiB n :: vbF f (n / 128) := by simp [vbF, h]
theorem vbF_small (f n : Nat) (h : n ≤ 127) : vbF f n = [loB n] := by
  cases f with
  | zero => rfl
  | succ f => simp [vbF]; omega
theorem vbF_len (f n : Nat) : (vbF f n).length ≤ f + 1 := by
  induction f generalizing n with
  | zero => simp [vbF]
  | succ f ih => 
    unfold vbF
    split
    · have := ih (n / 128); simp; omega
    · simp

/-- 'append(out, b, ..)' of some bytes at a step of a region that draws its order. -/
theorem step_append_bytes {P : Program} {w : World} {ops : Array Oper} {o : Oper} {a : Act} {K : Act → World → Prop} {Q : Exit → Act → World → Prop} {E : Prop} (w0 : World) (hgd : o.guard = none) (s x : Operand) (t : TypeId)
    (ho : o.op = .call { callee := .builtin .append, args := #[s, x], argTypes := #[t, t] }) (base : Nat) (e : TypeId) (ht : P.underlying t = some (.slice e))
    (hi : (P.info? e).map (fun i => (i.zero, i.size, i.bytes)) = some (some (.int .u8 0), 1, 1)) (v : Value) (pre : List UInt8) (hs : a.eval s = v) (hown : Owns w base e v pre)
    (hb : Below base w0 w) (hbase : base ≤ w.heap.size) (g m : Nat) (hx : a.eval x = .slice (some ⟨g, 0, none⟩) m m) (nb : List UInt8) (hm : nb.length = m) (h0 : 0 < m)
    (hc : ∀ (j : Nat) (b : UInt8), nb[j]? = some b → w.cell? ⟨g, j, none⟩ = some (.int .u8 (b.toNat : Int))) (hl : pre.length + m ≤ 1000000000000)
    (h : ∀ v' w', Owns w' base e v' (pre ++ nb) → Below base w0 w' → w.grownBy w' v.ownBlock → K (a.put o.dst v') w') :
    if Region.wanted o (yielded ops a.tmps) = true then Oper.wp P o a w K Q else E := by
  obtain ⟨i0, hi, hz0, hz1, hz2⟩ := info_parts hi
  unfold Owns at hown
  refine step_append_lies w hgd s x t ho base e i0 (.int .u8 0) 1 1 ht hi hz0 hz1 hz2 rfl (by decide) v pre.length (bc pre) hs hown ⟨g, 0, none⟩ m m (bc nb) hx ?_ ?_ ?_ h0 ?_ ?_ hbase w.heap.size rfl ?_
  · rw [bc_length, hm]; omega
  · intro j u hj
    have ha : (⟨g, 0, none⟩ : Addr).add j = ⟨g, j, none⟩ := by cases j <;> simp [Addr.add]
    simp only [bc, List.getElem?_map, Option.map_eq_some_iff] at hj
    obtain ⟨b, hb1, rfl⟩ := hj
    rw [ha]
    exact hc j b hb1
  · intro u hu
    simp only [bc, List.mem_map] at hu
    obtain ⟨b, _, rfl⟩ := hu
    rfl
  · unfold maxLen; omega
  · omega
  · intro g' cap w' hown' hgrow _ _
    refine h _ w' ?_ (hb.grown hgrow hbase fun k hk => (hown.lt k hk).1) hgrow
    unfold Owns
    rw [bc_append, List.length_append, hm]
    exact hown'

/-- The same at two bytes that were just laid in a block of their own. -/
theorem step_append_two {P : Program} (w0 w : World) {ops : Array Oper} {o : Oper} {a : Act} {K : Act → World → Prop} {Q : Exit → Act → World → Prop} {E : Prop} (hgd : o.guard = none) (s x : Operand) (t : TypeId)
    (ho : o.op = .call { callee := .builtin .append, args := #[s, x], argTypes := #[t, t] }) (base : Nat) (e : TypeId) (ht : P.underlying t = some (.slice e))
    (hi : (P.info? e).map (fun i => (i.zero, i.size, i.bytes)) = some (some (.int .u8 0), 1, 1)) (v : Value) (pre : List UInt8) (hs : a.eval s = v) (hown : Owns w base e v pre)
    (hb : Below base w0 w) (hbase : base ≤ w.heap.size) (b1 b2 : UInt8) (hx : a.eval x = .slice (some ⟨w.heap.size, 0, none⟩) 2 2) (hl : pre.length + 2 ≤ 1000000000000)
    (h : ∀ v' w', Owns w' base e v' (pre ++ [b1, b2]) → Below base w0 w' → K (a.put o.dst v') w') :
    if Region.wanted o (yielded ops a.tmps) = true then Oper.wp P o a (w.alloc (.cells #[.int .u8 (b1.toNat : Int), .int .u8 (b2.toNat : Int)] e)).drew K Q else E := by
  refine step_append_bytes w0 hgd s x t ho base e ht hi v pre hs (hown.alloc _).drew (hb.alloc hbase _).drew (by simp; omega) w.heap.size 2 hx [b1, b2] rfl (by decide) ?_ hl fun v' w' h1 h2 _ => h v' w' h1 h2
  intro j b hj
  match j, hj with
  | 0, hj => simp at hj; subst hj; simp
  | 1, hj => simp at hj; subst hj; simp

theorem wrapId {x : Int} (h0 : 0 ≤ x) (h1 : x ≤ 1000000000000) : IntKind.i64.wrap x = x := by
  simp [IntKind.wrap, IntKind.signed, IntKind.bits]
  omega
/-- A figure. -/
def figB (x : Nat) : UInt8 := UInt8.ofNat (if x < 10 then 48 + x else 87 + x)
/-- The figures of bytes. -/
def hexL : List UInt8 → List UInt8
  | [] => []
  | c :: r => figB (c.toNat / 16) :: figB (c.toNat % 16) :: hexL r
theorem hexL_snoc (l : List UInt8) (c : UInt8) : hexL (l ++ [c]) = hexL l ++ [figB (c.toNat / 16), figB (c.toNat % 16)] := by
  induction l with
  | nil => rfl
  | cons a r ih => simp [hexL, ih]
theorem hexL_length (l : List UInt8) : (hexL l).length = 2 * l.length := by
  induction l with
  | nil => rfl
  | cons a r ih => simp [hexL, ih]; omega
theorem take_snoc (s : ByteArray) (k : Nat) (h : k < s.size) : s.data.toList.take (k + 1) = s.data.toList.take k ++ [s[k]] := by
  rw [List.take_succ_eq_append_getElem (by simpa using h)]; rfl
theorem hexL_next (s : ByteArray) (k : Nat) (h : k < s.size) {c : Nat} (hc : (s[k]).toNat = c) : hexL (s.data.toList.take (k + 1)) = hexL (s.data.toList.take k) ++ [figB (c / 16), figB (c % 16)] := by
  rw [take_snoc s k h, hexL_snoc, hc]
theorem take_all (s : ByteArray) (k : Nat) (h : s.size ≤ k) : s.data.toList.take k = s.data.toList := List.take_of_length_le (by simpa using h)
theorem figB_lo (x : Nat) (h : x < 10) : ((figB x).toNat : Int) = 48 + (x : Int) := by simp [figB, h, UInt8.toNat_ofNat']; omega
theorem figB_hi (x : Nat) (h : ¬ x < 10) (h1 : x < 16) : ((figB x).toNat : Int) = 87 + (x : Int) := by simp [figB, h, UInt8.toNat_ofNat']; omega

/-- Blocks that v does not own stay as they were, and v' does not own them either. -/
def Keeps (w w' : World) (v v' : Value) : Prop := ∀ B, B < w.heap.size → v.ownBlock ≠ some B → v'.ownBlock ≠ some B ∧ w'.heap[B]? = w.heap[B]?

theorem step_append_keeps {P : Program} (w0 w : World) {ops : Array Oper} {o : Oper} {a : Act} {K : Act → World → Prop} {Q : Exit → Act → World → Prop} {E : Prop} (hgd : o.guard = none) (s x : Operand) (t : TypeId)
    (ho : o.op = .call { callee := .builtin .append, args := #[s, x], argTypes := #[t, t] }) (base : Nat) (e : TypeId) (ht : P.underlying t = some (.slice e))
    (hi : (P.info? e).map (fun i => (i.zero, i.size, i.bytes)) = some (some (.int .u8 0), 1, 1)) (v : Value) (pre : List UInt8) (hs : a.eval s = v) (hown : Owns w base e v pre)
    (hb : Below base w0 w) (hbase : base ≤ w.heap.size) (b1 b2 : UInt8) (hx : a.eval x = .slice (some ⟨w.heap.size, 0, none⟩) 2 2) (hl : pre.length + 2 ≤ 1000000000000)
    (h : ∀ v' w', Owns w' base e v' (pre ++ [b1, b2]) → Below base w0 w' → Keeps w w' v v' → K (a.put o.dst v') w') :
    if Region.wanted o (yielded ops a.tmps) = true then Oper.wp P o a (w.alloc (.cells #[.int .u8 (b1.toNat : Int), .int .u8 (b2.toNat : Int)] e)).drew K Q else E := by
  obtain ⟨i0, hi, hz0, hz1, hz2⟩ := info_parts hi
  have hown2 : (w.alloc (.cells #[.int .u8 (b1.toNat : Int), .int .u8 (b2.toNat : Int)] e)).drew.ownsRow base e 1 v pre.length (bc pre) := (hown.alloc _).drew
  refine step_append_lies _ hgd s x t ho base e i0 (.int .u8 0) 1 1 ht hi hz0 hz1 hz2 rfl (by decide) v pre.length (bc pre) hs hown2 ⟨w.heap.size, 0, none⟩ 2 2 (bc [b1, b2]) hx rfl ?_ ?_ (by decide) ?_ ?_ (by simp; omega) (w.heap.size + 1) (by simp) ?_
  · intro j u hj
    match j, hj with
    | 0, hj => simp [bc] at hj; subst hj; simp [Addr.add]
    | 1, hj => simp [bc] at hj; subst hj; simp [Addr.add]
    | j + 2, hj => simp [bc] at hj
  · intro u hu
    simp only [bc, List.mem_map] at hu
    obtain ⟨b, _, rfl⟩ := hu
    rfl
  · unfold maxLen; omega
  · omega
  · intro g' cap w' hown' hgrow hat _
    refine h _ w' ?_ ((hb.alloc hbase _).drew.grown hgrow (by simp; omega) fun k hk => (hown2.lt k hk).1) ?_
    · unfold Owns
      rw [bc_append, List.length_append]
      exact hown'
    · intro B hB hne
      constructor
      · intro hc
        simp only [Value.ownBlock, Option.some.injEq] at hc
        subst hc
        rcases hat with hat | hat
        · exact hne hat
        · omega
      · rw [hgrow.block B (by simp; omega) (fun e => hne e.symm)]
        exact Below.heap_alloc _ _ _ hB

theorem Owns.grown_none {w w' : World} {base : Nat} {e : TypeId} {v : Value} {l : List UInt8} (h : Owns w base e v l) (hg : w.grownBy w' none) (hv : v.ownBlock ≠ none) : Owns w' base e v l :=
  World.ownsRow.kept h hg (.inr hv)

/-- The bytes of s lie in block B. -/
def Lies (w : World) (B : Nat) (s : ByteArray) : Prop := ∃ cur e fr, w.heap[B]? = some (.cells cur e fr) ∧ ∀ (k : Nat) (h : k < s.size), cur[k]? = some (.int .u8 (s[k].toNat : Int))
theorem Lies.cell {w : World} {B : Nat} {s : ByteArray} (h : Lies w B s) (k : Nat) (hk : k < s.size) : w.cell? ⟨B, k, none⟩ = some (.int .u8 (s[k].toNat : Int)) := by
  obtain ⟨cur, e, fr, h1, h2⟩ := h
  rw [cell_of_row w B k cur e fr h1, h2 k hk]
theorem Lies.of_heap {w w' : World} {B : Nat} {s : ByteArray} (h : Lies w B s) (he : w'.heap[B]? = w.heap[B]?) : Lies w' B s := by
  obtain ⟨cur, e, fr, h1, h2⟩ := h
  exact ⟨cur, e, fr, by rw [he, h1], h2⟩
theorem Lies.lt {w : World} {B : Nat} {s : ByteArray} (h : Lies w B s) : B < w.heap.size := by
  obtain ⟨cur, e, fr, h1, _⟩ := h
  exact (Array.getElem?_eq_some_iff.1 h1).1
theorem lies_new (w : World) (s : ByteArray) (n : Nat) (e : TypeId) (fr : Nat × Nat) : Lies (w.alloc (.cells (bytesRow s n) e fr)) w.heap.size s := by
  refine ⟨bytesRow s n, e, fr, ?_, ?_⟩
  · show (w.heap.push _)[w.heap.size]? = _
    simp
  · intro k hk
    have e1 : s.data[k]? = some s[k] := Array.getElem?_eq_getElem (show k < s.data.size from hk)
    simp only [bytesRow, Array.getElem?_append, Array.size_map]
    rw [if_pos (show k < s.data.size from hk), Array.getElem?_map, e1]
    rfl
/-- 'out = append(out, b)' of one byte that was just laid in a block of its own, with what becomes of other blocks. -/
theorem wpList_append_one {P : Program} (w0 w : World) {ops : Array Oper} {rest : List Oper} {o : Oper} {a : Act} {Q : Exit → Act → World → Prop} (hgd : o.guard = none) (s x : Operand) (t : TypeId)
    (ho : o.op = .call { callee := .builtin .append, args := #[s, x], argTypes := #[t, t] }) (base : Nat) (e : TypeId) (ht : P.underlying t = some (.slice e))
    (hi : (P.info? e).map (fun i => (i.zero, i.size, i.bytes)) = some (some (.int .u8 0), 1, 1)) (v : Value) (pre : List UInt8) (hs : a.eval s = v) (hown : Owns w base e v pre)
    (hb : Below base w0 w) (hbase : base ≤ w.heap.size) (hx : a.eval x = .slice (some ⟨w.heap.size, 0, none⟩) 1 1) (b : UInt8) (z : Int) (hz : z = (b.toNat : Int)) (hl : pre.length ≤ 1000000000000)
    (h : ∀ v' w', Owns w' base e v' (pre ++ [b]) → Below base w0 w' → Keeps w w' v v' → wpList P ops Q rest (a.put o.dst v') w') : wpList P ops Q (o :: rest) a (w.alloc (.cells #[.int .u8 z] e)) := by
  obtain ⟨i0, hi, hz0, hz1, hz2⟩ := info_parts hi
  have hown2 : (w.alloc (.cells #[.int .u8 z] e)).ownsRow base e 1 v pre.length (bc pre) := hown.alloc _
  refine wpList_append_lies _ hgd s x t ho base e i0 (.int .u8 0) 1 1 ht hi hz0 hz1 hz2 rfl (by decide) v pre.length (bc pre) hs hown2 ⟨w.heap.size, 0, none⟩ 1 1 [.int .u8 z] hx rfl ?_ ?_ (by decide) ?_ ?_ (by simp; omega) (w.heap.size + 1) (by simp) ?_
  · intro j u hj
    match j, hj with
    | 0, hj => simp at hj; subst hj; simp [Addr.add]
  · intro u hu; simp at hu; subst hu; rfl
  · unfold maxLen; omega
  · omega
  · intro g' cap w' hown' hgrow hat _
    refine h _ w' ?_ ((hb.alloc hbase _).grown hgrow (by simp; omega) fun k hk => (hown2.lt k hk).1) ?_
    · unfold Owns
      rw [bc_append, bc_one, ← hz, List.length_append]
      exact hown'
    · intro B hB hne
      constructor
      · intro hc
        simp only [Value.ownBlock, Option.some.injEq] at hc
        subst hc
        rcases hat with hat | hat
        · exact hne hat
        · omega
      · rw [hgrow.block B (by simp; omega) (fun e => hne e.symm)]
        exact Below.heap_alloc _ _ _ hB
theorem of_drew {w w1 : World} (h : Below w.drew.heap.size w.drew w1) : Below w.heap.size w w1 := (Below.refl _ w).drew.trans h
theorem ret_of {v v' : Value} (h : v' = v) : Ending.returned v = .returned v' := by rw [h]
end Go.Proofs.YtmjhgfkplolelaaGreat.Kit
/- Plain facts for the walks of one seat, no Go function spoken of: slices of one-cell elements that a call owns or reads. -/
namespace Go.Proofs.YtmjhgfkplolelaaGreat.Kit
open Go.RowKit

/-- The slice value v owns the cells xs (element type e), in blocks from 'base' on. -/
def ROwns (w : World) (base : Nat) (e : TypeId) (v : Value) (xs : List Value) : Prop := w.ownsRow base e 1 v xs.length xs

theorem ROwns.alloc {w : World} {base : Nat} {e : TypeId} {v : Value} {l : List Value} (h : ROwns w base e v l) (o : Obj) : ROwns (w.alloc o) base e v l := World.ownsRow.alloc h o
theorem ROwns.drew {w : World} {base : Nat} {e : TypeId} {v : Value} {l : List Value} (h : ROwns w base e v l) : ROwns w.drew base e v l := World.ownsRow.drew h
theorem ROwns.nil (w : World) (base : Nat) (e : TypeId) : ROwns w base e (.slice none 0 0) [] := World.ownsRow_nil _ _ _ _
theorem ROwns.lit0 (w : World) (base : Nat) (e : TypeId) (hb : base ≤ w.heap.size) : ROwns (w.alloc (.cells #[] e)) base e (.slice (some ⟨w.heap.size, 0, none⟩) 0 0) [] :=
  World.ownsRow_lit w #[] 0 hb (Nat.zero_le _) rfl
theorem ROwns.lit (w : World) (base : Nat) (e : TypeId) (cs : Array Value) (hb : base ≤ w.heap.size) (hm : cs.size ≤ maxLen) : ROwns (w.alloc (.cells cs e)) base e (.slice (some ⟨w.heap.size, 0, none⟩) cs.size cs.size) cs.toList := by
  have := World.ownsRow_lit (base := base) (e := e) (size := 1) w cs cs.size hb hm (by omega)
  unfold ROwns
  rwa [Array.length_toList]
theorem ROwns.lt {w : World} {base : Nat} {e : TypeId} {v : Value} {l : List Value} (h : ROwns w base e v l) : ∀ k, v.ownBlock = some k → base ≤ k ∧ k < w.heap.size := World.ownsRow.lt h
theorem ROwns.base_le {w : World} {base base' : Nat} {e : TypeId} {v : Value} {l : List Value} (h : ROwns w base e v l) (hb : base' ≤ base) : ROwns w base' e v l := by
  refine ⟨h.1, ?_⟩
  rcases h.2 with h1 | ⟨g, cap, cur, h1, h2, h3⟩
  · exact .inl h1
  · exact .inr ⟨g, cap, cur, h1, by omega, h3⟩
theorem ROwns.form {w : World} {base : Nat} {e : TypeId} {v : Value} {l : List Value} (h : ROwns w base e v l) : ∃ a cap, v = .slice a l.length cap ∧ (a = none → l = []) := by
  rcases h.2 with ⟨rfl, h0⟩ | ⟨g, cap, cur, rfl, _⟩
  · exact ⟨none, 0, by rw [h0], fun _ => List.length_eq_zero_iff.1 h0⟩
  · exact ⟨_, _, rfl, fun h => by cases h⟩
/-- What is owned stays owned where its own block stays as it was. -/
theorem ROwns.of_heap {w w' : World} {base : Nat} {e : TypeId} {v : Value} {l : List Value} (h : ROwns w base e v l) (hh : ∀ k, v.ownBlock = some k → w'.heap[k]? = w.heap[k]?) : ROwns w' base e v l := by
  refine ⟨h.1, ?_⟩
  rcases h.2 with h1 | ⟨g, cap, cur, h1, h2, h3, h4⟩
  · exact .inl h1
  · exact .inr ⟨g, cap, cur, h1, h2, by rw [hh g (by rw [h1]; rfl), h3], h4⟩
theorem ROwns.below {w w' : World} {base B : Nat} {e : TypeId} {v : Value} {l : List Value} (h : ROwns w base e v l) (hb : Below B w w') (hB : w.heap.size ≤ B) : ROwns w' base e v l :=
  h.of_heap fun k hk => hb.block k (by have := (h.lt k hk).2; omega)
theorem ROwns.grown {w w' : World} {base : Nat} {e : TypeId} {v : Value} {l : List Value} {row : Option Nat} (h : ROwns w base e v l) (hg : w.grownBy w' row) (hn : ∀ k, v.ownBlock = some k → row ≠ some k) : ROwns w' base e v l :=
  h.of_heap fun k hk => hg.block k (h.lt k hk).2 (fun e => hn k hk e.symm)
theorem grownBy_below {w w' : World} (h : Below w.heap.size w w') (row : Option Nat) : w.grownBy w' row := ⟨h.os, h.tape, h.output, h.size, fun k hk _ => h.block k hk⟩
theorem grownBy_trans {a b c : World} {row : Option Nat} (h : a.grownBy b row) (k : b.grownBy c row) : a.grownBy c row :=
  ⟨k.os.trans h.os, k.tape.trans h.tape, k.output.trans h.output, Nat.le_trans h.size k.size, fun i hi hr => (k.block i (by have := h.size; omega) hr).trans (h.block i hi hr)⟩

/-- 'out = append(out, u)' of one cell that was just laid in a block of its own. -/
theorem wpList_append_cell {P : Program} (w0 w : World) {ops : Array Oper} {rest : List Oper} {o : Oper} {a : Act} {Q : Exit → Act → World → Prop} (hgd : o.guard = none) (s x : Operand) (t : TypeId)
    (ho : o.op = .call { callee := .builtin .append, args := #[s, x], argTypes := #[t, t] }) (base : Nat) (e : TypeId) (ht : P.underlying t = some (.slice e)) (z : Value) (bytes : Nat)
    (hi : (P.info? e).map (fun i => (i.zero, i.size, i.bytes)) = some (some z, 1, bytes)) (hzc : z.cells.size = 1) (hby : bytes ≤ 64) (v : Value) (xs : List Value) (hs : a.eval s = v) (hown : ROwns w base e v xs)
    (hb : Below base w0 w) (hbase : base ≤ w.heap.size) (u : Value) (hu : u.oneCell' = true) (hx : a.eval x = .slice (some ⟨w.heap.size, 0, none⟩) 1 1) (hl : xs.length ≤ 1000000000000)
    (h : ∀ v' w', ROwns w' base e v' (xs ++ [u]) → Below base w0 w' → Keeps w w' v v' → wpList P ops Q rest (a.put o.dst v') w') : wpList P ops Q (o :: rest) a (w.alloc (.cells #[u] e)) := by
  obtain ⟨i0, hi, hz0, hz1, hz2⟩ := info_parts hi
  have hown2 : (w.alloc (.cells #[u] e)).ownsRow base e 1 v xs.length xs := hown.alloc _
  refine wpList_append_lies _ hgd s x t ho base e i0 z 1 bytes ht hi hz0 hz1 hz2 hzc (by decide) v xs.length xs hs hown2 ⟨w.heap.size, 0, none⟩ 1 1 [u] hx rfl ?_ ?_ (by decide) ?_ ?_ (by simp; omega) (w.heap.size + 1) (by simp) ?_
  · intro j y hj
    match j, hj with
    | 0, hj => simp at hj; subst hj; simp [Addr.add]
  · intro y hy; simp at hy; subst hy; exact hu
  · unfold maxLen; omega
  · have : (xs.length + 1) * bytes ≤ 1000000000001 * 64 := Nat.mul_le_mul (by omega) hby
    omega
  · intro g' cap w' hown' hgrow hat _
    refine h _ w' ?_ ((hb.alloc hbase _).grown hgrow (by simp; omega) fun k hk => (hown2.lt k hk).1) ?_
    · unfold ROwns
      rw [List.length_append]
      exact hown'
    · intro B hB hne
      constructor
      · intro hc
        simp only [Value.ownBlock, Option.some.injEq] at hc
        subst hc
        rcases hat with hat | hat
        · exact hne hat
        · omega
      · rw [hgrow.block B (by simp; omega) (fun e => hne e.symm)]
        exact Below.heap_alloc _ _ _ hB

/-- Where the cells of what is owned lie. -/
theorem ROwns.at {w : World} {base : Nat} {e : TypeId} {v : Value} {l : List Value} (h : ROwns w base e v l) (k : Nat) (hk : k < l.length) :
    ∃ g cap, v = .slice (some ⟨g, 0, none⟩) l.length cap ∧ w.cell? ⟨g, k, none⟩ = l[k]? ∧ w.frozen? ⟨g, k, none⟩ = false ∧ base ≤ g ∧ g < w.heap.size ∧ l.length ≤ cap := by
  have hlt := h.lt
  rcases h.2 with ⟨h1, h0⟩ | ⟨g, cap, cur, rfl, h2, h3, h4, h5, h6, h7⟩
  · omega
  · have h' : w.ownsRow base e 1 (.slice (some ⟨g, 0, none⟩) l.length cap) l.length l := h
    exact ⟨g, cap, rfl, h'.cellAt k (by omega), h'.frozenAt k, h2, (hlt g rfl).2, h4⟩
theorem ROwns.stored {w : World} {base g cap : Nat} {e : TypeId} {l : List Value} (h : ROwns w base e (.slice (some ⟨g, 0, none⟩) l.length cap) l) (k : Nat) (u : Value) :
    ROwns (w.setCell ⟨g, k, none⟩ u) base e (.slice (some ⟨g, 0, none⟩) l.length cap) (l.set k u) ∧ w.grownBy (w.setCell ⟨g, k, none⟩ u) (some g) := by
  have := World.ownsRow.stored h k u
  refine ⟨?_, this.2⟩
  unfold ROwns
  rw [List.length_set]
  exact this.1
end Go.Proofs.YtmjhgfkplolelaaGreat.Kit
/- Facts that the families of texts of this seat share. -/
namespace Go.Proofs.YtmjhgfkplolelaaGreat.Kit
open Go.RowKit
theorem ROwns.setCell_other {w : World} {base : Nat} {e : TypeId} {v : Value} {l : List Value} (h : ROwns w base e v l) {b j : Nat} (hp : b < base) (x : Value) : ROwns (w.setCell ⟨b, j, none⟩ x) base e v l :=
  h.of_heap fun k hk => heap_setCell_other w ⟨b, j, none⟩ k x (fun e => by have := (h.lt k hk).1; simp at e; omega)

theorem heap_new (w : World) (o : Obj) : (w.alloc o).heap[w.heap.size]? = some o := by
  show (w.heap.push o)[w.heap.size]? = some o
  simp

end Go.Proofs.YtmjhgfkplolelaaGreat.Kit
namespace Go.Proofs.YtmjhgfkplolelaaGreat
open Go.RowKit Kit
theorem Tryz.u226 : Tryz.prog.underlying 226 = some (.slice 5) := by kernel_rfl

theorem Tryz.i5 : (Tryz.prog.info? 5).map (fun i => (i.zero, i.size, i.bytes)) = some (some (.int .u8 0), 1, 1) := by kernel_rfl

theorem ret_bool {b c : Bool} (h : b = c) : Ending.returned (.bool b) = .returned (.bool c) := by rw [h]

end Go.Proofs.YtmjhgfkplolelaaGreat
/- Slots: how they lie in memory, and the model of what is asked of them. No Go function is spoken of. -/
namespace Go.Proofs.YtmjhgfkplolelaaGreat.Kit
open Go.RowKit
/-- A slot: its name, its number. -/
abbrev Sl := ByteArray × Int
/-- Slots as cells, two each. -/
def sc : List Sl → List Value
  | [] => []
  | s :: r => .string s.1 :: .int .i64 s.2 :: sc r
theorem sc_length (xs : List Sl) : (sc xs).length = xs.length * 2 := by
  induction xs with
  | nil => rfl
  | cons s r ih => simp [sc, ih]; omega
theorem sc_append (a b : List Sl) : sc (a ++ b) = sc a ++ sc b := by
  induction a with
  | nil => rfl
  | cons s r ih => simp [sc, ih]
theorem sc_name (xs : List Sl) (j : Nat) (h : j < xs.length) : (sc xs)[j * 2]? = some (.string xs[j].1) := by
  induction xs generalizing j with
  | nil => simp at h
  | cons s r ih =>
    cases j with
    | zero => rfl
    | succ j =>
      rw [show (j + 1) * 2 = j * 2 + 1 + 1 by omega]
      simp only [sc, List.getElem?_cons_succ, List.getElem_cons_succ]
      exact ih j (by simpa using h)
theorem sc_ino (xs : List Sl) (j : Nat) (h : j < xs.length) : (sc xs)[j * 2 + 1]? = some (.int .i64 xs[j].2) := by
  induction xs generalizing j with
  | nil => simp at h
  | cons s r ih =>
    cases j with
    | zero => rfl
    | succ j =>
      rw [show (j + 1) * 2 + 1 = j * 2 + 1 + 1 + 1 by omega]
      simp only [sc, List.getElem?_cons_succ, List.getElem_cons_succ]
      exact ih j (by simpa using h)
theorem sc_set_name (xs : List Sl) (j : Nat) (t : ByteArray) (h : j < xs.length) : (sc xs).set (j * 2) (.string t) = sc (xs.set j (t, xs[j].2)) := by
  induction xs generalizing j with
  | nil => simp at h
  | cons s r ih =>
    cases j with
    | zero => rfl
    | succ j =>
      rw [show (j + 1) * 2 = j * 2 + 1 + 1 by omega]
      simp only [sc, List.set_cons_succ, List.getElem_cons_succ]
      rw [ih j (by simpa using h)]
theorem sc_set_ino (xs : List Sl) (j : Nat) (z : Int) (h : j < xs.length) : (sc xs).set (j * 2 + 1) (.int .i64 z) = sc (xs.set j (xs[j].1, z)) := by
  induction xs generalizing j with
  | nil => simp at h
  | cons s r ih =>
    cases j with
    | zero => rfl
    | succ j =>
      rw [show (j + 1) * 2 + 1 = j * 2 + 1 + 1 + 1 by omega]
      simp only [sc, List.set_cons_succ, List.getElem_cons_succ]
      rw [ih j (by simpa using h)]
theorem sc_set (xs : List Sl) (j : Nat) (t : ByteArray) (z : Int) (h : j < xs.length) : ((sc xs).set (j * 2) (.string t)).set (j * 2 + 1) (.int .i64 z) = sc (xs.set j (t, z)) := by
  rw [sc_set_name xs j t h, sc_set_ino _ j z (by simpa using h)]
  simp
/-- The slice value v owns the slots xs (element type e), in blocks from 'base' on. -/
def SOwns (w : World) (base : Nat) (e : TypeId) (v : Value) (xs : List Sl) : Prop := w.ownsRow base e 2 v xs.length (sc xs)
theorem SOwns.alloc {w : World} {base : Nat} {e : TypeId} {v : Value} {l : List Sl} (h : SOwns w base e v l) (o : Obj) : SOwns (w.alloc o) base e v l := World.ownsRow.alloc h o
theorem SOwns.drew {w : World} {base : Nat} {e : TypeId} {v : Value} {l : List Sl} (h : SOwns w base e v l) : SOwns w.drew base e v l := World.ownsRow.drew h
theorem SOwns.nil (w : World) (base : Nat) (e : TypeId) : SOwns w base e (.slice none 0 0) [] := World.ownsRow_nil _ _ _ _
theorem SOwns.lit (w : World) (base : Nat) (e : TypeId) (cs : Array Value) (xs : List Sl) (hc : cs.toList = sc xs) (hb : base ≤ w.heap.size) (hm : xs.length ≤ maxLen) : SOwns (w.alloc (.cells cs e)) base e (.slice (some ⟨w.heap.size, 0, none⟩) xs.length xs.length) xs := by
  have h1 : cs.size = xs.length * 2 := by rw [← Array.length_toList, hc, sc_length]
  have := World.ownsRow_lit (base := base) (e := e) (size := 2) w cs xs.length hb hm h1
  unfold SOwns
  rwa [hc] at this
theorem SOwns.lt {w : World} {base : Nat} {e : TypeId} {v : Value} {l : List Sl} (h : SOwns w base e v l) : ∀ k, v.ownBlock = some k → base ≤ k ∧ k < w.heap.size := World.ownsRow.lt h
theorem SOwns.base_le {w : World} {base base' : Nat} {e : TypeId} {v : Value} {l : List Sl} (h : SOwns w base e v l) (hb : base' ≤ base) : SOwns w base' e v l := by
  refine ⟨h.1, ?_⟩
  rcases h.2 with h1 | ⟨g, cap, cur, h1, h2, h3⟩
  · exact .inl h1
  · exact .inr ⟨g, cap, cur, h1, by omega, h3⟩
theorem SOwns.form {w : World} {base : Nat} {e : TypeId} {v : Value} {l : List Sl} (h : SOwns w base e v l) : ∃ a cap, v = .slice a l.length cap ∧ (a = none → l = []) := by
  rcases h.2 with ⟨rfl, h0⟩ | ⟨g, cap, cur, rfl, _⟩
  · exact ⟨none, 0, by rw [h0], fun _ => List.length_eq_zero_iff.1 h0⟩
  · exact ⟨_, _, rfl, fun h => by cases h⟩
theorem SOwns.of_heap {w w' : World} {base : Nat} {e : TypeId} {v : Value} {l : List Sl} (h : SOwns w base e v l) (hh : ∀ k, v.ownBlock = some k → w'.heap[k]? = w.heap[k]?) : SOwns w' base e v l := by
  refine ⟨h.1, ?_⟩
  rcases h.2 with h1 | ⟨g, cap, cur, h1, h2, h3, h4⟩
  · exact .inl h1
  · exact .inr ⟨g, cap, cur, h1, h2, by rw [hh g (by rw [h1]; rfl), h3], h4⟩
theorem SOwns.below {w w' : World} {base B : Nat} {e : TypeId} {v : Value} {l : List Sl} (h : SOwns w base e v l) (hb : Below B w w') (hB : w.heap.size ≤ B) : SOwns w' base e v l :=
  h.of_heap fun k hk => hb.block k (by have := (h.lt k hk).2; omega)
theorem SOwns.grown {w w' : World} {base : Nat} {e : TypeId} {v : Value} {l : List Sl} {row : Option Nat} (h : SOwns w base e v l) (hg : w.grownBy w' row) (hn : ∀ k, v.ownBlock = some k → row ≠ some k) : SOwns w' base e v l :=
  h.of_heap fun k hk => hg.block k (h.lt k hk).2 (fun e => hn k hk e.symm)
theorem SOwns.setCell_other {w : World} {base : Nat} {e : TypeId} {v : Value} {l : List Sl} (h : SOwns w base e v l) {b j : Nat} (hp : v.ownBlock ≠ some b) (x : Value) : SOwns (w.setCell ⟨b, j, none⟩ x) base e v l :=
  h.of_heap fun k hk => heap_setCell_other w ⟨b, j, none⟩ k x (fun e => by simp at e; subst e; exact hp hk)
theorem SOwns.setCell_low {w : World} {base : Nat} {e : TypeId} {v : Value} {l : List Sl} (h : SOwns w base e v l) {b j : Nat} (hp : b < base) (x : Value) : SOwns (w.setCell ⟨b, j, none⟩ x) base e v l :=
  h.setCell_other (fun e => by have := (h.lt b e).1; omega) x
/-- Where the cells of what is owned lie. -/
theorem SOwns.at {w : World} {base : Nat} {e : TypeId} {v : Value} {l : List Sl} (h : SOwns w base e v l) (k : Nat) (hk : k < l.length) :
    ∃ g cap, v = .slice (some ⟨g, 0, none⟩) l.length cap ∧ w.cell? ⟨g, k * 2, none⟩ = some (.string l[k].1) ∧ w.cell? ⟨g, k * 2 + 1, none⟩ = some (.int .i64 l[k].2) ∧ (∀ j, w.frozen? ⟨g, j, none⟩ = false) ∧ base ≤ g ∧ g < w.heap.size ∧ l.length ≤ cap := by
  have hlt := h.lt
  rcases h.2 with ⟨h1, h0⟩ | ⟨g, cap, cur, rfl, h2, h3, h4, h5, h6, h7⟩
  · omega
  · have h' : w.ownsRow base e 2 (.slice (some ⟨g, 0, none⟩) l.length cap) l.length (sc l) := h
    exact ⟨g, cap, rfl, (h'.cellAt _ (by omega)).trans (sc_name l k hk), (h'.cellAt _ (by omega)).trans (sc_ino l k hk), h'.frozenAt, h2, (hlt g rfl).2, h4⟩
theorem SOwns.set_name {w : World} {base g cap : Nat} {e : TypeId} {l : List Sl} (h : SOwns w base e (.slice (some ⟨g, 0, none⟩) l.length cap) l) (k : Nat) (hk : k < l.length) (t : ByteArray) :
    SOwns (w.setCell ⟨g, k * 2, none⟩ (.string t)) base e (.slice (some ⟨g, 0, none⟩) l.length cap) (l.set k (t, l[k].2)) ∧ w.grownBy (w.setCell ⟨g, k * 2, none⟩ (.string t)) (some g) := by
  have := World.ownsRow.stored h (k * 2) (.string t)
  refine ⟨?_, this.2⟩
  unfold SOwns
  rw [List.length_set, ← sc_set_name l k t hk]
  exact this.1
theorem SOwns.set_ino {w : World} {base g cap : Nat} {e : TypeId} {l : List Sl} (h : SOwns w base e (.slice (some ⟨g, 0, none⟩) l.length cap) l) (k : Nat) (hk : k < l.length) (z : Int) :
    SOwns (w.setCell ⟨g, k * 2 + 1, none⟩ (.int .i64 z)) base e (.slice (some ⟨g, 0, none⟩) l.length cap) (l.set k (l[k].1, z)) ∧ w.grownBy (w.setCell ⟨g, k * 2 + 1, none⟩ (.int .i64 z)) (some g) := by
  have := World.ownsRow.stored h (k * 2 + 1) (.int .i64 z)
  refine ⟨?_, this.2⟩
  unfold SOwns
  rw [List.length_set, ← sc_set_ino l k z hk]
  exact this.1
theorem SOwns.set_both {w : World} {base g cap : Nat} {e : TypeId} {l : List Sl} (h : SOwns w base e (.slice (some ⟨g, 0, none⟩) l.length cap) l) (k : Nat) (hk : k < l.length) (t : ByteArray) (z : Int) :
    SOwns ((w.setCell ⟨g, k * 2, none⟩ (.string t)).setCell ⟨g, k * 2 + 1, none⟩ (.int .i64 z)) base e (.slice (some ⟨g, 0, none⟩) l.length cap) (l.set k (t, z)) ∧ w.grownBy ((w.setCell ⟨g, k * 2, none⟩ (.string t)).setCell ⟨g, k * 2 + 1, none⟩ (.int .i64 z)) (some g) := by
  have h1 := h.set_name k hk t
  have h2 : SOwns (w.setCell ⟨g, k * 2, none⟩ (.string t)) base e (.slice (some ⟨g, 0, none⟩) (l.set k (t, l[k].2)).length cap) (l.set k (t, l[k].2)) := by rw [List.length_set]; exact h1.1
  have h3 := h2.set_ino k (by simpa using hk) z
  simp only [List.length_set, List.getElem_set_self, List.set_set] at h3
  exact ⟨h3.1, grownBy_trans h1.2 h3.2⟩
/-- The slice value v reads as the slots xs. -/
def RSl (w : World) (v : Value) (xs : List Sl) : Prop := ∃ a cap, v = .slice a xs.length cap ∧ xs.length ≤ cap ∧ ∀ (j : Nat) (h : j < xs.length), ∃ g off, a = some ⟨g, off, none⟩ ∧ g < w.heap.size ∧ w.cell? ⟨g, off + j * 2, none⟩ = some (.string xs[j].1) ∧ w.cell? ⟨g, off + j * 2 + 1, none⟩ = some (.int .i64 xs[j].2)
theorem RSl.below {w w' : World} {B : Nat} {v : Value} {xs : List Sl} (h : RSl w v xs) (hb : Below B w w') (hB : w.heap.size ≤ B) : RSl w' v xs := by
  obtain ⟨a, cap, rfl, hcap, h⟩ := h
  refine ⟨a, cap, rfl, hcap, fun j hj => ?_⟩
  obtain ⟨g, off, e, hg, hc, hd⟩ := h j hj
  exact ⟨g, off, e, Nat.lt_of_lt_of_le hg hb.size, (hb.cell (p := ⟨g, off + j * 2, none⟩) (Nat.lt_of_lt_of_le hg hB)).trans hc, (hb.cell (p := ⟨g, off + j * 2 + 1, none⟩) (Nat.lt_of_lt_of_le hg hB)).trans hd⟩
theorem RSl.alloc {w : World} {v : Value} {xs : List Sl} (h : RSl w v xs) (o : Obj) : RSl (w.alloc o) v xs := h.below ((Below.refl _ w).alloc (Nat.le_refl _) o) (Nat.le_refl _)
theorem RSl.drew {w : World} {v : Value} {xs : List Sl} (h : RSl w v xs) : RSl w.drew v xs := h
theorem RSl.form {w : World} {v : Value} {xs : List Sl} (h : RSl w v xs) : ∃ a c, v = .slice a xs.length c := by
  obtain ⟨a, c, h, _⟩ := h
  exact ⟨a, c, h⟩
theorem SOwns.rsl {w : World} {base : Nat} {e : TypeId} {v : Value} {xs : List Sl} (h : SOwns w base e v xs) : RSl w v xs := by
  rcases h.2 with ⟨rfl, h0⟩ | ⟨g, cap, cur, rfl, _, _, hcap, _⟩
  · have : xs = [] := List.length_eq_zero_iff.1 h0
    subst this
    exact ⟨none, 0, rfl, Nat.le_refl _, fun j hj => absurd hj (Nat.not_lt_zero _)⟩
  · refine ⟨_, cap, rfl, hcap, fun j hj => ?_⟩
    obtain ⟨g', c', e1, k1, k2, _, _, k5, _⟩ := h.at j hj
    simp only [Value.slice.injEq, Option.some.injEq, Addr.mk.injEq] at e1
    obtain ⟨⟨rfl, -, -⟩, -, rfl⟩ := e1
    exact ⟨g, 0, rfl, k5, by rw [Nat.zero_add]; exact k1, by rw [Nat.zero_add]; exact k2⟩
end Go.Proofs.YtmjhgfkplolelaaGreat.Kit
/- A variable in a block of its own: what is known of it over calls and stores. No Go function is spoken of. -/
namespace Go.Proofs.YtmjhgfkplolelaaGreat.Kit
open Go.RowKit
/-- Block b holds the cells cs of a variable of type T. -/
def AtC (w : World) (b : Nat) (T : TypeId) (cs : Array Value) : Prop := w.heap[b]? = some (.cells cs T (0, 0))
theorem AtC.lt {w : World} {b : Nat} {T : TypeId} {cs : Array Value} (h : AtC w b T cs) : b < w.heap.size := (Array.getElem?_eq_some_iff.1 h).1
theorem AtC.new (w : World) (T : TypeId) (cs : Array Value) : AtC (w.alloc (.cells cs T)) w.heap.size T cs := heap_new w _
theorem AtC.alloc {w : World} {b : Nat} {T : TypeId} {cs : Array Value} (h : AtC w b T cs) (o : Obj) : AtC (w.alloc o) b T cs := (Below.heap_alloc _ _ _ h.lt).trans h
theorem AtC.drew {w : World} {b : Nat} {T : TypeId} {cs : Array Value} (h : AtC w b T cs) : AtC w.drew b T cs := h
theorem AtC.below {w w' : World} {b B : Nat} {T : TypeId} {cs : Array Value} (h : AtC w b T cs) (hb : Below B w w') (hB : b < B) : AtC w' b T cs := (hb.block b hB).trans h
theorem AtC.over {w w' : World} {b : Nat} {T : TypeId} {cs : Array Value} (h : AtC w b T cs) (hb : Below w.heap.size w w') : AtC w' b T cs := h.below hb h.lt
theorem AtC.grown {w w' : World} {b : Nat} {T : TypeId} {cs : Array Value} {row : Option Nat} (h : AtC w b T cs) (hg : w.grownBy w' row) (hr : row ≠ some b) : AtC w' b T cs := (hg.block b h.lt (fun e => hr e.symm)).trans h
theorem AtC.set {w : World} {b : Nat} {T : TypeId} {cs : Array Value} (h : AtC w b T cs) (k : Nat) (x : Value) : AtC (w.setCell ⟨b, k, none⟩ x) b T (cs.setIfInBounds k x) := heap_setCell_same w b k cs T x h
theorem AtC.other {w : World} {b : Nat} {T : TypeId} {cs : Array Value} (h : AtC w b T cs) {g k : Nat} (hn : b ≠ g) (x : Value) : AtC (w.setCell ⟨g, k, none⟩ x) b T cs := (heap_setCell_other w ⟨g, k, none⟩ b x hn).trans h
theorem AtC.cell {w : World} {b : Nat} {T : TypeId} {cs : Array Value} (h : AtC w b T cs) (k : Nat) : w.cell? ⟨b, k, none⟩ = cs[k]? := cell_of_row w b k cs T _ h
theorem AtC.frozen {w : World} {b : Nat} {T : TypeId} {cs : Array Value} (h : AtC w b T cs) (k : Nat) : w.frozen? ⟨b, k, none⟩ = false := frozen_of_row w b k cs T h
theorem AtC.two {w : World} {b : Nat} {T : TypeId} {x y : Value} (h : AtC w b T #[x, y]) : w.cell? ⟨b, 0, none⟩ = some x ∧ w.cell? ⟨b, 1, none⟩ = some y ∧ b < w.heap.size := ⟨h.cell 0, h.cell 1, h.lt⟩
theorem AtC.three {w : World} {b : Nat} {T : TypeId} {x y z : Value} (h : AtC w b T #[x, y, z]) : w.cell? ⟨b, 0, none⟩ = some x ∧ w.cell? ⟨b, 1, none⟩ = some y ∧ w.cell? ⟨b, 2, none⟩ = some z ∧ b < w.heap.size := ⟨h.cell 0, h.cell 1, h.cell 2, h.lt⟩
theorem AtC.frz {w : World} {b : Nat} {T : TypeId} {cs : Array Value} (h : AtC w b T cs) : w.frozen? ⟨b, 0, none⟩ = false ∧ w.frozen? ⟨b, 1, none⟩ = false ∧ w.frozen? ⟨b, 2, none⟩ = false := ⟨h.frozen 0, h.frozen 1, h.frozen 2⟩
end Go.Proofs.YtmjhgfkplolelaaGreat.Kit
/- laws.eqIntS, laws.sameInts, laws.markIntS and laws.heldIntS by their contracts. -/
namespace Go.Proofs.YtmjhgfkplolelaaGreat.Kit
open Go.RowKit
/-- Numbers as cells. -/
def ic (l : List Int) : List Value := l.map fun z => Value.int .i64 z
theorem ic_length (l : List Int) : (ic l).length = l.length := by simp [ic]
/-- The slice value v reads as the numbers xs. -/
def RInts (w : World) (v : Value) (xs : List Int) : Prop := ∃ a cap, v = .slice a xs.length cap ∧ ∀ (j : Nat) (h : j < xs.length), ∃ g off, a = some ⟨g, off, none⟩ ∧ g < w.heap.size ∧ w.cell? ⟨g, off + j, none⟩ = some (.int .i64 xs[j])
theorem RInts.below {w w' : World} {B : Nat} {v : Value} {xs : List Int} (h : RInts w v xs) (hb : Below B w w') (hB : w.heap.size ≤ B) : RInts w' v xs := by
  obtain ⟨a, cap, rfl, h⟩ := h
  refine ⟨a, cap, rfl, fun j hj => ?_⟩
  obtain ⟨g, off, e, hg, hc⟩ := h j hj
  exact ⟨g, off, e, Nat.lt_of_lt_of_le hg hb.size, (hb.cell (p := ⟨g, off + j, none⟩) (Nat.lt_of_lt_of_le hg hB)).trans hc⟩
theorem ROwns.rints {w : World} {base : Nat} {e : TypeId} {v : Value} {xs : List Int} (h : ROwns w base e v (ic xs)) : RInts w v xs := by
  obtain ⟨a, cap, rfl, _⟩ := h.form
  refine ⟨a, cap, by rw [ic_length], fun j hj => ?_⟩
  obtain ⟨g, c, e1, k1, _, _, k4, _⟩ := h.at j (by rw [ic_length]; exact hj)
  simp only [Value.slice.injEq] at e1
  refine ⟨g, 0, e1.1, k4, ?_⟩
  rw [Nat.zero_add, k1]
  simp [ic, hj]
/-- The marksI from k on, n of them. -/
def marksI (k n : Nat) : List Int := (List.range n).map fun j => ((k + j : Nat) : Int)
theorem marks_lengthI (k n : Nat) : (marksI k n).length = n := by simp [marksI]
theorem marks_atI (k n j : Nat) (h : j < n) : (ic (marksI k n))[j]? = some (.int .i64 ((k + j : Nat) : Int)) := by simp [marksI, ic, h]
/-- The first j cells are marksI already. -/
def markedI (k j : Nat) (l : List Int) : List Int := marksI k j ++ l.drop j
theorem marked_lengthI (k j : Nat) (l : List Int) (h : j ≤ l.length) : (markedI k j l).length = l.length := by simp [markedI, marks_lengthI]; omega
theorem marked_zeroI (k : Nat) (l : List Int) : markedI k 0 l = l := by simp [markedI, marksI]
theorem marked_allI (k : Nat) (l : List Int) : markedI k l.length l = marksI k l.length := by simp [markedI]
theorem marked_setI (k j : Nat) (l : List Int) (h : j < l.length) : (ic (markedI k j l)).set j (.int .i64 ((k + j : Nat) : Int)) = ic (markedI k (j + 1) l) := by
  have : (markedI k j l).set j ((k + j : Nat) : Int) = markedI k (j + 1) l := by
    unfold markedI
    rw [List.set_append_right _ _ (by rw [marks_lengthI]; omega), marks_lengthI, Nat.sub_self, List.drop_eq_getElem_cons h, List.set_cons_zero]
    simp [marksI, List.range_succ]
  rw [← this]
  simp [ic, List.map_set]
theorem marked_cellI (k j : Nat) (l : List Int) (h : j < l.length) : (ic (markedI k j l))[j]? = some (.int .i64 l[j]) := by
  unfold ic markedI
  rw [List.map_append, List.getElem?_append_right (by rw [List.length_map, marks_lengthI]; omega), List.length_map, marks_lengthI, Nat.sub_self, List.map_drop, List.getElem?_drop]
  simp [h]
end Go.Proofs.YtmjhgfkplolelaaGreat.Kit
namespace Go.Proofs.YtmjhgfkplolelaaGreat
open Go.RowKit Kit

set_option maxRecDepth 100000 in
set_option maxHeartbeats 800000 in
theorem eqI_same (va vb : Value) (l : List Int) (w : World) (ha : RInts w va l) (hb : RInts w vb l) (hl : l.length ≤ 1000000000) :
    Calls Tryz.prog 20 #[va, vb] w fun e w' => e = .returned (.bool true) ∧ Below w.heap.size w w' := by
  obtain ⟨a1, c1, rfl, ha⟩ := ha
  obtain ⟨a2, c2, rfl, hb⟩ := hb
  have HA := hide ha
  have HB := hide hb
  clear ha hb
  go_enter Tryz.func20, Tryz.ntmps20
  go_wp2
  go_loopw [5] (fun i wr => ∃ j : Nat, j ≤ l.length ∧ i = .int .i64 j ∧ ∃ q, wr = w.drewN q) (fun i _ => l.length - (intOf i).toNat)
  case atStart => exact ⟨0, Nat.zero_le _, rfl, 0, rfl⟩
  case round =>
    obtain ⟨j, hj, rfl, q, rfl⟩ := hrel
    by_cases hlt : j < l.length
    · obtain ⟨g1, o1, rfl, _, k1⟩ := HA.out j hlt
      obtain ⟨g2, o2, rfl, _, k2⟩ := HB.out j hlt
      obtain ⟨t, ht⟩ : ∃ t, l[j] = t := ⟨_, rfl⟩
      rw [ht] at k1 k2
      clear ht
      have j0 : (0 : Int) ≤ (j : Int) := by omega
      have j1 : (j : Int) < (l.length : Int) := by omega
      go_wp2
      go_quiet (fail)
      go_wp2
      go_roundw
      case rel => exact ⟨j + 1, by omega, by go_num, _, rfl⟩
      case measure => simp [intOf]; omega
    · go_wp2
      go_ret
      exact ⟨rfl, below_drewN (Below.refl _ _) _⟩

end Go.Proofs.YtmjhgfkplolelaaGreat
/- spec.InodeNew and (impl.inodeRecord).inode by their contracts. -/
namespace Go.Proofs.YtmjhgfkplolelaaGreat.Kit
open Go.RowKit
theorem ROwns.form2 {w : World} {base : Nat} {e : TypeId} {v : Value} {p q : Int} (h : ROwns w base e v (ic [p, q])) : ∃ a c, v = .slice a 2 c := by
  obtain ⟨a, c, h1, _⟩ := h.form
  exact ⟨a, c, h1⟩
theorem heap_new2 (w : World) (o o2 : Obj) : ((w.alloc o).alloc o2).heap[w.heap.size]? = some o := (Below.heap_alloc _ _ _ (by simp)).trans (heap_new w o)
theorem heap_new3 (w : World) (o o2 o3 : Obj) : (((w.alloc o).alloc o2).alloc o3).heap[w.heap.size]? = some o := (Below.heap_alloc _ _ _ (by simp; omega)).trans (heap_new2 w o o2)
end Go.Proofs.YtmjhgfkplolelaaGreat.Kit
namespace Go.Proofs.YtmjhgfkplolelaaGreat
open Go.RowKit Kit
theorem Tryz.u38 : Tryz.prog.underlying 38 = some (.slice 3) := by kernel_rfl
theorem Tryz.i3 : (Tryz.prog.info? 3).map (fun i => (i.zero, i.size, i.bytes)) = some (some (.int .i64 0), 1, 8) := by kernel_rfl
theorem make22 (w : World) : (Instr.makeSlice 38 (.int .i64 2) (.int .i64 2)).run Tryz.prog w = .ok (.slice (some ⟨w.heap.size, 0, none⟩) 2 2) (w.alloc (.cells #[.int .i64 0, .int .i64 0] 3)) := by
  obtain ⟨i0, hi, hz0, hz1, hz2⟩ := info_parts Tryz.i3
  rw [run_make w 38 3 i0 (.int .i64 0) Tryz.u38 hi hz0 .i64 .i64 2 2 (by decide) (by decide) (by rw [hz2]; decide) (by decide), hz1]
  have e1 : ∀ (z : Value) n (l : List Value), List.replicate n z = l → madeCells #[z] n = l.toArray := fun z n l h => Array.toList_inj.1 (by rw [toList_madeCells_one, h])
  rw [show Value.cells _ = #[_] from rfl, e1 _ _ _ rfl]
  rfl
theorem make02 (w : World) : (Instr.makeSlice 38 (.int .i64 0) (.int .i64 2)).run Tryz.prog w = .ok (.slice (some ⟨w.heap.size, 0, none⟩) 0 2) (w.alloc (.cells #[.int .i64 0, .int .i64 0] 3)) := by
  obtain ⟨i0, hi, hz0, hz1, hz2⟩ := info_parts Tryz.i3
  rw [run_make w 38 3 i0 (.int .i64 0) Tryz.u38 hi hz0 .i64 .i64 0 2 (by decide) (by decide) (by rw [hz2]; decide) (by decide), hz1]
  have e1 : ∀ (z : Value) n (l : List Value), List.replicate n z = l → madeCells #[z] n = l.toArray := fun z n l h => Array.toList_inj.1 (by rw [toList_madeCells_one, h])
  rw [show Value.cells _ = #[_] from rfl, e1 _ _ _ rfl]
  rfl
theorem make04 (w : World) : (Instr.makeSlice 226 (.int .i64 0) (.int .i64 4)).run Tryz.prog w = .ok (.slice (some ⟨w.heap.size, 0, none⟩) 0 4) (w.alloc (.cells #[.int .u8 0, .int .u8 0, .int .u8 0, .int .u8 0] 5)) := by
  obtain ⟨i0, hi, hz0, hz1, hz2⟩ := info_parts Tryz.i5
  rw [run_make w 226 5 i0 (.int .u8 0) Tryz.u226 hi hz0 .i64 .i64 0 4 (by decide) (by decide) (by rw [hz2]; decide) (by decide), hz1]
  have e1 : ∀ (z : Value) n (l : List Value), List.replicate n z = l → madeCells #[z] n = l.toArray := fun z n l h => Array.toList_inj.1 (by rw [toList_madeCells_one, h])
  rw [show Value.cells _ = #[_] from rfl, e1 _ _ _ rfl]
  rfl
theorem Tryz.u231 : Tryz.prog.underlying 231 = some (.array 2 3) := by kernel_rfl
theorem arr0 (p q : Int) (w : World) : (Instr.index 231 (.agg #[.int .i64 p, .int .i64 q]) (.int .i64 0)).run Tryz.prog w = .ok (.int .i64 p) w := by
  obtain ⟨i0, hi, hz0, hz1, hz2⟩ := info_parts Tryz.i3
  simp [Instr.index, run_underlying Tryz.u231, asIntOf, go_sem, sizeOf, typeInfo, hi, hz1, part]
theorem arr1 (p q : Int) (w : World) : (Instr.index 231 (.agg #[.int .i64 p, .int .i64 q]) (.int .i64 1)).run Tryz.prog w = .ok (.int .i64 q) w := by
  obtain ⟨i0, hi, hz0, hz1, hz2⟩ := info_parts Tryz.i3
  simp [Instr.index, run_underlying Tryz.u231, asIntOf, go_sem, sizeOf, typeInfo, hi, hz1, part]
/-- The links of a new inode. -/
def newLinks (k : Int) : Int := if k = 0 then 0 else 1

set_option maxHeartbeats 800000 in
theorem rec_any (k l p q : Int) (w : World) :
    Calls Tryz.prog 181 #[.agg #[.int .i64 k, .int .i64 l, .int .i64 p, .int .i64 q]] w fun e w' => ∃ v, e = .returned (.agg #[.int .i64 k, .int .i64 l, v]) ∧ ROwns w' w.heap.size 3 v (ic [p, q]) ∧ Below w.heap.size w w' := by
  have mk := make02
  have a0 := arr0 p q
  have a1 := arr1 p q
  go_enter Tryz.func181, Tryz.ntmps181
  go_wp2
  go_rounds 3
  refine bodyPost_ret (v := .agg #[.int .i64 k, .int .i64 l, .slice (some ⟨w.heap.size + 1 + 1, 0, none⟩) 2 2]) (by simp [results, go_sem]) rfl ⟨_, rfl, ?_, by go_grown⟩
  have := ((ROwns.lit ((w.alloc (Obj.cells #[.int .i64 k, .int .i64 l, .int .i64 p, .int .i64 q] 233)).alloc (Obj.cells #[.int .i64 k, .int .i64 l, .slice (some ⟨w.heap.size + 1 + 1, 0, none⟩) 2 2] 81)) w.heap.size 3 #[.int .i64 p, .int .i64 q] (by simp; omega) (by simp [maxLen])).alloc (Obj.cells #[.int .i64 p] 3)).alloc (Obj.cells #[.int .i64 q] 3)
  simpa [ic] using this

end Go.Proofs.YtmjhgfkplolelaaGreat
/- laws.eqInode, laws.markInode and laws.heldInode by their contracts. -/
namespace Go.Proofs.YtmjhgfkplolelaaGreat.Kit
open Go.RowKit
theorem RInts.alloc {w : World} {v : Value} {xs : List Int} (h : RInts w v xs) (o : Obj) : RInts (w.alloc o) v xs := h.below ((Below.refl _ w).alloc (Nat.le_refl _) o) (Nat.le_refl _)
theorem RInts.form {w : World} {v : Value} {xs : List Int} (h : RInts w v xs) : ∃ a c, v = .slice a xs.length c := by
  obtain ⟨a, c, h, _⟩ := h
  exact ⟨a, c, h⟩
/-- A variable of an inode's type lies in block b. -/
def AtI (w : World) (b : Nat) (k l : Int) (v : Value) : Prop := w.heap[b]? = some (.cells #[.int .i64 k, .int .i64 l, v] 81 (0, 0))
theorem AtI.lt {w : World} {b : Nat} {k l : Int} {v : Value} (h : AtI w b k l v) : b < w.heap.size := (Array.getElem?_eq_some_iff.1 h).1
theorem AtI.new (w : World) (k l : Int) (v : Value) : AtI (w.alloc (.cells #[.int .i64 k, .int .i64 l, v] 81)) w.heap.size k l v := heap_new w _
theorem AtI.alloc {w : World} {b : Nat} {k l : Int} {v : Value} (h : AtI w b k l v) (o : Obj) : AtI (w.alloc o) b k l v := (Below.heap_alloc _ _ _ h.lt).trans h
theorem AtI.below {w w' : World} {b B : Nat} {k l : Int} {v : Value} (h : AtI w b k l v) (hb : Below B w w') (hB : b < B) : AtI w' b k l v := (hb.block b hB).trans h
theorem AtI.grown {w w' : World} {b : Nat} {k l : Int} {v : Value} {row : Option Nat} (h : AtI w b k l v) (hg : w.grownBy w' row) (hr : row ≠ some b) : AtI w' b k l v := (hg.block b h.lt (fun e => hr e.symm)).trans h
theorem AtI.cells {w : World} {b : Nat} {k l : Int} {v : Value} (h : AtI w b k l v) :
    w.cell? ⟨b, 0, none⟩ = some (.int .i64 k) ∧ w.cell? ⟨b, 1, none⟩ = some (.int .i64 l) ∧ w.cell? ⟨b, 2, none⟩ = some v ∧ b < w.heap.size := by
  have h' : w.heap[b]? = some (.cells #[.int .i64 k, .int .i64 l, v] 81 (0, 0)) := h
  exact ⟨by simp [World.cell?, h'], by simp [World.cell?, h'], by simp [World.cell?, h'], h.lt⟩
end Go.Proofs.YtmjhgfkplolelaaGreat.Kit
namespace Go.Proofs.YtmjhgfkplolelaaGreat
open Go.RowKit Kit

set_option maxHeartbeats 800000 in
theorem eqN_sameI (k l : Int) (va vb : Value) (xs : List Int) (w : World) (ha : RInts w va xs) (hb : RInts w vb xs) (hl : xs.length ≤ 1000000000) :
    Calls Tryz.prog 168 #[.agg #[.int .i64 k, .int .i64 l, va], .agg #[.int .i64 k, .int .i64 l, vb]] w fun e w' => e = .returned (.bool true) ∧ Below w.heap.size w w' := by
  obtain ⟨a1, c1, rfl⟩ := ha.form
  obtain ⟨a2, c2, rfl⟩ := hb.form
  have HA := hide ha
  have HB := hide hb
  clear ha hb
  go_enter Tryz.func168, Tryz.ntmps168
  go_wp2_with fail
  refine (eqI_same _ _ xs _ ((HA.out.alloc _).alloc _) ((HB.out.alloc _).alloc _) hl).mono ?_
  rintro e w1 ⟨rfl, B1⟩
  have HB1 := hide B1
  clear B1
  go_wp2
  go_ret
  exact ⟨rfl, ((((Below.refl _ w).alloc (Nat.le_refl _) _).alloc (by simp) _).trans (HB1.out.mono (by simp; omega)))⟩

end Go.Proofs.YtmjhgfkplolelaaGreat
/- laws.eqBoolS, laws.markBoolS and laws.heldBoolS by their contracts. -/
namespace Go.Proofs.YtmjhgfkplolelaaGreat.Kit
open Go.RowKit
/-- Flags as cells. -/
def fc (l : List Bool) : List Value := l.map fun z => Value.bool z
theorem fc_length (l : List Bool) : (fc l).length = l.length := by simp [fc]
theorem fc_append (a b : List Bool) : fc (a ++ b) = fc a ++ fc b := by simp [fc]
/-- The slice value v reads as the flags xs. -/
def RFl (w : World) (v : Value) (xs : List Bool) : Prop := ∃ a cap, v = .slice a xs.length cap ∧ ∀ (j : Nat) (h : j < xs.length), ∃ g off, a = some ⟨g, off, none⟩ ∧ g < w.heap.size ∧ w.cell? ⟨g, off + j, none⟩ = some (.bool xs[j])
theorem RFl.below {w w' : World} {B : Nat} {v : Value} {xs : List Bool} (h : RFl w v xs) (hb : Below B w w') (hB : w.heap.size ≤ B) : RFl w' v xs := by
  obtain ⟨a, cap, rfl, h⟩ := h
  refine ⟨a, cap, rfl, fun j hj => ?_⟩
  obtain ⟨g, off, e, hg, hc⟩ := h j hj
  exact ⟨g, off, e, Nat.lt_of_lt_of_le hg hb.size, (hb.cell (p := ⟨g, off + j, none⟩) (Nat.lt_of_lt_of_le hg hB)).trans hc⟩
theorem ROwns.rfl {w : World} {base : Nat} {e : TypeId} {v : Value} {xs : List Bool} (h : ROwns w base e v (fc xs)) : RFl w v xs := by
  obtain ⟨a, cap, rfl, _⟩ := h.form
  refine ⟨a, cap, by rw [fc_length], fun j hj => ?_⟩
  obtain ⟨g, c, e1, k1, _, _, k4, _⟩ := h.at j (by rw [fc_length]; exact hj)
  simp only [Value.slice.injEq] at e1
  refine ⟨g, 0, e1.1, k4, ?_⟩
  rw [Nat.zero_add, k1]
  simp [fc, hj]
theorem RFl.alloc {w : World} {v : Value} {xs : List Bool} (h : RFl w v xs) (o : Obj) : RFl (w.alloc o) v xs := h.below ((Below.refl _ w).alloc (Nat.le_refl _) o) (Nat.le_refl _)
theorem RFl.drew {w : World} {v : Value} {xs : List Bool} (h : RFl w v xs) : RFl w.drew v xs := h.below (Below.refl w.heap.size w).drew (Nat.le_refl _)
theorem RFl.form {w : World} {v : Value} {xs : List Bool} (h : RFl w v xs) : ∃ a c, v = .slice a xs.length c := by
  obtain ⟨a, c, h, _⟩ := h
  exact ⟨a, c, h⟩
/-- The mark of a place. -/
def mk3 (k : Nat) : Bool := decide (k % 3 = 0)
theorem mk3_int (k : Nat) : mk3 k = ((k : Int) % 3 == 0) := by
  unfold mk3
  rw [Bool.eq_iff_iff]
  simp
  omega
/-- The marksB from k on, n of them. -/
def marksB (k n : Nat) : List Bool := (List.range n).map fun j => mk3 (k + j)
theorem marks_lengthB (k n : Nat) : (marksB k n).length = n := by simp [marksB]
theorem marks_atB (k n j : Nat) (h : j < n) : (fc (marksB k n))[j]? = some (.bool (mk3 (k + j))) := by simp [marksB, fc, h]
/-- The first j cells are marksB already. -/
def markedB (k j : Nat) (l : List Bool) : List Bool := marksB k j ++ l.drop j
theorem marked_lengthB (k j : Nat) (l : List Bool) (h : j ≤ l.length) : (markedB k j l).length = l.length := by simp [markedB, marks_lengthB]; omega
theorem marked_zeroB (k : Nat) (l : List Bool) : markedB k 0 l = l := by simp [markedB, marksB]
theorem marked_allB (k : Nat) (l : List Bool) : markedB k l.length l = marksB k l.length := by simp [markedB]
theorem marked_setB (k j : Nat) (l : List Bool) (h : j < l.length) : (fc (markedB k j l)).set j (.bool (mk3 (k + j))) = fc (markedB k (j + 1) l) := by
  have : (markedB k j l).set j (mk3 (k + j)) = markedB k (j + 1) l := by
    unfold markedB
    rw [List.set_append_right _ _ (by rw [marks_lengthB]; omega), marks_lengthB, Nat.sub_self, List.drop_eq_getElem_cons h, List.set_cons_zero]
    simp [marksB, List.range_succ]
  rw [← this]
  simp [fc, List.map_set]
theorem marked_cellB (k j : Nat) (l : List Bool) (h : j < l.length) : (fc (markedB k j l))[j]? = some (.bool l[j]) := by
  unfold fc markedB
  rw [List.map_append, List.getElem?_append_right (by rw [List.length_map, marks_lengthB]; omega), List.length_map, marks_lengthB, Nat.sub_self, List.map_drop, List.getElem?_drop]
  simp [h]
end Go.Proofs.YtmjhgfkplolelaaGreat.Kit
namespace Go.Proofs.YtmjhgfkplolelaaGreat
open Go.RowKit Kit

set_option maxRecDepth 100000 in
set_option maxHeartbeats 800000 in
theorem eqB_sameB (va vb : Value) (l : List Bool) (w : World) (ha : RFl w va l) (hb : RFl w vb l) (hl : l.length ≤ 1000000000) :
    Calls Tryz.prog 77 #[va, vb] w fun e w' => e = .returned (.bool true) ∧ Below w.heap.size w w' := by
  obtain ⟨a1, c1, rfl, ha⟩ := ha
  obtain ⟨a2, c2, rfl, hb⟩ := hb
  have HA := hide ha
  have HB := hide hb
  clear ha hb
  go_enter Tryz.func77, Tryz.ntmps77
  go_wp2
  go_loopw [5] (fun i wr => ∃ j : Nat, j ≤ l.length ∧ i = .int .i64 j ∧ ∃ q, wr = w.drewN q) (fun i _ => l.length - (intOf i).toNat)
  case atStart => exact ⟨0, Nat.zero_le _, rfl, 0, rfl⟩
  case round =>
    obtain ⟨j, hj, rfl, q, rfl⟩ := hrel
    by_cases hlt : j < l.length
    · obtain ⟨g1, o1, rfl, _, k1⟩ := HA.out j hlt
      obtain ⟨g2, o2, rfl, _, k2⟩ := HB.out j hlt
      obtain ⟨t, ht⟩ : ∃ t, l[j] = t := ⟨_, rfl⟩
      rw [ht] at k1 k2
      clear ht
      have j0 : (0 : Int) ≤ (j : Int) := by omega
      have j1 : (j : Int) < (l.length : Int) := by omega
      go_wp2
      go_quiet (fail)
      go_wp2
      go_roundw
      case rel => exact ⟨j + 1, by omega, by go_num, _, rfl⟩
      case measure => simp [intOf]; omega
    · go_wp2
      go_ret
      exact ⟨rfl, below_drewN (Below.refl _ _) _⟩

end Go.Proofs.YtmjhgfkplolelaaGreat
/- Bits and bytes: plain mathematics, no Go function spoken of. -/
namespace Go.Proofs.YtmjhgfkplolelaaGreat.Kit
open Go.RowKit
/-- The number of some flags, the first one counts 1. -/
def byteN : List Bool → Nat
  | [] => 0
  | b :: r => (if b then 1 else 0) + 2 * byteN r
theorem byteN_lt (l : List Bool) : byteN l < 2 ^ l.length := by
  induction l with
  | nil => simp [byteN]
  | cons b r ih =>
    simp only [byteN, List.length_cons, Nat.pow_succ]
    split <;> omega
theorem byteN_snoc (l : List Bool) (b : Bool) : byteN (l ++ [b]) = byteN l + (if b then 2 ^ l.length else 0) := by
  induction l with
  | nil => simp [byteN]
  | cons a r ih =>
    simp only [List.cons_append, byteN, ih, List.length_cons, Nat.pow_succ]
    split <;> split <;> omega
theorem byteN_lt256 (l : List Bool) (h : l.length ≤ 8) : byteN l < 256 := by
  have h1 := byteN_lt l
  have h2 : 2 ^ l.length ≤ 2 ^ 8 := Nat.pow_le_pow_right (by omega) h
  omega
/-- The bit i of a number. -/
def bitN (n i : Nat) : Bool := decide (n / 2 ^ i % 2 = 1)
/-- The lowest k bits of a number. -/
def bitsN (k n : Nat) : List Bool := (List.range k).map (bitN n)
theorem bitsN_length (k n : Nat) : (bitsN k n).length = k := by simp [bitsN]
theorem byteN_bitsN (k n : Nat) : byteN (bitsN k n) = n % 2 ^ k := by
  induction k with
  | zero => simp [bitsN, byteN, Nat.mod_one]
  | succ k ih =>
    have e : bitsN (k + 1) n = bitsN k n ++ [bitN n k] := by simp [bitsN, List.range_succ]
    rw [e, byteN_snoc, ih, bitsN_length, Nat.mod_pow_succ, bitN]
    have h2 : n / 2 ^ k % 2 = 0 ∨ n / 2 ^ k % 2 = 1 := by omega
    rcases h2 with h | h <;> simp [h]
theorem bitN_byteN (l : List Bool) (i : Nat) (h : i < l.length) : bitN (byteN l) i = l[i] := by
  induction l generalizing i with
  | nil => simp at h
  | cons b r ih =>
    cases i with
    | zero =>
      simp only [bitN, byteN, Nat.pow_zero, Nat.div_one, List.getElem_cons_zero]
      cases b <;> simp <;> omega
    | succ i =>
      have h' : i < r.length := by simpa using h
      have e : ((if b = true then 1 else 0) + 2 * byteN r) / 2 ^ (i + 1) = byteN r / 2 ^ i := by
        rw [Nat.pow_succ, Nat.mul_comm (2 ^ i) 2, ← Nat.div_div_eq_div_mul]
        congr 1
        split <;> omega
      have := ih i h'
      simp only [bitN, byteN, e, List.getElem_cons_succ] at this ⊢
      exact this
theorem bitsN_byteN (l : List Bool) : bitsN l.length (byteN l) = l := by
  refine List.ext_getElem (bitsN_length _ _) fun i h1 h2 => ?_
  simp only [bitsN, List.getElem_map, List.getElem_range]
  exact bitN_byteN l i h2
/-- The byte of some flags. -/
def bB (l : List Bool) : UInt8 := UInt8.ofNat (byteN l)
theorem bB_toNat (l : List Bool) (h : l.length ≤ 8) : (bB l).toNat = byteN l := by
  have := byteN_lt256 l h
  simp [bB, UInt8.toNat_ofNat']
  omega
theorem bB_bits (b : UInt8) : bB (bitsN 8 b.toNat) = b := by
  have := b.toNat_lt
  apply UInt8.toNat_inj.1
  rw [bB_toNat _ (by rw [bitsN_length]; omega), byteN_bitsN]
  omega
theorem bits_bB (l : List Bool) (h : l.length = 8) : bitsN 8 (bB l).toNat = l := by
  rw [bB_toNat l (by omega), ← h]
  exact bitsN_byteN l
/-- The flags of row i among the first k. -/
def rowK (l : List Bool) (k i : Nat) : List Bool := ((l.take k).drop (8 * i)).take 8
/-- The bytes of m rows, of the first k flags. -/
def rowsK (l : List Bool) (k m : Nat) : List UInt8 := (List.range m).map fun i => bB (rowK l k i)
theorem rowsK_length (l : List Bool) (k m : Nat) : (rowsK l k m).length = m := by simp [rowsK]
theorem rowsK_zero (l : List Bool) (m : Nat) : rowsK l 0 m = List.replicate m 0 := by
  refine List.ext_getElem (by simp [rowsK]) fun i h1 h2 => ?_
  simp [rowsK, rowK, bB, byteN]
theorem rowK_at (l : List Bool) (k : Nat) (h : k < l.length) : rowK l (k + 1) (k / 8) = rowK l k (k / 8) ++ [l[k]] ∧ (rowK l k (k / 8)).length = k % 8 := by
  have e1 : (rowK l k (k / 8)).length = k % 8 := by simp [rowK]; omega
  have e0 : ((l.take k).drop (8 * (k / 8))).length = k % 8 := by simp; omega
  have e2 : rowK l k (k / 8) = (l.take k).drop (8 * (k / 8)) := List.take_of_length_le (by omega)
  refine ⟨?_, e1⟩
  rw [e2]
  unfold rowK
  rw [List.take_succ_eq_append_getElem h, List.drop_append_of_le_length (by simp; omega)]
  exact List.take_of_length_le (by simp only [List.length_append, e0, List.length_singleton]; omega)
theorem rowK_other (l : List Bool) (k i : Nat) (h : k < l.length) (hi : i ≠ k / 8) : rowK l (k + 1) i = rowK l k i := by
  unfold rowK
  rw [List.take_succ_eq_append_getElem h]
  by_cases h1 : i < k / 8
  · rw [List.drop_append_of_le_length (by simp; omega), List.take_append_of_le_length (by simp; omega)]
  · rw [List.drop_of_length_le (by simp; omega), List.drop_of_length_le (by simp; omega)]
theorem rowsK_set (l : List Bool) (k m : Nat) (h : k < l.length) : (rowsK l k m).set (k / 8) (bB (rowK l (k + 1) (k / 8))) = rowsK l (k + 1) m := by
  refine List.ext_getElem (by simp [rowsK]) fun i h1 h2 => ?_
  rw [List.getElem_set]
  split
  · next e => subst e; simp [rowsK]
  · next e => simp only [rowsK, List.getElem_map, List.getElem_range]; rw [rowK_other l k i h (by omega)]
theorem rowsK_skip (l : List Bool) (k m : Nat) (h : k < l.length) (hf : l[k] = false) : rowsK l (k + 1) m = rowsK l k m := by
  refine List.ext_getElem (by simp [rowsK]) fun i h1 h2 => ?_
  simp only [rowsK, List.getElem_map, List.getElem_range]
  by_cases hi : i = k / 8
  · subst hi
    rw [(rowK_at l k h).1, hf]
    simp [bB, byteN_snoc]
  · rw [rowK_other l k i h hi]
/-- The byte of row k / 8 before flag k, and behind it where that is set. -/
theorem row_before (l : List Bool) (k m : Nat) (hm : k / 8 < m) : (bc (rowsK l k m))[k / 8]? = some (.int .u8 (byteN (rowK l k (k / 8)) : Nat)) := by
  have h8 : (rowK l k (k / 8)).length ≤ 8 := by simp [rowK]; omega
  simp [bc, rowsK, hm, bB_toNat _ h8]
theorem row_behind (l : List Bool) (k : Nat) (h : k < l.length) (ht : l[k] = true) : ((bB (rowK l (k + 1) (k / 8))).toNat : Int) = ((byteN (rowK l k (k / 8)) + 2 ^ (k % 8) : Nat) : Int) := by
  obtain ⟨e1, e2⟩ := rowK_at l k h
  rw [bB_toNat _ (by rw [e1]; simp [e2]; omega), e1, byteN_snoc, ht, e2]
  rfl
theorem row_lt (l : List Bool) (k : Nat) (h : k < l.length) : byteN (rowK l k (k / 8)) < 2 ^ (k % 8) := by
  have := byteN_lt (rowK l k (k / 8))
  rwa [(rowK_at l k h).2] at this
theorem rowsK_one (l : List Bool) (h : l.length = 8) : rowsK l 8 1 = [bB l] := by
  have : l.take 8 = l := List.take_of_length_le (by omega)
  simp [rowsK, rowK, this]
theorem rowsK_two (l : List Bool) (h : l.length = 16) : rowsK l 16 2 = [bB (l.take 8), bB (l.drop 8)] := by
  have e1 : l.take 16 = l := List.take_of_length_le (by omega)
  have e2 : (l.drop 8).take 8 = l.drop 8 := List.take_of_length_le (by simp; omega)
  have e3 : List.range 2 = [0, 1] := rfl
  simp [rowsK, rowK, e1, e2, e3]
/-- The flags of some bytes. -/
def flagsL (s : List UInt8) : List Bool := (List.range (8 * s.length)).map fun k => bitN (s.getD (k / 8) 0).toNat (k % 8)
theorem flagsL_length (s : List UInt8) : (flagsL s).length = 8 * s.length := by simp [flagsL]
theorem flagsL_at (s : List UInt8) (k : Nat) (h : k < (flagsL s).length) : (flagsL s)[k] = bitN (s.getD (k / 8) 0).toNat (k % 8) := by simp [flagsL]
theorem flagsL_one (a : UInt8) : flagsL [a] = bitsN 8 a.toNat := rfl
theorem flagsL_two (a b : UInt8) : flagsL [a, b] = bitsN 8 a.toNat ++ bitsN 8 b.toNat := by
  have e1 : List.range 16 = [0, 1, 2, 3, 4, 5, 6, 7, 8, 9, 10, 11, 12, 13, 14, 15] := rfl
  have e2 : List.range 8 = [0, 1, 2, 3, 4, 5, 6, 7] := rfl
  simp [flagsL, bitsN, e1, e2]
theorem or_bits (r k : Nat) (hk : k < 8) (hr : r < 2 ^ k) : bits .or .u8 (r : Int) ((2 ^ k : Nat) : Int) = ((r + 2 ^ k : Nat) : Int) := by
  have h8 : 2 ^ k ≤ 128 := by
    have := Nat.pow_le_pow_right (n := 2) (by omega) (show k ≤ 7 by omega)
    simpa using this
  show IntKind.u8.wrap ((BitVec.ofInt 8 (r : Int) ||| BitVec.ofInt 8 ((2 ^ k : Nat) : Int)).toNat : Nat) = _
  have e1 : (BitVec.ofInt 8 (r : Int)).toNat = r := by rw [BitVec.toNat_ofInt]; omega
  have e2 : (BitVec.ofInt 8 ((2 ^ k : Nat) : Int)).toNat = 2 ^ k := by rw [BitVec.toNat_ofInt]; omega
  have e3 : r ||| 2 ^ k = r + 2 ^ k := by
    have := Nat.two_pow_add_eq_or_of_lt hr 1
    rw [Nat.mul_one] at this
    rw [Nat.or_comm, ← this, Nat.add_comm]
  rw [BitVec.toNat_or, e1, e2, e3]
  clear e1 e2 e3
  generalize 2 ^ k = p at *
  rw [IntKind.wrap_u8]
  omega
theorem and1_u8 (n : Nat) (h : n < 256) : bits .and .u8 (n : Int) 1 = ((n % 2 : Nat) : Int) := by
  show IntKind.u8.wrap ((BitVec.ofInt 8 (n : Int) &&& BitVec.ofInt 8 1).toNat : Nat) = _
  have e1 : (BitVec.ofInt 8 (n : Int)).toNat = n := by rw [BitVec.toNat_ofInt]; omega
  have e2 : (BitVec.ofInt 8 1).toNat = 2 ^ 1 - 1 := by decide
  rw [BitVec.toNat_and, e1, e2, Nat.and_two_pow_sub_one_eq_mod, IntKind.wrap_u8]
  omega
theorem bitN_int (n k : Nat) : bitN n k = (((n / 2 ^ k % 2 : Nat) : Int) == 1) := by
  unfold bitN
  generalize n / 2 ^ k % 2 = p
  rw [Bool.eq_iff_iff]
  simp
  omega
end Go.Proofs.YtmjhgfkplolelaaGreat.Kit
/- (impl.bitRow).with, (impl.bitRow).has and spec.l05Byte by their contracts. -/
namespace Go.Proofs.YtmjhgfkplolelaaGreat
open Go.RowKit Kit

/-- What counts at place j. -/
def bitP (j : Nat) : Int := ((2 ^ j : Nat) : Int)
theorem bitP_zero : bitP 0 = 1 := rfl
theorem bitP_succ (j : Nat) : bitP (j + 1) = 2 * bitP j := by unfold bitP; rw [Nat.pow_succ]; omega
theorem bitP_le (j : Nat) (h : j ≤ 8) : 0 ≤ bitP j ∧ bitP j ≤ 256 := by
  have := Nat.pow_le_pow_right (n := 2) (by omega) h
  unfold bitP
  generalize 2 ^ j = p at *
  omega
/-- The number of the first j flags. -/
def preN (l : List Bool) (j : Nat) : Int := (byteN (l.take j) : Nat)
theorem preN_zero (l : List Bool) : preN l 0 = 0 := by simp [preN, byteN]
theorem preN_le (l : List Bool) (j : Nat) (h : l.length ≤ 8) : 0 ≤ preN l j ∧ preN l j ≤ 255 := by
  have := byteN_lt256 (l.take j) (by simp; omega)
  unfold preN
  omega
theorem preN_yes (l : List Bool) (j : Nat) (h : j < l.length) (ht : l[j] = true) : preN l (j + 1) = preN l j + bitP j := by
  unfold preN bitP
  rw [List.take_succ_eq_append_getElem h, byteN_snoc, ht, List.length_take, Nat.min_eq_left (by omega)]
  simp
theorem preN_no (l : List Bool) (j : Nat) (h : j < l.length) (ht : l[j] = false) : preN l (j + 1) = preN l j := by
  unfold preN
  rw [List.take_succ_eq_append_getElem h, byteN_snoc, ht]
  simp
theorem preN_all (l : List Bool) (h : l.length ≤ 8) : preN l l.length = ((bB l).toNat : Int) := by
  rw [bB_toNat l h, preN, List.take_length]

end Go.Proofs.YtmjhgfkplolelaaGreat
/- impl.rowsOf, impl.flagsOf and laws.toBoolS by their contracts. -/
namespace Go.Proofs.YtmjhgfkplolelaaGreat.Kit
open Go.RowKit
/-- The first j flags are copiedB, the others are false yet. -/
def copiedB (j : Nat) (xs : List Bool) : List Bool := xs.take j ++ List.replicate (xs.length - j) false
theorem copied_lengthB (j : Nat) (xs : List Bool) (h : j ≤ xs.length) : (copiedB j xs).length = xs.length := by simp [copiedB]; omega
theorem copied_zeroB (xs : List Bool) : copiedB 0 xs = List.replicate xs.length false := by simp [copiedB]
theorem copied_allB (xs : List Bool) : copiedB xs.length xs = xs := by simp [copiedB]
theorem copied_cellB (j : Nat) (xs : List Bool) (h : j < xs.length) : (fc (copiedB j xs))[j]? = some (.bool false) := by
  unfold fc copiedB
  have e : (List.map (fun z => Value.bool z) (xs.take j)).length = j := by simp; omega
  rw [List.map_append, List.getElem?_append_right (by omega), e, Nat.sub_self, List.map_replicate, List.getElem?_replicate, if_pos (by omega)]
theorem copied_setB (j : Nat) (xs : List Bool) (h : j < xs.length) : (fc (copiedB j xs)).set j (.bool xs[j]) = fc (copiedB (j + 1) xs) := by
  have e : (copiedB j xs).set j xs[j] = copiedB (j + 1) xs := by
    unfold copiedB
    rw [List.set_append_right _ _ (by simp; omega), List.take_succ_eq_append_getElem h, List.length_take, Nat.min_eq_left (by omega), Nat.sub_self, show xs.length - j = (xs.length - (j + 1)) + 1 by omega, List.replicate_succ, List.set_cons_zero, List.append_assoc]
    rfl
  rw [← e]
  simp [fc, List.map_set]
theorem made_flags (w : World) (xs : List Bool) (h : xs.length ≤ 8388608) (e : TypeId) : ROwns (w.alloc (.cells (madeCells #[.bool false] xs.length) e)) w.heap.size e (.slice (some ⟨w.heap.size, 0, none⟩) xs.length xs.length) (fc (copiedB 0 xs)) := by
  have e1 : (madeCells #[.bool false] xs.length).toList = fc (copiedB 0 xs) := by rw [toList_madeCells_one, copied_zeroB]; simp [fc]
  have e2 : (madeCells #[.bool false] xs.length).size = xs.length := by rw [← Array.length_toList, e1, fc_length, copied_lengthB 0 xs (Nat.zero_le _)]
  have := ROwns.lit w w.heap.size e (madeCells #[.bool false] xs.length) (Nat.le_refl _) (by rw [e2]; unfold maxLen; omega)
  rwa [e1, e2] at this
/-- One more flag copiedB. -/
theorem copied_next {wr : World} {base g n : Nat} {e : TypeId} {j : Nat} {xs : List Bool} (hn : xs.length = n) (hj : j < n) (h : ROwns wr base e (.slice (some ⟨g, 0, none⟩) n n) (fc (copiedB j xs))) :
    ROwns (wr.setCell ⟨g, j, none⟩ (.bool (xs[j]'(by omega)))) base e (.slice (some ⟨g, 0, none⟩) n n) (fc (copiedB (j + 1) xs)) ∧ wr.cell? ⟨g, j, none⟩ = some (.bool false) ∧ wr.frozen? ⟨g, j, none⟩ = false ∧ g < wr.heap.size := by
  have hml : (fc (copiedB j xs)).length = n := by rw [fc_length, copied_lengthB j xs (by omega), hn]
  obtain ⟨g2, c2, e1, q2, q3, -, q5, -⟩ := h.at j (by omega)
  rw [copied_cellB j xs (by omega)] at q2
  simp only [Value.slice.injEq, Option.some.injEq, Addr.mk.injEq] at e1
  obtain ⟨⟨rfl, -, -⟩, -, rfl⟩ := e1
  have O1 : ROwns wr base e (.slice (some ⟨g, 0, none⟩) (fc (copiedB j xs)).length n) (fc (copiedB j xs)) := by rw [hml]; exact h
  have O2 := O1.stored j (.bool (xs[j]'(by omega)))
  rw [copied_setB j xs (by omega), hml] at O2
  exact ⟨O2.1, q2, q3, q5⟩
end Go.Proofs.YtmjhgfkplolelaaGreat.Kit
namespace Go.Proofs.YtmjhgfkplolelaaGreat
open Go.RowKit Kit
theorem Tryz.u22 : Tryz.prog.underlying 22 = some (.slice 4) := by kernel_rfl
theorem Tryz.i4 : (Tryz.prog.info? 4).map (fun i => (i.zero, i.size, i.bytes)) = some (some (.bool false), 1, 1) := by kernel_rfl
theorem make_fl (n : Nat) (h : n ≤ 8388608) (w : World) : (Instr.makeSlice 22 (.int .i64 (n : Int)) (.int .i64 (n : Int))).run Tryz.prog w = .ok (.slice (some ⟨w.heap.size, 0, none⟩) n n) (w.alloc (.cells (madeCells #[.bool false] n) 4)) :=
  run_make_row' 22 4 (.bool false) 1 Tryz.u22 Tryz.i4 rfl .i64 .i64 n (by omega) (by omega) w
theorem make_by (n : Nat) (h : n ≤ 8388608) (w : World) : (Instr.makeSlice 226 (.int .i64 (n : Int)) (.int .i64 (n : Int))).run Tryz.prog w = .ok (.slice (some ⟨w.heap.size, 0, none⟩) n n) (w.alloc (.cells (madeCells #[.int .u8 0] n) 5)) :=
  run_make_row' 226 5 (.int .u8 0) 1 Tryz.u226 Tryz.i5 rfl .i64 .i64 n (by omega) (by omega) w

set_option maxRecDepth 100000 in
set_option maxHeartbeats 1600000 in
theorem toB_anyB (v : Value) (xs : List Bool) (w : World) (hv : RFl w v xs) (hl : xs.length ≤ 1048576) :
    Calls Tryz.prog 55 #[v] w fun e w' => ∃ u, e = .returned u ∧ ROwns w' w.heap.size 4 u (fc xs) ∧ Below w.heap.size w w' := by
  obtain ⟨a, c, rfl, hc⟩ := hv
  have HC := hide hc
  clear hc
  have mk := make_fl xs.length (by omega)
  go_enter Tryz.func55, Tryz.ntmps55
  go_wp2
  go_loopw [4] (fun i wr => ∃ j : Nat, j ≤ xs.length ∧ i = .int .i64 j ∧ ROwns wr w.heap.size 4 (.slice (some ⟨w.heap.size, 0, none⟩) xs.length xs.length) (fc (copiedB j xs)) ∧ Below w.heap.size w wr) (fun i _ => xs.length - (intOf i).toNat)
  case atStart => exact ⟨0, Nat.zero_le _, rfl, made_flags w xs (by omega) 4, (Below.refl _ w).alloc (Nat.le_refl _) _⟩
  case round =>
    obtain ⟨j, hj, rfl, hown, hb⟩ := hrel
    by_cases hlt : j < xs.length
    · obtain ⟨g, off, rfl, hg, k1⟩ := HC.out j hlt
      have q1 : wr.cell? ⟨g, off + j, none⟩ = some (.bool xs[j]) := (hb.cell (p := ⟨g, off + j, none⟩) hg).trans k1
      obtain ⟨O2, q2, q3, q4⟩ := copied_next rfl hlt hown
      have HO := hide (And.intro O2 (hb.setCell (p := ⟨w.heap.size, j, none⟩) (Nat.le_refl _) (.bool xs[j])))
      obtain ⟨t, ht⟩ : ∃ t, xs[j] = t := ⟨_, rfl⟩
      rw [ht] at q1 HO
      have hne : ¬ g = w.heap.size := by omega
      have j0 : (0 : Int) ≤ (j : Int) := by omega
      have j1 : (j : Int) < (xs.length : Int) := by omega
      clear hown hb O2 ht k1 mk
      go_wp2
      go_roundw
      case rel => exact ⟨j + 1, by omega, by go_num, HO.out.1, HO.out.2⟩
      case measure => simp [intOf]; omega
    · have hjl : j = xs.length := by omega
      have HR := hide (And.intro hown hb)
      have HJ := hide hjl
      clear hown hb hjl mk
      go_wp2
      go_ret
      exact ⟨_, rfl, by have := HR.out.1; rwa [HJ.out, copied_allB] at this, HR.out.2⟩

end Go.Proofs.YtmjhgfkplolelaaGreat
/- Where bits lie, and laws.eqBits, laws.markBits, laws.heldBits by their contracts. -/
namespace Go.Proofs.YtmjhgfkplolelaaGreat.Kit
open Go.RowKit
/-- A variable of two cells lies in block b. -/
def AtP (T : TypeId) (w : World) (b : Nat) (u v : Value) : Prop := w.heap[b]? = some (.cells #[u, v] T (0, 0))
theorem AtP.lt {T : TypeId} {w : World} {b : Nat} {u v : Value} (h : AtP T w b u v) : b < w.heap.size := (Array.getElem?_eq_some_iff.1 h).1
theorem AtP.new (T : TypeId) (w : World) (u v : Value) : AtP T (w.alloc (.cells #[u, v] T)) w.heap.size u v := heap_new w _
theorem AtP.alloc {T : TypeId} {w : World} {b : Nat} {u v : Value} (h : AtP T w b u v) (o : Obj) : AtP T (w.alloc o) b u v := (Below.heap_alloc _ _ _ h.lt).trans h
theorem AtP.below {T : TypeId} {w w' : World} {b B : Nat} {u v : Value} (h : AtP T w b u v) (hb : Below B w w') (hB : b < B) : AtP T w' b u v := (hb.block b hB).trans h
theorem AtP.grown {T : TypeId} {w w' : World} {b : Nat} {u v : Value} {row : Option Nat} (h : AtP T w b u v) (hg : w.grownBy w' row) (hr : row ≠ some b) : AtP T w' b u v := (hg.block b h.lt (fun e => hr e.symm)).trans h
theorem AtP.cells {T : TypeId} {w : World} {b : Nat} {u v : Value} (h : AtP T w b u v) : w.cell? ⟨b, 0, none⟩ = some u ∧ w.cell? ⟨b, 1, none⟩ = some v := by
  have h' : w.heap[b]? = some (.cells #[u, v] T (0, 0)) := h
  exact ⟨by simp [World.cell?, h'], by simp [World.cell?, h']⟩
theorem AtP.frozen {T : TypeId} {w : World} {b : Nat} {u v : Value} (h : AtP T w b u v) : w.frozen? ⟨b, 0, none⟩ = false ∧ w.frozen? ⟨b, 1, none⟩ = false := by
  have h' : w.heap[b]? = some (.cells #[u, v] T (0, 0)) := h
  exact ⟨by simp [World.frozen?, h'], by simp [World.frozen?, h']⟩
theorem AtP.set_other {T : TypeId} {w : World} {b : Nat} {u v : Value} (h : AtP T w b u v) {B j : Nat} (hne : b ≠ B) (x : Value) : AtP T (w.setCell ⟨B, j, none⟩ x) b u v := (heap_setCell_other w ⟨B, j, none⟩ b x hne).trans h
theorem AtP.set0 {T : TypeId} {w : World} {b : Nat} {u v : Value} (h : AtP T w b u v) (x : Value) : AtP T (w.setCell ⟨b, 0, none⟩ x) b x v := heap_setCell_same w b 0 _ T x h
theorem AtP.set1 {T : TypeId} {w : World} {b : Nat} {u v : Value} (h : AtP T w b u v) (x : Value) : AtP T (w.setCell ⟨b, 1, none⟩ x) b u x := heap_setCell_same w b 1 _ T x h
theorem AtP.drew {T : TypeId} {w : World} {b : Nat} {u v : Value} (h : AtP T w b u v) : AtP T w.drew b u v := h
/-- Two slices own the flags xs and ys, each in a block of its own. -/
structure Two (w : World) (base : Nat) (u v : Value) (xs ys : List Bool) : Prop where
  a : ROwns w base 4 u (fc xs)
  b : ROwns w base 4 v (fc ys)
  ne : ∀ k, u.ownBlock = some k → v.ownBlock ≠ some k
namespace Two
variable {w w' : World} {base : Nat} {u v : Value} {xs ys : List Bool}
theorem alloc (h : Two w base u v xs ys) (o : Obj) : Two (w.alloc o) base u v xs ys := ⟨h.a.alloc o, h.b.alloc o, h.ne⟩
theorem drew (h : Two w base u v xs ys) : Two w.drew base u v xs ys := ⟨h.a.drew, h.b.drew, h.ne⟩
theorem below {B : Nat} (h : Two w base u v xs ys) (hb : Below B w w') (hB : w.heap.size ≤ B) : Two w' base u v xs ys := ⟨h.a.below hb hB, h.b.below hb hB, h.ne⟩
theorem base_le {base' : Nat} (h : Two w base u v xs ys) (hb : base' ≤ base) : Two w base' u v xs ys := ⟨h.a.base_le hb, h.b.base_le hb, h.ne⟩
theorem set_other (h : Two w base u v xs ys) {b j : Nat} (hp : b < base) (x : Value) : Two (w.setCell ⟨b, j, none⟩ x) base u v xs ys := ⟨h.a.setCell_other hp x, h.b.setCell_other hp x, h.ne⟩
theorem form (h : Two w base u v xs ys) : ∃ a1 c1 a2 c2, u = .slice a1 xs.length c1 ∧ v = .slice a2 ys.length c2 := by
  obtain ⟨a1, c1, e1⟩ := h.a.rfl.form
  obtain ⟨a2, c2, e2⟩ := h.b.rfl.form
  exact ⟨a1, c1, a2, c2, e1, e2⟩
theorem nil (w : World) (base : Nat) : Two w base (.slice none 0 0) (.slice none 0 0) [] [] := ⟨ROwns.nil _ _ _, ROwns.nil _ _ _, fun k h => by cases h⟩
end Two
/-- Of what was there two blocks alone may have turned. -/
structure G2 (w w' : World) (r1 r2 : Option Nat) : Prop where
  os : w'.os = w.os
  tape : w'.tape = w.tape
  output : w'.output = w.output
  size : w.heap.size ≤ w'.heap.size
  block : ∀ k, k < w.heap.size → r1 ≠ some k → r2 ≠ some k → w'.heap[k]? = w.heap[k]?
theorem AtP.g2 {T : TypeId} {w w' : World} {b : Nat} {u v : Value} {r1 r2 : Option Nat} (h : AtP T w b u v) (hg : G2 w w' r1 r2) (h1 : r1 ≠ some b) (h2 : r2 ≠ some b) : AtP T w' b u v := (hg.block b h.lt h1 h2).trans h
theorem Two.g2 {w w' : World} {base : Nat} {u v : Value} {xs ys : List Bool} {r1 r2 : Option Nat} (h : Two w base u v xs ys) (hg : G2 w w' r1 r2) (h1 : ∀ k, (u.ownBlock = some k ∨ v.ownBlock = some k) → r1 ≠ some k ∧ r2 ≠ some k) : Two w' base u v xs ys :=
  ⟨h.a.of_heap fun k hk => hg.block k (h.a.lt k hk).2 (h1 k (.inl hk)).1 (h1 k (.inl hk)).2, h.b.of_heap fun k hk => hg.block k (h.b.lt k hk).2 (h1 k (.inr hk)).1 (h1 k (.inr hk)).2, h.ne⟩
end Go.Proofs.YtmjhgfkplolelaaGreat.Kit
namespace Go.Proofs.YtmjhgfkplolelaaGreat
open Go.RowKit Kit

set_option maxHeartbeats 800000 in
theorem eqN_sameB (ua ub va vb : Value) (xs ys : List Bool) (w : World) (h1 : RFl w ua xs) (h2 : RFl w ub ys) (h3 : RFl w va xs) (h4 : RFl w vb ys) (hx : xs.length ≤ 1000000000) (hy : ys.length ≤ 1000000000) :
    Calls Tryz.prog 132 #[.agg #[ua, ub], .agg #[va, vb]] w fun e w' => e = .returned (.bool true) ∧ Below w.heap.size w w' := by
  obtain ⟨a1, c1, rfl⟩ := h1.form
  obtain ⟨a2, c2, rfl⟩ := h2.form
  obtain ⟨a3, c3, rfl⟩ := h3.form
  obtain ⟨a4, c4, rfl⟩ := h4.form
  have H1 := hide h1
  have H2 := hide h2
  have H3 := hide h3
  have H4 := hide h4
  clear h1 h2 h3 h4
  go_enter Tryz.func132, Tryz.ntmps132
  go_wp2_with fail
  refine (eqB_sameB _ _ xs _ ((H1.out.alloc _).alloc _) ((H3.out.alloc _).alloc _) hx).mono ?_
  rintro e w1 ⟨rfl, B1⟩
  have X1 : AtP 43 w1 w.heap.size (.slice a1 xs.length c1) (.slice a2 ys.length c2) := ((AtP.new 43 w _ _).alloc _).below B1 (by simp; omega)
  have X2 : AtP 43 w1 (w.heap.size + 1) (.slice a3 xs.length c3) (.slice a4 ys.length c4) := by
    have := (AtP.new 43 (w.alloc (.cells #[.slice a1 xs.length c1, .slice a2 ys.length c2] 43)) (.slice a3 xs.length c3) (.slice a4 ys.length c4)).below B1 (by simp)
    rwa [World.size_alloc] at this
  have b1 : Below w.heap.size w w1 := ((((Below.refl _ w).alloc (Nat.le_refl _) _).alloc (by simp) _).trans (B1.mono (by simp; omega)))
  have n2 : RFl w1 (.slice a2 ys.length c2) ys := ((H2.out.alloc _).alloc _).below B1 (Nat.le_refl _)
  have n4 : RFl w1 (.slice a4 ys.length c4) ys := ((H4.out.alloc _).alloc _).below B1 (Nat.le_refl _)
  obtain ⟨p0, p1⟩ := X1.cells
  obtain ⟨q0, q1⟩ := X2.cells
  have m1 := X1.lt
  have m2 := X2.lt
  have HB := hide b1
  have HN := hide (And.intro n2 n4)
  clear B1 X1 X2 b1 n2 n4 H1 H2 H3 H4
  go_wp2_with fail
  refine (eqB_sameB _ _ ys w1 HN.out.1 HN.out.2 hy).mono ?_
  rintro e w2 ⟨rfl, B2⟩
  have HB2 := hide (HB.out.trans (B2.mono HB.out.size))
  clear B2 HB HN
  go_wp2
  go_ret
  exact ⟨rfl, HB2.out⟩

end Go.Proofs.YtmjhgfkplolelaaGreat
/- Rows of structs of three cells, one of which is a slice with a block of its own: how they lie, how they are read. No Go function is spoken of. -/
namespace Go.Proofs.YtmjhgfkplolelaaGreat.Kit
open Go.RowKit
/-- Three cells. -/
abbrev V3 := Value × Value × Value
/-- Structs of three cells each, as cells. -/
def f3 : List V3 → List Value
  | [] => []
  | t :: r => t.1 :: t.2.1 :: t.2.2 :: f3 r
theorem f3_length (ts : List V3) : (f3 ts).length = ts.length * 3 := by
  induction ts with
  | nil => rfl
  | cons s r ih => simp [f3, ih]; omega
theorem f3_append (a b : List V3) : f3 (a ++ b) = f3 a ++ f3 b := by
  induction a with
  | nil => rfl
  | cons s r ih => simp [f3, ih]
theorem f3_at (ts : List V3) (j : Nat) (h : j < ts.length) : (f3 ts)[j * 3]? = some ts[j].1 ∧ (f3 ts)[j * 3 + 1]? = some ts[j].2.1 ∧ (f3 ts)[j * 3 + 2]? = some ts[j].2.2 := by
  induction ts generalizing j with
  | nil => simp at h
  | cons s r ih =>
    cases j with
    | zero => exact ⟨rfl, rfl, rfl⟩
    | succ j =>
      rw [show (j + 1) * 3 = j * 3 + 1 + 1 + 1 by omega, show j * 3 + 1 + 1 + 1 + 1 = j * 3 + 1 + 1 + 1 + 1 from rfl, show j * 3 + 1 + 1 + 1 + 2 = j * 3 + 2 + 1 + 1 + 1 by omega]
      simp only [f3, List.getElem?_cons_succ, List.getElem_cons_succ]
      exact ih j (by simpa using h)
theorem f3_set0 (ts : List V3) (j : Nat) (x : Value) (h : j < ts.length) : (f3 ts).set (j * 3) x = f3 (ts.set j (x, ts[j].2.1, ts[j].2.2)) := by
  induction ts generalizing j with
  | nil => simp at h
  | cons s r ih =>
    cases j with
    | zero => rfl
    | succ j =>
      rw [show (j + 1) * 3 = j * 3 + 1 + 1 + 1 by omega]
      simp only [f3, List.set_cons_succ, List.getElem_cons_succ]
      rw [ih j (by simpa using h)]
theorem f3_set1 (ts : List V3) (j : Nat) (x : Value) (h : j < ts.length) : (f3 ts).set (j * 3 + 1) x = f3 (ts.set j (ts[j].1, x, ts[j].2.2)) := by
  induction ts generalizing j with
  | nil => simp at h
  | cons s r ih =>
    cases j with
    | zero => rfl
    | succ j =>
      rw [show (j + 1) * 3 + 1 = j * 3 + 1 + 1 + 1 + 1 by omega]
      simp only [f3, List.set_cons_succ, List.getElem_cons_succ]
      rw [ih j (by simpa using h)]
theorem f3_set2 (ts : List V3) (j : Nat) (x : Value) (h : j < ts.length) : (f3 ts).set (j * 3 + 2) x = f3 (ts.set j (ts[j].1, ts[j].2.1, x)) := by
  induction ts generalizing j with
  | nil => simp at h
  | cons s r ih =>
    cases j with
    | zero => rfl
    | succ j =>
      rw [show (j + 1) * 3 + 2 = j * 3 + 2 + 1 + 1 + 1 by omega]
      simp only [f3, List.set_cons_succ, List.getElem_cons_succ]
      rw [ih j (by simpa using h)]
theorem f3_set (ts : List V3) (j : Nat) (x y z : Value) (h : j < ts.length) : (((f3 ts).set (j * 3) x).set (j * 3 + 1) y).set (j * 3 + 2) z = f3 (ts.set j (x, y, z)) := by
  rw [f3_set0 ts j x h, f3_set1 _ j y (by simpa using h), f3_set2 _ j z (by simpa using h)]
  simp
/-- The slice value v owns the structs ts (element type e). -/
def TOwns (w : World) (e : TypeId) (v : Value) (ts : List V3) : Prop := w.ownsRow 0 e 3 v ts.length (f3 ts)
theorem TOwns.lt {w : World} {e : TypeId} {v : Value} {l : List V3} (h : TOwns w e v l) : ∀ k, v.ownBlock = some k → k < w.heap.size := fun k hk => (World.ownsRow.lt h k hk).2
theorem TOwns.of_heap {w w' : World} {e : TypeId} {v : Value} {l : List V3} (h : TOwns w e v l) (hh : ∀ k, v.ownBlock = some k → w'.heap[k]? = w.heap[k]?) : TOwns w' e v l := by
  refine ⟨h.1, ?_⟩
  rcases h.2 with h1 | ⟨g, cap, cur, h1, h2, h3, h4⟩
  · exact .inl h1
  · exact .inr ⟨g, cap, cur, h1, h2, by rw [hh g (by rw [h1]; rfl), h3], h4⟩
theorem TOwns.nil (w : World) (e : TypeId) : TOwns w e (.slice none 0 0) [] := World.ownsRow_nil _ _ _ _
theorem TOwns.lit (w : World) (e : TypeId) (cs : Array Value) (ts : List V3) (hc : cs.toList = f3 ts) (hm : ts.length ≤ maxLen) : TOwns (w.alloc (.cells cs e)) e (.slice (some ⟨w.heap.size, 0, none⟩) ts.length ts.length) ts := by
  have h1 : cs.size = ts.length * 3 := by rw [← Array.length_toList, hc, f3_length]
  have := World.ownsRow_lit (base := 0) (e := e) (size := 3) w cs ts.length (Nat.zero_le _) hm h1
  unfold TOwns
  rwa [hc] at this
theorem TOwns.form {w : World} {e : TypeId} {v : Value} {l : List V3} (h : TOwns w e v l) : ∃ a cap, v = .slice a l.length cap ∧ l.length ≤ cap ∧ (a = none → l = []) := by
  rcases h.2 with ⟨rfl, h0⟩ | ⟨g, cap, cur, rfl, _, _, hc, _⟩
  · exact ⟨none, 0, by rw [h0], by omega, fun _ => List.length_eq_zero_iff.1 h0⟩
  · exact ⟨_, _, rfl, hc, fun h => by cases h⟩
theorem TOwns.at {w : World} {e : TypeId} {v : Value} {l : List V3} (h : TOwns w e v l) (k : Nat) (hk : k < l.length) :
    ∃ g cap, v = .slice (some ⟨g, 0, none⟩) l.length cap ∧ w.cell? ⟨g, k * 3, none⟩ = some l[k].1 ∧ w.cell? ⟨g, k * 3 + 1, none⟩ = some l[k].2.1 ∧ w.cell? ⟨g, k * 3 + 2, none⟩ = some l[k].2.2 ∧ (∀ j, w.frozen? ⟨g, j, none⟩ = false) ∧ g < w.heap.size ∧ l.length ≤ cap := by
  have hlt := h.lt
  rcases h.2 with ⟨h1, h0⟩ | ⟨g, cap, cur, rfl, h2, h3, h4, h5, h6, h7⟩
  · omega
  · have h' : w.ownsRow 0 e 3 (.slice (some ⟨g, 0, none⟩) l.length cap) l.length (f3 l) := h
    exact ⟨g, cap, rfl, (h'.cellAt _ (by omega)).trans (f3_at l k hk).1, (h'.cellAt _ (by omega)).trans (f3_at l k hk).2.1, (h'.cellAt _ (by omega)).trans (f3_at l k hk).2.2, h'.frozenAt, hlt g rfl, h4⟩
theorem TOwns.set0 {w : World} {g cap : Nat} {e : TypeId} {l : List V3} (h : TOwns w e (.slice (some ⟨g, 0, none⟩) l.length cap) l) (k : Nat) (hk : k < l.length) (x : Value) :
    TOwns (w.setCell ⟨g, k * 3, none⟩ x) e (.slice (some ⟨g, 0, none⟩) l.length cap) (l.set k (x, l[k].2.1, l[k].2.2)) := by
  unfold TOwns
  rw [List.length_set, ← f3_set0 l k x hk]
  exact (World.ownsRow.stored h (k * 3) x).1
theorem TOwns.set1 {w : World} {g cap : Nat} {e : TypeId} {l : List V3} (h : TOwns w e (.slice (some ⟨g, 0, none⟩) l.length cap) l) (k : Nat) (hk : k < l.length) (x : Value) :
    TOwns (w.setCell ⟨g, k * 3 + 1, none⟩ x) e (.slice (some ⟨g, 0, none⟩) l.length cap) (l.set k (l[k].1, x, l[k].2.2)) := by
  unfold TOwns
  rw [List.length_set, ← f3_set1 l k x hk]
  exact (World.ownsRow.stored h (k * 3 + 1) x).1
theorem TOwns.set2 {w : World} {g cap : Nat} {e : TypeId} {l : List V3} (h : TOwns w e (.slice (some ⟨g, 0, none⟩) l.length cap) l) (k : Nat) (hk : k < l.length) (x : Value) :
    TOwns (w.setCell ⟨g, k * 3 + 2, none⟩ x) e (.slice (some ⟨g, 0, none⟩) l.length cap) (l.set k (l[k].1, l[k].2.1, x)) := by
  unfold TOwns
  rw [List.length_set, ← f3_set2 l k x hk]
  exact (World.ownsRow.stored h (k * 3 + 2) x).1
theorem TOwns.set {w : World} {g cap : Nat} {e : TypeId} {l : List V3} (h : TOwns w e (.slice (some ⟨g, 0, none⟩) l.length cap) l) (k : Nat) (hk : k < l.length) (x y z : Value) :
    TOwns (((w.setCell ⟨g, k * 3, none⟩ x).setCell ⟨g, k * 3 + 1, none⟩ y).setCell ⟨g, k * 3 + 2, none⟩ z) e (.slice (some ⟨g, 0, none⟩) l.length cap) (l.set k (x, y, z)) := by
  have h1 := h.set0 k hk x
  have h2 : TOwns (w.setCell ⟨g, k * 3, none⟩ x) e (.slice (some ⟨g, 0, none⟩) (l.set k (x, l[k].2.1, l[k].2.2)).length cap) (l.set k (x, l[k].2.1, l[k].2.2)) := by rw [List.length_set]; exact h1
  have h3 := h2.set1 k (by simpa using hk) y
  simp only [List.length_set, List.getElem_set_self, List.set_set] at h3
  have h4 : TOwns ((w.setCell ⟨g, k * 3, none⟩ x).setCell ⟨g, k * 3 + 1, none⟩ y) e (.slice (some ⟨g, 0, none⟩) (l.set k (x, y, l[k].2.2)).length cap) (l.set k (x, y, l[k].2.2)) := by rw [List.length_set]; exact h3
  have h5 := h4.set2 k (by simpa using hk) z
  simp only [List.length_set, List.getElem_set_self, List.set_set] at h5
  exact h5
/-- Only blocks of S have changed, and new ones have come. -/
structure Chg (S : Nat → Prop) (w w' : World) : Prop where
  os : w'.os = w.os
  tape : w'.tape = w.tape
  output : w'.output = w.output
  size : w.heap.size ≤ w'.heap.size
  block : ∀ k, k < w.heap.size → ¬ S k → w'.heap[k]? = w.heap[k]?
theorem Chg.refl (S : Nat → Prop) (w : World) : Chg S w w := ⟨rfl, rfl, rfl, Nat.le_refl _, fun _ _ _ => rfl⟩
theorem Chg.trans {S : Nat → Prop} {a b c : World} (h : Chg S a b) (k : Chg S b c) : Chg S a c :=
  ⟨k.os.trans h.os, k.tape.trans h.tape, k.output.trans h.output, Nat.le_trans h.size k.size, fun i hi hr => (k.block i (by have := h.size; omega) hr).trans (h.block i hi hr)⟩
theorem Chg.mono {S S' : Nat → Prop} {a b : World} (h : Chg S a b) (hs : ∀ k, S k → S' k) : Chg S' a b := ⟨h.os, h.tape, h.output, h.size, fun k hk hn => h.block k hk fun e => hn (hs k e)⟩
theorem Chg.of_below {S : Nat → Prop} {a b : World} (h : Below a.heap.size a b) : Chg S a b := ⟨h.os, h.tape, h.output, h.size, fun k hk _ => h.block k hk⟩
theorem Chg.of_grown {S : Nat → Prop} {a b : World} {row : Option Nat} (h : a.grownBy b row) (hr : ∀ k, row = some k → S k) : Chg S a b := ⟨h.os, h.tape, h.output, h.size, fun k hk hn => h.block k hk fun e => hn (hr k e.symm)⟩
theorem Chg.of_g2 {S : Nat → Prop} {a b : World} {r1 r2 : Option Nat} (h : G2 a b r1 r2) (h1 : ∀ k, r1 = some k → S k) (h2 : ∀ k, r2 = some k → S k) : Chg S a b := ⟨h.os, h.tape, h.output, h.size, fun k hk hn => h.block k hk (fun e => hn (h1 k e)) (fun e => hn (h2 k e))⟩
theorem Chg.below {S : Nat → Prop} {a b : World} {B : Nat} (h : Chg S a b) (hB : B ≤ a.heap.size) (hs : ∀ k, S k → B ≤ k) : Below B a b :=
  ⟨h.os, h.tape, h.output, h.size, fun k hk => h.block k (by omega) fun e => by have := hs k e; omega⟩
theorem Chg.setCell {S : Nat → Prop} {a b : World} (h : Chg S a b) {g j : Nat} (hg : S g) (x : Value) : Chg S a (b.setCell ⟨g, j, none⟩ x) :=
  h.trans ⟨rfl, rfl, rfl, by simp, fun k _ hn => heap_setCell_other b ⟨g, j, none⟩ k x (fun e => hn (by simp at e; subst e; exact hg))⟩
/-- A kind of structs of three cells: which of the cells is the slice, how it is owned, how it is read. -/
structure Kd (α : Type) where
  T : TypeId
  p : V3 → Value
  O : World → V3 → α → Prop
  R : World → V3 → α → Prop
  heap : ∀ {w w' : World} {t : V3} {x : α}, O w t x → (∀ k, (p t).ownBlock = some k → w'.heap[k]? = w.heap[k]?) → O w' t x
  lt : ∀ {w : World} {t : V3} {x : α}, O w t x → ∀ k, (p t).ownBlock = some k → k < w.heap.size
  rd : ∀ {w : World} {t : V3} {x : α}, O w t x → R w t x
  bel : ∀ {w w' : World} {t : V3} {x : α} {B : Nat}, R w t x → Below B w w' → w.heap.size ≤ B → R w' t x
/-- The slice value v owns the structs ts, which tell xs; all blocks of it are of S. -/
structure GO {α : Type} (K : Kd α) (w : World) (S : Nat → Prop) (v : Value) (ts : List V3) (xs : List α) : Prop where
  len : ts.length = xs.length
  row : TOwns w K.T v ts
  inn : ∀ (j : Nat) (h : j < ts.length) (h' : j < xs.length), K.O w ts[j] xs[j]
  sep : ∀ (i j : Nat) (hi : i < ts.length) (hj : j < ts.length), i ≠ j → ∀ k, (K.p ts[i]).ownBlock = some k → (K.p ts[j]).ownBlock ≠ some k
  out : ∀ (j : Nat) (h : j < ts.length) (k : Nat), (K.p ts[j]).ownBlock = some k → v.ownBlock ≠ some k
  so : ∀ k, v.ownBlock = some k → S k
  si : ∀ (j : Nat) (h : j < ts.length) (k : Nat), (K.p ts[j]).ownBlock = some k → S k
namespace GO
variable {α : Type} {K : Kd α} {w w' : World} {S S' : Nat → Prop} {v : Value} {ts : List V3} {xs : List α}
theorem of_heap (h : GO K w S v ts xs) (hh : ∀ k, S k → k < w.heap.size → w'.heap[k]? = w.heap[k]?) : GO K w' S v ts xs :=
  ⟨h.len, h.row.of_heap fun k hk => hh k (h.so k hk) (h.row.lt k hk), fun j hj hj' => K.heap (h.inn j hj hj') fun k hk => hh k (h.si j hj k hk) (K.lt (h.inn j hj hj') k hk), h.sep, h.out, h.so, h.si⟩
theorem below {B : Nat} (h : GO K w S v ts xs) (hb : Below B w w') (hB : w.heap.size ≤ B) : GO K w' S v ts xs := h.of_heap fun k _ hk => hb.block k (by omega)
theorem chg (h : GO K w S v ts xs) (hc : Chg S' w w') (hd : ∀ k, S k → ¬ S' k) : GO K w' S v ts xs := h.of_heap fun k hs hk => hc.block k hk (hd k hs)
theorem alloc (h : GO K w S v ts xs) (o : Obj) : GO K (w.alloc o) S v ts xs := h.below ((Below.refl _ w).alloc (Nat.le_refl _) o) (Nat.le_refl _)
theorem drew (h : GO K w S v ts xs) : GO K w.drew S v ts xs := h.below (Below.refl w.heap.size w).drew (Nat.le_refl _)
theorem mono (h : GO K w S v ts xs) (hs : ∀ k, S k → S' k) : GO K w S' v ts xs := ⟨h.len, h.row, h.inn, h.sep, h.out, fun k e => hs k (h.so k e), fun j hj k e => hs k (h.si j hj k e)⟩
theorem form (h : GO K w S v ts xs) : ∃ a cap, v = .slice a xs.length cap := by
  obtain ⟨a, c, e, _⟩ := h.row.form
  exact ⟨a, c, by rw [e, h.len]⟩
/-- One of them is turned to another; its slice is the old one, or a new one. -/
theorem turn (h : GO K w S v ts xs) (j : Nat) (hj : j < ts.length) (t' : V3) (x' : α) (hr : TOwns w' K.T v (ts.set j t')) (hO : K.O w' t' x')
    (hf : ∀ k, k < w.heap.size → v.ownBlock ≠ some k → (K.p ts[j]).ownBlock ≠ some k → w'.heap[k]? = w.heap[k]?)
    (hn : ∀ k, (K.p t').ownBlock = some k → (K.p ts[j]).ownBlock = some k ∨ w.heap.size ≤ k) (hs : ∀ k, S k → S' k) (hs2 : ∀ k, (K.p t').ownBlock = some k → S' k) : GO K w' S' v (ts.set j t') (xs.set j x') := by
  have hl := h.len
  have hv := h.row.lt
  refine ⟨by simp [hl], hr, fun i hi hi' => ?_, fun i i2 hi hi2 hne k e1 e2 => ?_, fun i hi k e1 e2 => ?_, fun k e => hs k (h.so k e), fun i hi k e => ?_⟩
  · simp only [List.length_set] at hi hi'
    by_cases e : j = i
    · subst e
      simp only [List.getElem_set_self]
      exact hO
    · simp only [List.getElem_set_ne e]
      exact K.heap (h.inn i hi hi') fun k hk => hf k (K.lt (h.inn i hi hi') k hk) (fun e' => h.out i hi k hk e') (fun e' => h.sep i j hi hj (fun q => e q.symm) k hk e')
  · simp only [List.length_set] at hi hi2
    by_cases ei : j = i
    · subst ei
      simp only [List.getElem_set_self] at e1
      rw [List.getElem_set_ne hne] at e2
      rcases hn k e1 with q | q
      · exact h.sep j i2 hi hi2 hne k q e2
      · have := K.lt (h.inn i2 hi2 (by omega)) k e2; omega
    · rw [List.getElem_set_ne ei] at e1
      by_cases e2' : j = i2
      · subst e2'
        simp only [List.getElem_set_self] at e2
        rcases hn k e2 with q | q
        · exact h.sep i j hi hj hne k e1 q
        · have := K.lt (h.inn i hi (by omega)) k e1; omega
      · rw [List.getElem_set_ne e2'] at e2
        exact h.sep i i2 hi hi2 hne k e1 e2
  · simp only [List.length_set] at hi
    by_cases ei : j = i
    · subst ei
      simp only [List.getElem_set_self] at e1
      rcases hn k e1 with q | q
      · exact h.out j hi k q e2
      · have := hv k e2; omega
    · rw [List.getElem_set_ne ei] at e1
      exact h.out i hi k e1 e2
  · simp only [List.length_set] at hi
    by_cases ei : j = i
    · subst ei
      simp only [List.getElem_set_self] at e
      exact hs2 k e
    · rw [List.getElem_set_ne ei] at e
      exact hs k (h.si i hi k e)
end GO
/-- The slice value v reads as the structs xs. -/
def R3 {α : Type} (K : Kd α) (w : World) (v : Value) (xs : List α) : Prop := ∃ a cap, v = .slice a xs.length cap ∧ xs.length ≤ cap ∧ ∀ (j : Nat) (h : j < xs.length), ∃ g off t, a = some ⟨g, off, none⟩ ∧ g < w.heap.size ∧ w.cell? ⟨g, off + j * 3, none⟩ = some t.1 ∧ w.cell? ⟨g, off + j * 3 + 1, none⟩ = some t.2.1 ∧ w.cell? ⟨g, off + j * 3 + 2, none⟩ = some t.2.2 ∧ K.R w t xs[j]
theorem R3.below {α : Type} {K : Kd α} {w w' : World} {B : Nat} {v : Value} {xs : List α} (h : R3 K w v xs) (hb : Below B w w') (hB : w.heap.size ≤ B) : R3 K w' v xs := by
  obtain ⟨a, cap, rfl, hcap, h⟩ := h
  refine ⟨a, cap, rfl, hcap, fun j hj => ?_⟩
  obtain ⟨g, off, t, e, hg, c0, c1, c2, r⟩ := h j hj
  have hg' := Nat.lt_of_lt_of_le hg hB
  exact ⟨g, off, t, e, Nat.lt_of_lt_of_le hg hb.size, (hb.cell (p := ⟨g, off + j * 3, none⟩) hg').trans c0, (hb.cell (p := ⟨g, off + j * 3 + 1, none⟩) hg').trans c1, (hb.cell (p := ⟨g, off + j * 3 + 2, none⟩) hg').trans c2, K.bel r hb hB⟩
theorem R3.alloc {α : Type} {K : Kd α} {w : World} {v : Value} {xs : List α} (h : R3 K w v xs) (o : Obj) : R3 K (w.alloc o) v xs := h.below ((Below.refl _ w).alloc (Nat.le_refl _) o) (Nat.le_refl _)
theorem R3.drew {α : Type} {K : Kd α} {w : World} {v : Value} {xs : List α} (h : R3 K w v xs) : R3 K w.drew v xs := h.below (Below.refl w.heap.size w).drew (Nat.le_refl _)
theorem R3.form {α : Type} {K : Kd α} {w : World} {v : Value} {xs : List α} (h : R3 K w v xs) : ∃ a c, v = .slice a xs.length c := by
  obtain ⟨a, c, h, _⟩ := h
  exact ⟨a, c, h⟩
theorem R3.form2 {α : Type} {K : Kd α} {w : World} {v : Value} {xs : List α} (h : R3 K w v xs) : ∃ a c, v = .slice a xs.length c ∧ xs.length ≤ c := by
  obtain ⟨a, c, h, h2, _⟩ := h
  exact ⟨a, c, h, h2⟩
theorem GO.r3 {α : Type} {K : Kd α} {w : World} {S : Nat → Prop} {v : Value} {ts : List V3} {xs : List α} (h : GO K w S v ts xs) : R3 K w v xs := by
  obtain ⟨a, cap, e, hc, hnil⟩ := h.row.form
  have hl := h.len
  refine ⟨a, cap, by rw [e, hl], by omega, fun j hj => ?_⟩
  obtain ⟨g, c, e1, c0, c1, c2, _, hg, _⟩ := h.row.at j (by omega)
  rw [e] at e1
  simp only [Value.slice.injEq] at e1
  obtain ⟨rfl, -, -⟩ := e1
  exact ⟨g, 0, ts[j]'(by omega), rfl, hg, by rw [Nat.zero_add]; exact c0, by rw [Nat.zero_add]; exact c1, by rw [Nat.zero_add]; exact c2, K.rd (h.inn j (by omega) hj)⟩
/-- An inode: its kind, its links, its pointers. -/
abbrev Ino := Int × Int × List Int
/-- A block: whether it has names, its slots, its text. -/
abbrev Blk := Bool × List Sl × ByteArray
/-- How inodes lie. -/
def KI : Kd Ino where
  T := 81
  p := fun t => t.2.2
  O := fun w t x => t.1 = .int .i64 x.1 ∧ t.2.1 = .int .i64 x.2.1 ∧ ROwns w 0 3 t.2.2 (ic x.2.2)
  R := fun w t x => t.1 = .int .i64 x.1 ∧ t.2.1 = .int .i64 x.2.1 ∧ RInts w t.2.2 x.2.2
  heap := fun h hh => ⟨h.1, h.2.1, h.2.2.of_heap hh⟩
  lt := fun h k hk => (h.2.2.lt k hk).2
  rd := fun h => ⟨h.1, h.2.1, h.2.2.rints⟩
  bel := fun h hb hB => ⟨h.1, h.2.1, h.2.2.below hb hB⟩
/-- How blocks lie. -/
def KB : Kd Blk where
  T := 101
  p := fun t => t.2.1
  O := fun w t x => t.1 = .bool x.1 ∧ SOwns w 0 137 t.2.1 x.2.1 ∧ t.2.2 = .string x.2.2
  R := fun w t x => t.1 = .bool x.1 ∧ RSl w t.2.1 x.2.1 ∧ t.2.2 = .string x.2.2
  heap := fun h hh => ⟨h.1, h.2.1.of_heap hh, h.2.2⟩
  lt := fun h k hk => (h.2.1.lt k hk).2
  rd := fun h => ⟨h.1, h.2.1.rsl, h.2.2⟩
  bel := fun h hb hB => ⟨h.1, h.2.1.below hb hB, h.2.2⟩
end Go.Proofs.YtmjhgfkplolelaaGreat.Kit
/- spec.BitsNew, impl.BitsNew, spec.BitsOk and impl.BitsOk by their contracts. -/
namespace Go.Proofs.YtmjhgfkplolelaaGreat
open Go.RowKit Kit
theorem made_eq (z : Value) (n : Nat) (l : List Value) (h : List.replicate n z = l) : madeCells #[z] n = l.toArray := Array.toList_inj.1 (by rw [toList_madeCells_one, h])
/-- Sixteen cells that are false. -/
def fl16 : Array Value := (fc (List.replicate 16 false)).toArray
theorem make16 (w : World) : (Instr.makeSlice 22 (.int .i64 16) (.int .i64 16)).run Tryz.prog w = .ok (.slice (some ⟨w.heap.size, 0, none⟩) 16 16) (w.alloc (.cells fl16 4)) := by
  have := make_fl 16 (by decide) w
  rw [made_eq _ 16 (fc (List.replicate 16 false)) (by simp [fc])] at this
  exact this
theorem make8 (w : World) : (Instr.makeSlice 22 (.int .i64 8) (.int .i64 8)).run Tryz.prog w = .ok (.slice (some ⟨w.heap.size, 0, none⟩) 8 8) (w.alloc (.cells #[.bool false, .bool false, .bool false, .bool false, .bool false, .bool false, .bool false, .bool false] 4)) := by
  have := make_fl 8 (by decide) w
  rw [made_eq _ 8 [.bool false, .bool false, .bool false, .bool false, .bool false, .bool false, .bool false, .bool false] rfl] at this
  exact this
/-- The flags of new bits. -/
def newX : List Bool := List.replicate 16 false
def newY : List Bool := true :: List.replicate 7 false
theorem two_new (W : World) (base gx gy : Nat) (h1 : W.heap[gx]? = some (.cells fl16 4 (0, 0))) (h2 : W.heap[gy]? = some (.cells #[.bool true, .bool false, .bool false, .bool false, .bool false, .bool false, .bool false, .bool false] 4 (0, 0))) (hx : base ≤ gx) (hy : base ≤ gy) (hne : gx ≠ gy) :
    Two W base (.slice (some ⟨gx, 0, none⟩) 16 16) (.slice (some ⟨gy, 0, none⟩) 8 8) newX newY := by
  refine ⟨⟨by simp [fc, newX], .inr ⟨gx, 16, _, by simp [fc, newX], hx, h1, ?_, ?_, ?_, ?_⟩⟩, ⟨by simp [fc, newY], .inr ⟨gy, 8, _, by simp [fc, newY], hy, h2, ?_, ?_, ?_, ?_⟩⟩, fun k e1 e2 => ?_⟩
  · simp [fc, newX]
  · unfold maxLen; decide
  · simp [fl16, fc]
  · simp [fl16, fc, newX]
  · simp [fc, newY]
  · unfold maxLen; decide
  · simp
  · simp [fc, newY]
  · simp only [Value.ownBlock, Option.some.injEq] at e1 e2
    omega

theorem heap4 (w : World) (a b c d : Obj) : ((((w.alloc a).alloc b).alloc c).alloc d).drew.heap[w.heap.size + 1]? = some b ∧ ((((w.alloc a).alloc b).alloc c).alloc d).drew.heap[w.heap.size + 1 + 1]? = some c ∧ ((((w.alloc a).alloc b).alloc c).alloc d).drew.heap[w.heap.size + 1 + 1 + 1]? = some d := by
  have e1 := heap_new (w.alloc a) b
  have e2 := heap_new ((w.alloc a).alloc b) c
  have e3 := heap_new (((w.alloc a).alloc b).alloc c) d
  rw [World.size_alloc] at e1
  rw [World.size_alloc, World.size_alloc] at e2
  rw [World.size_alloc, World.size_alloc, World.size_alloc] at e3
  exact ⟨((Below.heap_alloc _ _ _ (by simp)).trans ((Below.heap_alloc _ _ _ (by simp)).trans e1)), (Below.heap_alloc _ _ _ (by simp)).trans e2, e3⟩

/-- Bits of n blocks and m inodes are right. -/
def okB (n m : Nat) : Bool := decide (n = 16) && decide (m = 8)
theorem okB_true {n m : Nat} (h : okB n m = true) : n = 16 ∧ m = 8 := by simpa [okB] using h

set_option maxHeartbeats 800000 in
theorem specOk_anyB (a1 a2 : Option Addr) (n m c1 c2 : Nat) (w : World) :
    Calls Tryz.prog 47 #[.agg #[.slice a1 n c1, .slice a2 m c2]] w fun e w' => e = .returned (.bool (okB n m)) ∧ Below w.heap.size w w' := by
  by_cases h1 : n = 16
  · by_cases h2 : m = 8
    · subst h1 h2
      go_enter Tryz.func47, Tryz.ntmps47
      go_wp2
      go_ret
      exact ⟨rfl, by go_grown⟩
    · subst h1
      have q : ((m : Int) == 8) = false := by simp; omega
      rw [show okB 16 m = false by simp [okB, h2]]
      go_enter Tryz.func47, Tryz.ntmps47
      go_wp2
      go_ret
      exact ⟨rfl, by go_grown⟩
  · have q : ((n : Int) == 16) = false := by simp; omega
    rw [show okB n m = false by simp [okB, h1]]
    go_enter Tryz.func47, Tryz.ntmps47
    go_wp2
    go_ret
    exact ⟨rfl, by go_grown⟩
set_option maxHeartbeats 800000 in
theorem implOk_anyB (a1 a2 : Option Addr) (n m c1 c2 : Nat) (w : World) :
    Calls Tryz.prog 94 #[.agg #[.slice a1 n c1, .slice a2 m c2]] w fun e w' => e = .returned (.bool (okB n m)) ∧ Below w.heap.size w w' := by
  by_cases h1 : n = 16
  · by_cases h2 : m = 8
    · subst h1 h2
      go_enter Tryz.func94, Tryz.ntmps94
      go_wp2
      go_ret
      exact ⟨rfl, by go_grown⟩
    · subst h1
      have q : ((m : Int) == 8) = false := by simp; omega
      rw [show okB 16 m = false by simp [okB, h2]]
      go_enter Tryz.func94, Tryz.ntmps94
      go_wp2
      go_ret
      exact ⟨rfl, by go_grown⟩
  · have q : ((n : Int) == 16) = false := by simp; omega
    rw [show okB n m = false by simp [okB, h1]]
    go_enter Tryz.func94, Tryz.ntmps94
    go_wp2
    go_ret
    exact ⟨rfl, by go_grown⟩
end Go.Proofs.YtmjhgfkplolelaaGreat
/- laws.szBits and laws.toBits by their contracts. -/
namespace Go.Proofs.YtmjhgfkplolelaaGreat
open Go.RowKit Kit

set_option maxHeartbeats 800000 in
theorem szN_inB (a1 a2 : Option Addr) (n m c1 c2 : Nat) (w : World) (h : n + m ≤ 1048576) :
    Calls Tryz.prog 80 #[.agg #[.slice a1 n c1, .slice a2 m c2], .int .i64 1048576] w fun e w' => e = .returned (.int .i64 (1048576 - (n : Int) - (m : Int))) ∧ Below w.heap.size w w' := by
  go_enter Tryz.func80, Tryz.ntmps80
  go_wp2
  go_ret
  exact ⟨rfl, by go_grown⟩
set_option maxHeartbeats 800000 in
theorem szN_outB (a1 a2 : Option Addr) (n m c1 c2 : Nat) (w : World) (h : ¬ n + m ≤ 1048576) (h1 : n ≤ maxLen) (h2 : m ≤ maxLen) :
    Calls Tryz.prog 80 #[.agg #[.slice a1 n c1, .slice a2 m c2], .int .i64 1048576] w fun e w' => e = .returned (.int .i64 (-1)) ∧ Below w.heap.size w w' := by
  have h3 : n ≤ 9223372036854775807 := h1
  have h4 : m ≤ 9223372036854775807 := h2
  clear h1 h2
  by_cases hn : n ≤ 1048576
  · go_enter Tryz.func80, Tryz.ntmps80
    go_wp2
    go_ret
    exact ⟨rfl, by go_grown⟩
  · go_enter Tryz.func80, Tryz.ntmps80
    go_wp2
    go_ret
    exact ⟨rfl, by go_grown⟩

set_option maxHeartbeats 1600000 in
theorem toN_anyB (u v : Value) (xs ys : List Bool) (w : World) (hu : RFl w u xs) (hv : RFl w v ys) (hx : xs.length ≤ 1048576) (hy : ys.length ≤ 1048576) :
    Calls Tryz.prog 87 #[.agg #[u, v]] w fun e w' => ∃ u' v', e = .returned (.agg #[u', v']) ∧ Two w' w.heap.size u' v' xs ys ∧ Below w.heap.size w w' := by
  have HU := hide hu
  have HV := hide hv
  obtain ⟨a, c, rfl, -⟩ := hu
  obtain ⟨a2, c2, rfl, -⟩ := hv
  go_enter Tryz.func87, Tryz.ntmps87
  go_wp2_with fail
  refine (toB_anyB _ xs _ (((HU.out.alloc _).alloc _).alloc _) hx).mono ?_
  rintro e w1 ⟨u1, rfl, O1, B1⟩
  obtain ⟨s1, t1, rfl⟩ := O1.rfl.form
  have K0 : AtP 24 w1 w.heap.size (.slice a xs.length c) (.slice a2 ys.length c2) := (((AtP.new 24 w _ _).alloc _).alloc _).below B1 (by simp; omega)
  have K1 : AtP 43 w1 (w.heap.size + 1) (.slice none 0 0) (.slice none 0 0) := by
    have := ((AtP.new 43 (w.alloc (Obj.cells #[.slice a xs.length c, .slice a2 ys.length c2] 24)) (.slice none 0 0) (.slice none 0 0)).alloc (Obj.cells #[.slice none 0 0, .slice none 0 0] 43)).below B1 (by simp)
    rwa [World.size_alloc] at this
  have K2 : AtP 43 w1 (w.heap.size + 1 + 1) (.slice none 0 0) (.slice none 0 0) := by
    have := (AtP.new 43 ((w.alloc (Obj.cells #[.slice a xs.length c, .slice a2 ys.length c2] 24)).alloc (Obj.cells #[.slice none 0 0, .slice none 0 0] 43)) (.slice none 0 0) (.slice none 0 0)).below B1 (by simp)
    rwa [World.size_alloc, World.size_alloc] at this
  have B2 : Below w.heap.size w w1 := ((((Below.refl _ w).alloc (Nat.le_refl _) _).alloc (by simp) _).alloc (by simp; omega) _).trans (B1.mono (by simp; omega))
  have V1 : RFl w1 (.slice a2 ys.length c2) ys := (((HV.out.alloc _).alloc _).alloc _).below B1 (Nat.le_refl _)
  have O2 : ROwns w1 (w.heap.size + 1 + 1 + 1) 4 (.slice s1 xs.length t1) (fc xs) := O1.base_le (by simp)
  obtain ⟨p0, p1⟩ := K2.cells
  obtain ⟨f0, f1⟩ := K2.frozen
  have m1 := K2.lt
  -- behind the store
  have K0' := K0.set_other (B := w.heap.size + 1 + 1) (j := 0) (by omega) (.slice s1 xs.length t1)
  have K1' := K1.set_other (B := w.heap.size + 1 + 1) (j := 0) (by omega) (.slice s1 xs.length t1)
  have K2' := K2.set0 (.slice s1 xs.length t1)
  have O2' := O2.setCell_other (b := w.heap.size + 1 + 1) (j := 0) (by omega) (.slice s1 xs.length t1)
  have B2' := B2.setCell (p := ⟨w.heap.size + 1 + 1, 0, none⟩) (by show w.heap.size ≤ w.heap.size + 1 + 1; omega) (.slice s1 xs.length t1)
  have V1' : RFl (w1.setCell ⟨w.heap.size + 1 + 1, 0, none⟩ (.slice s1 xs.length t1)) (.slice a2 ys.length c2) ys := HV.out.below B2' (Nat.le_refl _)
  obtain ⟨w2, hw2⟩ : ∃ w2, w1.setCell ⟨w.heap.size + 1 + 1, 0, none⟩ (.slice s1 xs.length t1) = w2 := ⟨_, rfl⟩
  rw [hw2] at K0' K1' K2' O2' B2' V1'
  obtain ⟨d0, d1⟩ := K0'.cells
  have m2 := K0'.lt
  have H2 := hide (And.intro K1' (And.intro K2' (And.intro O2' (And.intro B2' V1'))))
  clear K0 K1 K2 K0' K1' K2' O1 O2 O2' B1 B2 B2' V1 V1' HU HV
  go_wp2_with fail
  clear hw2 p0 p1 f0 f1 m1
  refine (toB_anyB _ ys w2 H2.out.2.2.2.2 hy).mono ?_
  rintro e w3 ⟨u2, rfl, O3, B3⟩
  obtain ⟨s2, t2, rfl⟩ := O3.rfl.form
  have K1 := H2.out.1.below B3 H2.out.1.lt
  have K2 := H2.out.2.1.below B3 H2.out.2.1.lt
  have P1 := H2.out.2.2.1.below B3 (Nat.le_refl _)
  have b3 := H2.out.2.2.2.1.trans (B3.mono H2.out.2.2.2.1.size)
  have hs2 : w.heap.size + 1 + 1 < w2.heap.size := H2.out.2.1.lt
  have T3 : Two w3 (w.heap.size + 1 + 1 + 1) (.slice s1 xs.length t1) (.slice s2 ys.length t2) xs ys := ⟨P1, O3.base_le (by omega), fun k e1 e2 => by have h1 := (H2.out.2.2.1.lt k e1).2; have h2 := (O3.lt k e2).1; omega⟩
  obtain ⟨p0, p1⟩ := K2.cells
  obtain ⟨f0, f1⟩ := K2.frozen
  obtain ⟨q0, q1⟩ := K1.cells
  obtain ⟨g0, g1⟩ := K1.frozen
  have m1 := K2.lt
  have m3 := K1.lt
  have H3 := hide (And.intro T3 b3)
  clear K1 K2 P1 O3 B3 b3 T3 H2 d0 d1 m2
  go_wp2
  refine bodyPost_ret (v := .agg #[.slice s1 xs.length t1, .slice s2 ys.length t2]) (by simp [results, go_sem, q0, q1]) rfl ⟨_, _, rfl, ?_, ?_⟩
  · exact (((H3.out.1.set_other (by omega) _).set_other (by omega) _).set_other (by omega) _).base_le (by omega)
  · exact (((H3.out.2.setCell (by simp; omega) _).setCell (by simp) _).setCell (by simp) _)
end Go.Proofs.YtmjhgfkplolelaaGreat
/- impl.InodeNew by its contract. -/
namespace Go.Proofs.YtmjhgfkplolelaaGreat
open Go.RowKit Kit
/-- What is known of the block of a result that was laid ahead of a call. -/
theorem res_cells {w1 : World} {b : Nat} (K : w1.heap[b]? = some (.cells #[.int .i64 0, .int .i64 0, .slice none 0 0] 81 (0, 0))) :
    w1.cell? ⟨b, 0, none⟩ = some (.int .i64 0) ∧ w1.cell? ⟨b, 1, none⟩ = some (.int .i64 0) ∧ w1.cell? ⟨b, 2, none⟩ = some (.slice none 0 0) ∧ w1.frozen? ⟨b, 0, none⟩ = false ∧ w1.frozen? ⟨b, 1, none⟩ = false ∧ w1.frozen? ⟨b, 2, none⟩ = false ∧ b < w1.heap.size := by
  refine ⟨by simp [World.cell?, K], by simp [World.cell?, K], by simp [World.cell?, K], by simp [World.frozen?, K], by simp [World.frozen?, K], by simp [World.frozen?, K], (Array.getElem?_eq_some_iff.1 K).1⟩
theorem new_of_links {k l : Int} {e : Ending} {v : Value} (h : newLinks k = l) (he : e = .returned (.agg #[.int .i64 k, .int .i64 l, v])) : e = .returned (.agg #[.int .i64 k, .int .i64 (newLinks k), v]) := by rw [h, he]

set_option maxHeartbeats 800000 in
theorem implNew_anyI (k : Int) (w : World) :
    Calls Tryz.prog 154 #[.int .i64 k] w fun e w' => ∃ v, e = .returned (.agg #[.int .i64 k, .int .i64 (newLinks k), v]) ∧ ROwns w' w.heap.size 3 v (ic [0, 0]) ∧ Below w.heap.size w w' := by
  obtain ⟨nl, hnl⟩ : ∃ l, newLinks k = l := ⟨_, rfl⟩
  rw [hnl]
  by_cases h : k = 0
  · have e1 : nl = 0 := by rw [← hnl]; simp [newLinks, h]
    subst h e1
    clear hnl
    go_enter Tryz.func154, Tryz.ntmps154
    go_wp2_with fail
    refine (rec_any _ _ _ _ _).mono ?_
    rintro e w1 ⟨v, rfl, O1, B1⟩
    obtain ⟨q0, q1, q2, z0, z1, z2, hlt⟩ := res_cells (w1 := w1) (b := w.heap.size) ((B1.block _ (by simp; omega)).trans (heap_new2 w _ _))
    obtain ⟨a1, c1, rfl⟩ := O1.form2
    have HO := hide O1
    have HB := hide B1
    clear O1 B1
    go_wp2
    refine bodyPost_ret (v := .agg #[.int .i64 0, .int .i64 0, .slice a1 2 c1]) (by simp [results, go_sem, q0, q1, q2]) rfl ⟨_, rfl, ?_, ?_⟩
    · exact ((((HO.out.setCell_other (by simp; omega) _).setCell_other (by simp; omega) _).setCell_other (by simp; omega) _).base_le (by simp; omega))
    · have hB : Below w.heap.size w w1 := (((Below.refl _ w).alloc (Nat.le_refl _) _).alloc (by simp) _).trans (HB.out.mono (by simp; omega))
      exact ((hB.setCell (Nat.le_refl _) _).setCell (Nat.le_refl _) _).setCell (Nat.le_refl _) _
  · have h0 : (k == 0) = false := by simpa using h
    have h1 : (k != 0) = true := by simpa using h
    have e1 : nl = 1 := by rw [← hnl]; simp [newLinks, h]
    subst e1
    clear hnl
    go_enter Tryz.func154, Tryz.ntmps154
    go_wp2_with fail
    refine (rec_any _ _ _ _ _).mono ?_
    rintro e w1 ⟨v, rfl, O1, B1⟩
    obtain ⟨q0, q1, q2, z0, z1, z2, hlt⟩ := res_cells (w1 := w1) (b := w.heap.size) ((B1.block _ (by simp; omega)).trans (heap_new2 w _ _))
    obtain ⟨a1, c1, rfl⟩ := O1.form2
    have HO := hide O1
    have HB := hide B1
    clear O1 B1
    go_wp2
    refine bodyPost_ret (v := .agg #[.int .i64 k, .int .i64 1, .slice a1 2 c1]) (by simp [results, go_sem, q0, q1, q2]) rfl ⟨_, rfl, ?_, ?_⟩
    · exact ((((HO.out.setCell_other (by simp; omega) _).setCell_other (by simp; omega) _).setCell_other (by simp; omega) _).base_le (by simp; omega))
    · have hB : Below w.heap.size w w1 := (((Below.refl _ w).alloc (Nat.le_refl _) _).alloc (by simp) _).trans (HB.out.mono (by simp; omega))
      exact ((hB.setCell (Nat.le_refl _) _).setCell (Nat.le_refl _) _).setCell (Nat.le_refl _) _
end Go.Proofs.YtmjhgfkplolelaaGreat
/- laws.szIntS, laws.szInode, laws.toIntS and laws.toInode by their contracts. -/
namespace Go.Proofs.YtmjhgfkplolelaaGreat.Kit
open Go.RowKit
/-- The first j numbers are copiedI, the others are 0 yet. -/
def copiedI (j : Nat) (xs : List Int) : List Int := xs.take j ++ List.replicate (xs.length - j) 0
theorem copied_lengthI (j : Nat) (xs : List Int) (h : j ≤ xs.length) : (copiedI j xs).length = xs.length := by simp [copiedI]; omega
theorem copied_zeroI (xs : List Int) : copiedI 0 xs = List.replicate xs.length 0 := by simp [copiedI]
theorem copied_allI (xs : List Int) : copiedI xs.length xs = xs := by simp [copiedI]
theorem copied_cellI (j : Nat) (xs : List Int) (h : j < xs.length) : (ic (copiedI j xs))[j]? = some (.int .i64 0) := by
  unfold ic copiedI
  have e : (List.map (fun z => Value.int .i64 z) (xs.take j)).length = j := by simp; omega
  rw [List.map_append, List.getElem?_append_right (by omega), e, Nat.sub_self, List.map_replicate, List.getElem?_replicate, if_pos (by omega)]
theorem copied_setI (j : Nat) (xs : List Int) (h : j < xs.length) : (ic (copiedI j xs)).set j (.int .i64 xs[j]) = ic (copiedI (j + 1) xs) := by
  have e : (copiedI j xs).set j xs[j] = copiedI (j + 1) xs := by
    unfold copiedI
    rw [List.set_append_right _ _ (by simp; omega), List.take_succ_eq_append_getElem h, List.length_take, Nat.min_eq_left (by omega), Nat.sub_self, show xs.length - j = (xs.length - (j + 1)) + 1 by omega, List.replicate_succ, List.set_cons_zero, List.append_assoc]
    rfl
  rw [← e]
  simp [ic, List.map_set]
end Go.Proofs.YtmjhgfkplolelaaGreat.Kit
namespace Go.Proofs.YtmjhgfkplolelaaGreat
open Go.RowKit Kit
theorem make_nI (n : Nat) (h : n ≤ 1048576) (w : World) : (Instr.makeSlice 38 (.int .i64 (n : Int)) (.int .i64 (n : Int))).run Tryz.prog w = .ok (.slice (some ⟨w.heap.size, 0, none⟩) n n) (w.alloc (.cells (madeCells #[.int .i64 0] n) 3)) :=
  run_make_row' 38 3 (.int .i64 0) 8 Tryz.u38 Tryz.i3 rfl .i64 .i64 n (by omega) (by omega) w

set_option maxHeartbeats 800000 in
theorem szN_inI (k l : Int) (a : Option Addr) (n c : Nat) (w : World) (h : n ≤ 1048576) :
    Calls Tryz.prog 136 #[.agg #[.int .i64 k, .int .i64 l, .slice a n c], .int .i64 1048576] w fun e w' => e = .returned (.int .i64 (1048576 - (n : Int))) ∧ Below w.heap.size w w' := by
  go_enter Tryz.func136, Tryz.ntmps136
  go_wp2
  go_ret
  exact ⟨rfl, by go_grown⟩
set_option maxHeartbeats 800000 in
theorem szN_outI (k l : Int) (a : Option Addr) (n c : Nat) (w : World) (h : ¬ n ≤ 1048576) (h2 : n ≤ maxLen) :
    Calls Tryz.prog 136 #[.agg #[.int .i64 k, .int .i64 l, .slice a n c], .int .i64 1048576] w fun e w' => e = .returned (.int .i64 (-1)) ∧ Below w.heap.size w w' := by
  have h3 : n ≤ 9223372036854775807 := h2
  clear h2
  go_enter Tryz.func136, Tryz.ntmps136
  go_wp2
  go_ret
  exact ⟨rfl, by go_grown⟩

set_option maxRecDepth 100000 in
set_option maxHeartbeats 1600000 in
theorem toI_any (v : Value) (xs : List Int) (w : World) (hv : RInts w v xs) (hl : xs.length ≤ 1048576) :
    Calls Tryz.prog 16 #[v] w fun e w' => ∃ u, e = .returned u ∧ ROwns w' w.heap.size 3 u (ic xs) ∧ Below w.heap.size w w' := by
  obtain ⟨a, c, rfl, hc⟩ := hv
  have HC := hide hc
  clear hc
  have mk := make_nI xs.length hl
  go_enter Tryz.func16, Tryz.ntmps16
  go_wp2
  go_loopw [4] (fun i wr => ∃ j : Nat, j ≤ xs.length ∧ i = .int .i64 j ∧ ROwns wr w.heap.size 3 (.slice (some ⟨w.heap.size, 0, none⟩) xs.length xs.length) (ic (copiedI j xs)) ∧ Below w.heap.size w wr) (fun i _ => xs.length - (intOf i).toNat)
  case atStart =>
    refine ⟨0, Nat.zero_le _, rfl, ?_, (Below.refl _ w).alloc (Nat.le_refl _) _⟩
    have e1 : (madeCells #[.int .i64 0] xs.length).toList = ic (copiedI 0 xs) := by rw [toList_madeCells_one, copied_zeroI]; simp [ic]
    have e2 : (madeCells #[.int .i64 0] xs.length).size = xs.length := by rw [← Array.length_toList, e1, ic_length, copied_lengthI 0 xs (Nat.zero_le _)]
    have := ROwns.lit w w.heap.size 3 (madeCells #[.int .i64 0] xs.length) (Nat.le_refl _) (by rw [e2]; unfold maxLen; omega)
    rwa [e1, e2] at this
  case round =>
    obtain ⟨j, hj, rfl, hown, hb⟩ := hrel
    by_cases hlt : j < xs.length
    · obtain ⟨g, off, rfl, hg, k1⟩ := HC.out j hlt
      have q1 : wr.cell? ⟨g, off + j, none⟩ = some (.int .i64 xs[j]) := (hb.cell (p := ⟨g, off + j, none⟩) hg).trans k1
      have hml : (ic (copiedI j xs)).length = xs.length := by rw [ic_length, copied_lengthI j xs hj]
      obtain ⟨g2, c2, e1, q2, q3, -⟩ := hown.at j (by omega)
      rw [copied_cellI j xs hlt] at q2
      simp only [Value.slice.injEq, Option.some.injEq, Addr.mk.injEq] at e1
      obtain ⟨⟨rfl, -, -⟩, -, rfl⟩ := e1
      have O1 : ROwns wr w.heap.size 3 (.slice (some ⟨w.heap.size, 0, none⟩) (ic (copiedI j xs)).length xs.length) (ic (copiedI j xs)) := by rw [hml]; exact hown
      have O2 := O1.stored j (.int .i64 xs[j])
      rw [copied_setI j xs hlt, hml] at O2
      have HO := hide (And.intro O2.1 (hb.setCell (p := ⟨w.heap.size, j, none⟩) (Nat.le_refl _) (.int .i64 xs[j])))
      obtain ⟨t, ht⟩ : ∃ t, xs[j] = t := ⟨_, rfl⟩
      rw [ht] at q1 HO
      have hne : ¬ g = w.heap.size := by omega
      have j0 : (0 : Int) ≤ (j : Int) := by omega
      have j1 : (j : Int) < (xs.length : Int) := by omega
      clear hown hb hml O1 O2 ht k1 mk
      go_wp2
      go_roundw
      case rel => exact ⟨j + 1, by omega, by go_num, HO.out.1, HO.out.2⟩
      case measure => simp [intOf]; omega
    · have hjl : j = xs.length := by omega
      have HR := hide (And.intro hown hb)
      have HJ := hide hjl
      clear hown hb hjl mk
      go_wp2
      go_ret
      exact ⟨_, rfl, by have := HR.out.1; rwa [HJ.out, copied_allI] at this, HR.out.2⟩

set_option maxHeartbeats 1600000 in
theorem toN_anyI (k l : Int) (v : Value) (xs : List Int) (w : World) (hv : RInts w v xs) (hl : xs.length ≤ 1048576) :
    Calls Tryz.prog 138 #[.agg #[.int .i64 k, .int .i64 l, v]] w fun e w' => ∃ u, e = .returned (.agg #[.int .i64 k, .int .i64 l, u]) ∧ ROwns w' w.heap.size 3 u (ic xs) ∧ Below w.heap.size w w' := by
  have HV := hide hv
  obtain ⟨a, c, rfl, -⟩ := hv
  go_enter Tryz.func138, Tryz.ntmps138
  go_wp2_with fail
  refine (toI_any _ xs _ (((HV.out.alloc _).alloc _).alloc _) hl).mono ?_
  rintro e w1 ⟨u, rfl, O1, B1⟩
  obtain ⟨a1, c1, rfl⟩ := O1.rints.form
  have K0 : AtI w1 (w.heap.size + 1) 0 0 (.slice none 0 0) := by
    have := ((AtI.new (w.alloc (Obj.cells #[.int .i64 k, .int .i64 l, .slice a xs.length c] 194)) 0 0 (.slice none 0 0)).alloc (Obj.cells #[.int .i64 k, .int .i64 l, .slice none 0 0] 81)).below B1 (by simp)
    simpa using this
  have K1 : AtI w1 (w.heap.size + 1 + 1) k l (.slice none 0 0) := by
    have := (AtI.new ((w.alloc (Obj.cells #[.int .i64 k, .int .i64 l, .slice a xs.length c] 194)).alloc (Obj.cells #[.int .i64 0, .int .i64 0, .slice none 0 0] 81)) k l (.slice none 0 0)).below B1 (by simp)
    simpa using this
  obtain ⟨q0, q1, q2, z0, z1, z2, m0⟩ := res_cells (w1 := w1) (b := w.heap.size + 1) K0
  obtain ⟨d0, d1, d2, m1⟩ := K1.cells
  have f2 : w1.frozen? ⟨w.heap.size + 1 + 1, 2, none⟩ = false := by
    have : w1.heap[w.heap.size + 1 + 1]? = _ := K1
    simp [World.frozen?, this]
  have B2 : Below w.heap.size w w1 := ((((Below.refl _ w).alloc (Nat.le_refl _) _).alloc (by simp) _).alloc (by simp; omega) _).trans (B1.mono (by simp; omega))
  have O2 : ROwns w1 (w.heap.size + 1 + 1 + 1) 3 (.slice a1 xs.length c1) (ic xs) := O1.base_le (by simp)
  have HO := hide O2
  have HB := hide B2
  clear O1 O2 B1 B2 K0 K1
  go_wp2
  refine bodyPost_ret (v := .agg #[.int .i64 k, .int .i64 l, .slice a1 xs.length c1]) (by simp [results, go_sem, q0, q1, q2]) rfl ⟨_, rfl, ?_, ?_⟩
  · exact ((((((HO.out.setCell_other (by omega) _).setCell_other (by omega) _).setCell_other (by omega) _).setCell_other (by omega) _)).base_le (by omega))
  · exact ((((HB.out.setCell (by simp; omega) _).setCell (by simp) _).setCell (by simp) _).setCell (by simp) _)
end Go.Proofs.YtmjhgfkplolelaaGreat
/- Marks: laws.markText by its contract; one byte as a string. -/
namespace Go.Proofs.YtmjhgfkplolelaaGreat.Kit
open Go.RowKit
/-- The figures of a number, with fuel; none for 0. -/
def decF : Nat → Nat → List UInt8
  | 0, _ => []
  | f + 1, n => if n = 0 then [] else decF f (n / 10) ++ [figB (n % 10)]
theorem decF_zero (f : Nat) : decF f 0 = [] := by cases f <;> simp [decF]
theorem decF_pos (f n : Nat) (h : n ≠ 0) : decF (f + 1) n = decF f (n / 10) ++ [figB (n % 10)] := by simp [decF, h]
theorem dec_step {n f m : Nat} {acc : List UInt8} (h : decF 20 n = decF (f + 1) m ++ acc) (hm : m ≠ 0) : decF 20 n = decF f (m / 10) ++ (figB (m % 10) :: acc) := by
  rw [h, decF_pos f m hm]; simp
/-- One byte as a string. -/
def oneB (b : UInt8) : ByteArray := ⟨#[b]⟩
theorem oneB_size (b : UInt8) : (oneB b).size = 1 := rfl
/-- Figures as a string. -/
def accB (l : List UInt8) : ByteArray := ⟨l.toArray⟩
theorem accB_cons (b : UInt8) (l : List UInt8) : oneB b ++ accB l = accB (b :: l) := by
  unfold oneB accB
  rw [show (⟨#[b]⟩ : ByteArray) = ⟨[b].toArray⟩ from rfl, ByteArray.mk_append_mk]
  simp
theorem accB_size (l : List UInt8) : (accB l).size = l.length := by simp [accB, ByteArray.size]
/-- The mark of a number. -/
def mkT (k : Nat) : ByteArray := accB (109 :: decF 20 k)
end Go.Proofs.YtmjhgfkplolelaaGreat.Kit
namespace Go.Proofs.YtmjhgfkplolelaaGreat
open Go.RowKit Kit
theorem conv_one (b : UInt8) (W : World) : (convert 226 9 (.slice (some ⟨W.heap.size, 0, none⟩) 1 1)).run Tryz.prog (W.alloc (.cells #[.int .u8 (b.toNat : Int)] 5)) = .ok (.string (oneB b)) (W.alloc (.cells #[.int .u8 (b.toNat : Int)] 5)) :=
  conv_own (P := Tryz.prog) 226 9 5 Tryz.underlying226 Tryz.underlying5 Tryz.underlying9 (base := 0) (l := [b]) (World.ownsRow_lit W #[.int .u8 (b.toNat : Int)] 1 (Nat.zero_le _) (by unfold maxLen; omega) rfl)

end Go.Proofs.YtmjhgfkplolelaaGreat
/- laws.eqSlot, eqSlotS, eqBlock, markSlotS, markBlock, heldSlotS and heldBlock by their contracts. -/
namespace Go.Proofs.YtmjhgfkplolelaaGreat.Kit
open Go.RowKit
/-- The marks of n slots from k on. -/
def mkS (k n : Nat) : List Sl := (List.range n).map fun j => (mkT (k + j * 2), ((k + j * 2 + 1 : Nat) : Int))
theorem mkS_length (k n : Nat) : (mkS k n).length = n := by simp [mkS]
theorem mkS_at (k n j : Nat) (h : j < (mkS k n).length) : (mkS k n)[j] = (mkT (k + j * 2), ((k + j * 2 + 1 : Nat) : Int)) := by simp [mkS]
/-- The first j slots are markedK already. -/
def markedK (k j : Nat) (l : List Sl) : List Sl := mkS k j ++ l.drop j
theorem marked_lengthK (k j : Nat) (l : List Sl) (h : j ≤ l.length) : (markedK k j l).length = l.length := by simp [markedK, mkS_length]; omega
theorem marked_zeroK (k : Nat) (l : List Sl) : markedK k 0 l = l := by simp [markedK, mkS]
theorem marked_allK (k : Nat) (l : List Sl) : markedK k l.length l = mkS k l.length := by simp [markedK]
theorem marked_setK (k j : Nat) (l : List Sl) (h : j < l.length) : (markedK k j l).set j (mkT (k + j * 2), ((k + j * 2 + 1 : Nat) : Int)) = markedK k (j + 1) l := by
  unfold markedK
  rw [List.set_append_right _ _ (by rw [mkS_length]; omega), mkS_length, Nat.sub_self, List.drop_eq_getElem_cons h, List.set_cons_zero]
  simp [mkS, List.range_succ]
end Go.Proofs.YtmjhgfkplolelaaGreat.Kit
namespace Go.Proofs.YtmjhgfkplolelaaGreat
open Go.RowKit Kit
theorem eqOne_same (t : ByteArray) (z : Int) (w : World) :
    Calls Tryz.prog 212 #[.agg #[.string t, .int .i64 z], .agg #[.string t, .int .i64 z]] w fun e w' => e = .returned (.bool true) ∧ Below w.heap.size w w' := by
  go_enter Tryz.func212, Tryz.ntmps212
  go_wp2
  go_ret
  exact ⟨rfl, by go_grown⟩
set_option maxRecDepth 100000 in
set_option maxHeartbeats 1600000 in
theorem eqS_same (va vb : Value) (l : List Sl) (w : World) (ha : RSl w va l) (hb : RSl w vb l) (hl : l.length ≤ 1048576) :
    Calls Tryz.prog 190 #[va, vb] w fun e w' => e = .returned (.bool true) ∧ Below w.heap.size w w' := by
  obtain ⟨a1, c1, rfl, -, ha⟩ := ha
  obtain ⟨a2, c2, rfl, -, hb⟩ := hb
  have HA := hide ha
  have HB := hide hb
  clear ha hb
  go_enter Tryz.func190, Tryz.ntmps190
  go_wp2
  go_loopw [5] (fun i wr => ∃ j : Nat, j ≤ l.length ∧ i = .int .i64 j ∧ Below w.heap.size w wr) (fun i _ => l.length - (intOf i).toNat)
  case atStart => exact ⟨0, Nat.zero_le _, rfl, Below.refl _ _⟩
  case round =>
    obtain ⟨j, hj, rfl, hb⟩ := hrel
    by_cases hlt : j < l.length
    · obtain ⟨g1, o1, rfl, hg1, m1, m2⟩ := HA.out j hlt
      obtain ⟨g2, o2, rfl, hg2, m3, m4⟩ := HB.out j hlt
      have HS : Hid (∀ w', Below w.heap.size w w' → w'.cell? ⟨g1, o1 + j * 2, none⟩ = some (.string l[j].1) ∧ w'.cell? ⟨g1, o1 + j * 2 + 1, none⟩ = some (.int .i64 l[j].2) ∧ w'.cell? ⟨g2, o2 + j * 2, none⟩ = some (.string l[j].1) ∧ w'.cell? ⟨g2, o2 + j * 2 + 1, none⟩ = some (.int .i64 l[j].2)) := fun w' hb =>
        ⟨(hb.cell (p := ⟨g1, o1 + j * 2, none⟩) hg1).trans m1, (hb.cell (p := ⟨g1, o1 + j * 2 + 1, none⟩) hg1).trans m2, (hb.cell (p := ⟨g2, o2 + j * 2, none⟩) hg2).trans m3, (hb.cell (p := ⟨g2, o2 + j * 2 + 1, none⟩) hg2).trans m4⟩
      obtain ⟨t, ht⟩ : ∃ t, l[j].1 = t := ⟨_, rfl⟩
      obtain ⟨z, hz⟩ : ∃ z, l[j].2 = z := ⟨_, rfl⟩
      rw [ht, hz] at HS
      clear ht hz m1 m2 m3 m4
      obtain ⟨r1, r2, r3, r4⟩ := HS.out _ hb
      have j0 : (0 : Int) ≤ (j : Int) := by omega
      have j1 : (j : Int) < (l.length : Int) := by omega
      have hsz := hb.size
      have HBB := hide hb
      clear hb
      go_wp2_with fail
      go_region_held3 (fun w' => w'.cell? ⟨g1, o1 + j * 2, none⟩ = some (.string t) ∧ w'.cell? ⟨g1, o1 + j * 2 + 1, none⟩ = some (.int .i64 z) ∧ w'.cell? ⟨g2, o2 + j * 2, none⟩ = some (.string t) ∧ w'.cell? ⟨g2, o2 + j * 2 + 1, none⟩ = some (.int .i64 z)) (first | exact HS.out _ HBB.out.drew | exact HS.out _ (HBB.out.trans ((of_drew B6).mono hsz))) ((go_at_call 212; refine (eqOne_same _ _ _).mono ?_; rintro e w6 ⟨rfl, B6⟩))
      have HB2 := hide (HBB.out.trans ((of_drew B6).mono hsz))
      clear B6
      go_wp2
      go_roundw
      case rel => exact ⟨j + 1, by omega, by go_num, HB2.out⟩
      case measure => simp [intOf]; omega
    · have HBB := hide hb
      clear hb
      go_wp2
      go_ret
      exact ⟨rfl, HBB.out⟩
theorem eqB_sameK (d : Bool) (va vb : Value) (t : ByteArray) (l : List Sl) (w : World) (ha : RSl w va l) (hb : RSl w vb l) (hl : l.length ≤ 1048576) :
    Calls Tryz.prog 169 #[.agg #[.bool d, va, .string t], .agg #[.bool d, vb, .string t]] w fun e w' => e = .returned (.bool true) ∧ Below w.heap.size w w' := by
  have HA := hide ha
  have HB := hide hb
  obtain ⟨a1, c1, rfl⟩ := ha.form
  obtain ⟨a2, c2, rfl⟩ := hb.form
  clear ha hb
  go_enter Tryz.func169, Tryz.ntmps169
  go_wp2_with fail
  refine (eqS_same _ _ l _ ((HA.out.alloc _).alloc _) ((HB.out.alloc _).alloc _) hl).mono ?_
  rintro e w1 ⟨rfl, B1⟩
  obtain ⟨r0, r1, r2, r3⟩ := (((AtC.new w 101 #[.bool d, .slice a1 l.length c1, .string t]).alloc (.cells #[.bool d, .slice a2 l.length c2, .string t] 101)).over B1).three
  obtain ⟨s0, s1, s2, s3⟩ := ((AtC.new (w.alloc (.cells #[.bool d, .slice a1 l.length c1, .string t] 101)) 101 #[.bool d, .slice a2 l.length c2, .string t]).over B1).three
  simp only [World.size_alloc] at s0 s1 s2 s3
  have HB1 := hide B1
  clear B1
  go_wp2
  go_ret
  exact ⟨rfl, ((((Below.refl _ w).alloc (Nat.le_refl _) _).alloc (by simp) _).trans (HB1.out.mono (by simp; omega)))⟩
end Go.Proofs.YtmjhgfkplolelaaGreat
/- laws.szSlot, szSlotS, szBlock, toSlot, toSlotS and toBlock by their contracts. -/
namespace Go.Proofs.YtmjhgfkplolelaaGreat.Kit
open Go.RowKit
/-- A slot without anything. -/
def no1 : Sl := (⟨#[]⟩, 0)
/-- The first j slots are copiedK, the others are without anything yet. -/
def copiedK (j : Nat) (xs : List Sl) : List Sl := xs.take j ++ List.replicate (xs.length - j) no1
theorem copied_lengthK (j : Nat) (xs : List Sl) (h : j ≤ xs.length) : (copiedK j xs).length = xs.length := by simp [copiedK]; omega
theorem copied_zeroK (xs : List Sl) : copiedK 0 xs = List.replicate xs.length no1 := by simp [copiedK]
theorem copied_allK (xs : List Sl) : copiedK xs.length xs = xs := by simp [copiedK]
theorem copied_setK (j : Nat) (xs : List Sl) (h : j < xs.length) : (copiedK j xs).set j xs[j] = copiedK (j + 1) xs := by
  unfold copiedK
  rw [List.set_append_right _ _ (by simp; omega), List.take_succ_eq_append_getElem h, List.length_take, Nat.min_eq_left (by omega), Nat.sub_self, show xs.length - j = (xs.length - (j + 1)) + 1 by omega, List.replicate_succ, List.set_cons_zero, List.append_assoc]
  rfl
theorem made_two (n : Nat) : (madeCells #[.string ⟨#[]⟩, .int .i64 0] (n * 2)).toList = sc (List.replicate n no1) := by
  apply List.ext_getElem?
  intro j
  by_cases hj : j < n * 2
  · have e : (madeCells #[.string ⟨#[]⟩, .int .i64 0] (n * 2)).toList[j]? = some (#[Value.string ⟨#[]⟩, .int .i64 0][j % 2]!) := by simp [madeCells, hj]
    rw [e]
    rcases Nat.mod_two_eq_zero_or_one j with h | h
    · obtain ⟨q, rfl⟩ : ∃ q, j = q * 2 := ⟨j / 2, by omega⟩
      rw [sc_name _ q (by simp; omega), h]
      simp [no1]
    · obtain ⟨q, rfl⟩ : ∃ q, j = q * 2 + 1 := ⟨j / 2, by omega⟩
      rw [sc_ino _ q (by simp; omega), h]
      simp [no1]
  · rw [List.getElem?_eq_none (by simp [madeCells]; omega), List.getElem?_eq_none (by rw [sc_length]; simp; omega)]
end Go.Proofs.YtmjhgfkplolelaaGreat.Kit
namespace Go.Proofs.YtmjhgfkplolelaaGreat
open Go.RowKit Kit
theorem Tryz.u99 : Tryz.prog.underlying 99 = some (.slice 137) := by kernel_rfl
theorem Tryz.i137 : (Tryz.prog.info? 137).map (fun i => (i.zero, i.size, i.bytes)) = some (some (.agg #[.string ⟨#[]⟩, .int .i64 0]), 2, 24) := by kernel_rfl
theorem make_nK (n : Nat) (h : n ≤ 1048576) (w : World) : (Instr.makeSlice 99 (.int .i64 (n : Int)) (.int .i64 (n : Int))).run Tryz.prog w = .ok (.slice (some ⟨w.heap.size, 0, none⟩) n n) (w.alloc (.cells (madeCells #[.string ⟨#[]⟩, .int .i64 0] (n * 2)) 137)) := by
  obtain ⟨i0, hi, hz0, hz1, hz2⟩ := info_parts Tryz.i137
  rw [run_make w 99 137 i0 _ Tryz.u99 hi hz0 .i64 .i64 n n (by omega) (by omega) (by rw [hz2]; omega) (by omega), hz1]
  rfl
set_option maxHeartbeats 800000 in
theorem szOne_any (t : ByteArray) (z L : Int) (w : World) (h0 : 0 ≤ L) (hL : L ≤ 1048576) (ht : t.size ≤ maxLen) :
    Calls Tryz.prog 191 #[.agg #[.string t, .int .i64 z], .int .i64 L] w fun e w' => ∃ r, e = .returned (.int .i64 r) ∧ (r = -1 ∨ (0 ≤ r ∧ r ≤ L ∧ (t.size : Int) ≤ L)) ∧ Below w.heap.size w w' := by
  have ht' : t.size ≤ 9223372036854775807 := ht
  clear ht
  by_cases h : L - (t.size : Int) < 0
  · go_enter Tryz.func191, Tryz.ntmps191
    go_wp2
    go_ret
    exact ⟨-1, rfl, .inl rfl, by go_grown⟩
  · go_enter Tryz.func191, Tryz.ntmps191
    go_wp2
    go_ret
    exact ⟨L - (t.size : Int), rfl, .inr ⟨by omega, by omega, by omega⟩, by go_grown⟩
set_option maxRecDepth 100000 in
set_option maxHeartbeats 1600000 in
theorem szS_any (v : Value) (xs : List Sl) (w : World) (hv : RSl w v xs) (hlen : xs.length ≤ maxLen) (hbig : ∀ (j : Nat) (h : j < xs.length), xs[j].1.size ≤ maxLen) :
    Calls Tryz.prog 170 #[v, .int .i64 1048576] w fun e w' => ∃ r, e = .returned (.int .i64 r) ∧ (r = -1 ∨ (0 ≤ r ∧ r ≤ 1048576 ∧ xs.length ≤ 1048576 ∧ ∀ (j : Nat) (h : j < xs.length), xs[j].1.size ≤ 1048576)) ∧ Below w.heap.size w w' := by
  obtain ⟨a, c, rfl, -, hc⟩ := hv
  have HC := hide hc
  have HG := hide hbig
  have hl' : xs.length ≤ 9223372036854775807 := hlen
  clear hc hbig hlen
  by_cases hn : 1048576 < xs.length
  · go_enter Tryz.func170, Tryz.ntmps170
    go_wp2
    go_ret
    exact ⟨-1, rfl, .inl rfl, Below.refl _ _⟩
  · have hn2 : decide ((1048576 : Int) - (xs.length : Int) < 0) = false := by simp; omega
    go_enter Tryz.func170, Tryz.ntmps170
    go_wp2
    go_loopw [1, 5] (fun x i wr => ∃ (j : Nat) (L : Int), j ≤ xs.length ∧ i = .int .i64 j ∧ x = .int .i64 L ∧ 0 ≤ L ∧ L ≤ 1048576 ∧ Hid (∀ (k : Nat) (h : k < xs.length), k < j → xs[k].1.size ≤ 1048576) ∧ Below w.heap.size w wr) (fun _ i _ => xs.length - (intOf i).toNat)
    case atStart => exact ⟨0, _, Nat.zero_le _, rfl, rfl, by omega, by omega, fun _ _ h => absurd h (Nat.not_lt_zero _), Below.refl _ _⟩
    case round =>
      obtain ⟨j, L, hj, rfl, rfl, hL0, hL1, HS, hb⟩ := hrel
      by_cases hlt : j < xs.length
      · obtain ⟨g, off, rfl, hg, m1, m2⟩ := HC.out j hlt
        have q1 := (hb.cell (p := ⟨g, off + j * 2, none⟩) hg).trans m1
        have q2 := (hb.cell (p := ⟨g, off + j * 2 + 1, none⟩) hg).trans m2
        have hgt := HG.out j hlt
        obtain ⟨t, ht⟩ : ∃ t, xs[j].1 = t := ⟨_, rfl⟩
        obtain ⟨z, hz⟩ : ∃ z, xs[j].2 = z := ⟨_, rfl⟩
        rw [ht] at q1 hgt
        rw [hz] at q2
        have HT := hide ht
        have HGT := hide hgt
        have HB := hide hb
        have hsz := hb.size
        have j0 : (0 : Int) ≤ (j : Int) := by omega
        have j1 : (j : Int) < (xs.length : Int) := by omega
        clear m1 m2 ht hz hb hgt
        go_wp2_with (go_at_call 191; refine (szOne_any _ _ _ _ hL0 hL1 HGT.out).mono ?_; rintro e w1 ⟨r, rfl, hr, B1⟩; have HB1 := hide (HB.out.trans (B1.mono hsz)); have HRR := hide hr; have hr1 : -1 ≤ r := by { rcases hr with h | h <;> omega }; clear B1 hr)
        · go_ret
          exact ⟨-1, rfl, .inl rfl, HB1.out⟩
        · have hr0 : 0 ≤ r := by omega
          have hrr : r ≤ L ∧ (t.size : Int) ≤ L := by rcases HRR.out with h | h <;> omega
          go_roundw
          case rel =>
            refine ⟨j + 1, r, by omega, by go_num, rfl, hr0, by omega, fun k hk hkj => ?_, HB1.out⟩
            by_cases hkk : k = j
            · subst hkk; rw [HT.out]; omega
            · exact HS.out k hk (by omega)
          case measure => simp [intOf]; omega
      · have HB := hide hb
        clear hb
        go_wp2
        go_ret
        exact ⟨L, rfl, .inr ⟨hL0, hL1, by omega, fun k hk => HS.out k hk (by omega)⟩, HB.out⟩
set_option maxHeartbeats 800000 in
theorem szB_any (d : Bool) (v : Value) (t : ByteArray) (xs : List Sl) (w : World) (hv : RSl w v xs) (hlen : xs.length ≤ maxLen) (hbig : ∀ (j : Nat) (h : j < xs.length), xs[j].1.size ≤ maxLen) (ht : t.size ≤ maxLen) :
    Calls Tryz.prog 137 #[.agg #[.bool d, v, .string t], .int .i64 1048576] w fun e w' => ∃ r, e = .returned (.int .i64 r) ∧ (r = -1 ∨ (0 ≤ r ∧ xs.length ≤ 1048576 ∧ (∀ (j : Nat) (h : j < xs.length), xs[j].1.size ≤ 1048576) ∧ t.size ≤ 1048576)) ∧ Below w.heap.size w w' := by
  have HV := hide hv
  have HL := hide hlen
  have HG := hide hbig
  obtain ⟨a, c, rfl, -⟩ := hv
  have ht' : t.size ≤ 9223372036854775807 := ht
  clear ht hlen hbig
  go_enter Tryz.func137, Tryz.ntmps137
  go_wp2_with fail
  refine (szS_any _ xs _ (HV.out.alloc _) HL.out HG.out).mono ?_
  rintro e w1 ⟨r, rfl, hr, B1⟩
  obtain ⟨r0, r1, r2, r3⟩ := ((AtC.new w 198 #[.bool d, .slice a xs.length c, .string t]).over B1).three
  have HB := hide (((Below.refl _ w).alloc (Nat.le_refl _) (.cells #[.bool d, .slice a xs.length c, .string t] 198)).trans (B1.mono (by simp)))
  have HR := hide hr
  have hr1 : -1 ≤ r := by rcases hr with h | h <;> omega
  have hr2 : r ≤ 1048576 := by rcases hr with h | h <;> omega
  clear hr B1
  by_cases hneg : r < 0
  · go_wp2
    go_ret
    exact ⟨-1, rfl, .inl rfl, HB.out⟩
  · by_cases h : r - (t.size : Int) < 0
    · go_wp2
      go_ret
      exact ⟨-1, rfl, .inl rfl, HB.out⟩
    · go_wp2
      go_ret
      have := HR.out.resolve_left (by omega)
      exact ⟨r - (t.size : Int), rfl, .inr ⟨by omega, this.2.2.1, this.2.2.2, by omega⟩, HB.out⟩
set_option maxHeartbeats 800000 in
theorem toOne_any (t : ByteArray) (z : Int) (w : World) :
    Calls Tryz.prog 192 #[.agg #[.string t, .int .i64 z]] w fun e w' => e = .returned (.agg #[.string t, .int .i64 z]) ∧ Below w.heap.size w w' := by
  go_enter Tryz.func192, Tryz.ntmps192
  go_wp2
  refine bodyPost_ret (v := .agg #[.string t, .int .i64 z]) (by simp [results, go_sem]) rfl ⟨rfl, by go_grown⟩
set_option maxRecDepth 100000 in
set_option maxHeartbeats 1600000 in
theorem toS_any (v : Value) (xs : List Sl) (w : World) (hv : RSl w v xs) (hl : xs.length ≤ 1048576) :
    Calls Tryz.prog 171 #[v] w fun e w' => ∃ u, e = .returned u ∧ SOwns w' w.heap.size 137 u xs ∧ Below w.heap.size w w' := by
  obtain ⟨a, c, rfl, -, hc⟩ := hv
  have HC := hide hc
  clear hc
  have mk := make_nK xs.length hl
  go_enter Tryz.func171, Tryz.ntmps171
  go_wp2
  go_loopw [4] (fun i wr => ∃ j : Nat, j ≤ xs.length ∧ i = .int .i64 j ∧ SOwns wr w.heap.size 137 (.slice (some ⟨w.heap.size, 0, none⟩) xs.length xs.length) (copiedK j xs) ∧ Below w.heap.size w wr) (fun i _ => xs.length - (intOf i).toNat)
  case atStart =>
    refine ⟨0, Nat.zero_le _, rfl, ?_, (Below.refl _ w).alloc (Nat.le_refl _) _⟩
    have := SOwns.lit w w.heap.size 137 (madeCells #[.string ⟨#[]⟩, .int .i64 0] (xs.length * 2)) (copiedK 0 xs) (by rw [made_two, copied_zeroK]) (Nat.le_refl _) (by rw [copied_lengthK _ _ (Nat.zero_le _)]; unfold maxLen; omega)
    rwa [copied_lengthK _ _ (Nat.zero_le _)] at this
  case round =>
    obtain ⟨j, hj, rfl, hown, hb⟩ := hrel
    by_cases hlt : j < xs.length
    · obtain ⟨g, off, rfl, hg, m1, m2⟩ := HC.out j hlt
      have q1 := (hb.cell (p := ⟨g, off + j * 2, none⟩) hg).trans m1
      have q2 := (hb.cell (p := ⟨g, off + j * 2 + 1, none⟩) hg).trans m2
      have HML := hide (copied_lengthK j xs hj)
      have CS := hide (copied_setK j xs hlt)
      obtain ⟨t, ht⟩ : ∃ t, xs[j].1 = t := ⟨_, rfl⟩
      obtain ⟨z, hz⟩ : ∃ z, xs[j].2 = z := ⟨_, rfl⟩
      have e1 : xs[j] = (t, z) := by rw [← ht, ← hz]
      rw [e1] at CS
      rw [ht] at q1
      rw [hz] at q2
      have HOWN := hide hown
      have HB := hide hb
      have hsz := hb.size
      have hgw : ¬ g = w.heap.size := by omega
      have j0 : (0 : Int) ≤ (j : Int) := by omega
      have j1 : (j : Int) < (xs.length : Int) := by omega
      clear hown hb m1 m2 ht hz e1 mk
      go_wp2_with (go_at_call 192; refine (toOne_any _ _ _).mono ?_; rintro e w1 ⟨rfl, B1⟩; have O0 : SOwns w1 w.heap.size 137 (.slice (some ⟨w.heap.size, 0, none⟩) (copiedK j xs).length xs.length) (copiedK j xs) := by { rw [HML.out]; exact HOWN.out.below B1 (Nat.le_refl _) }; obtain ⟨g3, c3, e3, k1, k2, k3, k4, k5, -⟩ := O0.at j (by rw [HML.out]; exact hlt); simp only [Value.slice.injEq, Option.some.injEq, Addr.mk.injEq] at e3; obtain ⟨⟨rfl, -, -⟩, -, rfl⟩ := e3; have O2 := O0.set_both j (by rw [HML.out]; exact hlt) t z; rw [HML.out, CS.out] at O2; have HO := hide (And.intro O2.1 (((HB.out.trans (B1.mono hsz)).setCell (p := ⟨w.heap.size, j * 2, none⟩) (Nat.le_refl _) (.string t)).setCell (p := ⟨w.heap.size, j * 2 + 1, none⟩) (Nat.le_refl _) (.int .i64 z))); clear O0 O2 B1)
      go_roundw
      case rel => exact ⟨j + 1, by omega, by go_num, HO.out.1, HO.out.2⟩
      case measure => simp [intOf]; omega
    · have hjl : j = xs.length := by omega
      have HR := hide (And.intro hown hb)
      have HJ := hide hjl
      clear hown hb hjl mk
      go_wp2
      go_ret
      exact ⟨_, rfl, by have := HR.out.1; rwa [HJ.out, copied_allK] at this, HR.out.2⟩
set_option maxHeartbeats 1600000 in
theorem toB_anyK (d : Bool) (v : Value) (t : ByteArray) (xs : List Sl) (w : World) (hv : RSl w v xs) (hl : xs.length ≤ 1048576) :
    Calls Tryz.prog 139 #[.agg #[.bool d, v, .string t]] w fun e w' => ∃ u, e = .returned (.agg #[.bool d, u, .string t]) ∧ SOwns w' w.heap.size 137 u xs ∧ Below w.heap.size w w' := by
  have HV := hide hv
  obtain ⟨a, c, rfl, -⟩ := hv
  go_enter Tryz.func139, Tryz.ntmps139
  go_wp2_with fail
  refine (toS_any _ xs _ (((HV.out.alloc _).alloc _).alloc _) hl).mono ?_
  rintro e w1 ⟨u, rfl, O1, B1⟩
  obtain ⟨a1, c1, rfl⟩ := O1.rsl.form
  have K0 : AtC w1 (w.heap.size + 1) 101 #[.bool false, .slice none 0 0, .string ⟨#[]⟩] := by
    have := ((AtC.new (w.alloc (Obj.cells #[.bool d, .slice a xs.length c, .string t] 198)) 101 #[.bool false, .slice none 0 0, .string ⟨#[]⟩]).alloc (Obj.cells #[.bool d, .slice none 0 0, .string ⟨#[]⟩] 101)).over B1
    simpa using this
  have K1 : AtC w1 (w.heap.size + 1 + 1) 101 #[.bool d, .slice none 0 0, .string ⟨#[]⟩] := by
    have := (AtC.new ((w.alloc (Obj.cells #[.bool d, .slice a xs.length c, .string t] 198)).alloc (Obj.cells #[.bool false, .slice none 0 0, .string ⟨#[]⟩] 101)) 101 #[.bool d, .slice none 0 0, .string ⟨#[]⟩]).over B1
    simpa using this
  have K2 : AtC w1 w.heap.size 198 #[.bool d, .slice a xs.length c, .string t] := (((AtC.new w 198 #[.bool d, .slice a xs.length c, .string t]).alloc _).alloc _).over B1
  obtain ⟨q0, q1, q2, m0⟩ := K0.three
  obtain ⟨z0, z1, z2⟩ := K0.frz
  obtain ⟨d0, d1, d2, m1⟩ := K1.three
  obtain ⟨f0, f1, f2⟩ := K1.frz
  obtain ⟨g0, g1, g2, m2⟩ := K2.three
  have B2 : Below w.heap.size w w1 := ((((Below.refl _ w).alloc (Nat.le_refl _) _).alloc (by simp) _).alloc (by simp; omega) _).trans (B1.mono (by simp; omega))
  have O2 : SOwns w1 (w.heap.size + 1 + 1 + 1) 137 (.slice a1 xs.length c1) xs := O1.base_le (by simp)
  have HO := hide O2
  have HB := hide B2
  clear O1 O2 B1 B2 K0 K1 K2
  go_wp2
  refine bodyPost_ret (v := .agg #[.bool d, .slice a1 xs.length c1, .string t]) (by simp [results, go_sem, q0, q1, q2]) rfl ⟨_, rfl, ?_, ?_⟩
  · exact (((((HO.out.setCell_low (by omega) _).setCell_low (by omega) _).setCell_low (by omega) _).setCell_low (by omega) _).setCell_low (by omega) _).base_le (by omega)
  · exact (((((HB.out.setCell (by simp; omega) _).setCell (by simp; omega) _).setCell (by simp) _).setCell (by simp) _).setCell (by simp) _)
end Go.Proofs.YtmjhgfkplolelaaGreat
/- laws.szDisk and what it calls, by their contracts, whatever is left. -/
namespace Go.Proofs.YtmjhgfkplolelaaGreat.Kit
open Go.RowKit
theorem R3.ino {w : World} {v : Value} {xs : List Ino} (h : R3 KI w v xs) : ∃ a cap, v = .slice a xs.length cap ∧ xs.length ≤ cap ∧ ∀ (j : Nat) (h : j < xs.length), ∃ g off p, a = some ⟨g, off, none⟩ ∧ g < w.heap.size ∧ w.cell? ⟨g, off + j * 3, none⟩ = some (.int .i64 xs[j].1) ∧ w.cell? ⟨g, off + j * 3 + 1, none⟩ = some (.int .i64 xs[j].2.1) ∧ w.cell? ⟨g, off + j * 3 + 2, none⟩ = some p ∧ RInts w p xs[j].2.2 := by
  obtain ⟨a, cap, e, hc, h⟩ := h
  refine ⟨a, cap, e, hc, fun j hj => ?_⟩
  obtain ⟨g, off, t, e1, hg, c0, c1, c2, r0, r1, r2⟩ := h j hj
  exact ⟨g, off, t.2.2, e1, hg, by rw [c0, r0], by rw [c1, r1], c2, r2⟩
theorem R3.blk {w : World} {v : Value} {xs : List Blk} (h : R3 KB w v xs) : ∃ a cap, v = .slice a xs.length cap ∧ xs.length ≤ cap ∧ ∀ (j : Nat) (h : j < xs.length), ∃ g off p, a = some ⟨g, off, none⟩ ∧ g < w.heap.size ∧ w.cell? ⟨g, off + j * 3, none⟩ = some (.bool xs[j].1) ∧ w.cell? ⟨g, off + j * 3 + 1, none⟩ = some p ∧ w.cell? ⟨g, off + j * 3 + 2, none⟩ = some (.string xs[j].2.2) ∧ RSl w p xs[j].2.1 := by
  obtain ⟨a, cap, e, hc, h⟩ := h
  refine ⟨a, cap, e, hc, fun j hj => ?_⟩
  obtain ⟨g, off, t, e1, hg, c0, c1, c2, r0, r1, r2⟩ := h j hj
  exact ⟨g, off, t.2.1, e1, hg, by rw [c0, r0], c1, by rw [c2, r2], r1⟩
/-- A block whose texts are not longer than n. -/
def bigB (n : Nat) (b : Blk) : Prop := b.2.1.length ≤ n ∧ (∀ (j : Nat) (h : j < b.2.1.length), b.2.1[j].1.size ≤ n) ∧ b.2.2.size ≤ n
/-- Lists and texts of a disk are not longer than n. -/
structure Big (n : Nat) (xs ys : List Bool) (is : List Ino) (bs : List Blk) : Prop where
  x : xs.length ≤ n
  y : ys.length ≤ n
  i : is.length ≤ n
  p : ∀ (j : Nat) (h : j < is.length), is[j].2.2.length ≤ n
  b : bs.length ≤ n
  s : ∀ (j : Nat) (h : j < bs.length), bigB n bs[j]
end Go.Proofs.YtmjhgfkplolelaaGreat.Kit
namespace Go.Proofs.YtmjhgfkplolelaaGreat
open Go.RowKit Kit

set_option maxHeartbeats 800000 in
theorem szBits_L (a1 a2 : Option Addr) (n m c1 c2 : Nat) (L : Int) (w : World) (h0 : 0 ≤ L) (hL : L ≤ 1048576) (h1 : n ≤ maxLen) (h2 : m ≤ maxLen) :
    Calls Tryz.prog 80 #[.agg #[.slice a1 n c1, .slice a2 m c2], .int .i64 L] w fun e w' => ∃ r, e = .returned (.int .i64 r) ∧ (r = -1 ∨ (0 ≤ r ∧ r ≤ L ∧ n ≤ 1048576 ∧ m ≤ 1048576)) ∧ Below w.heap.size w w' := by
  have h3 : n ≤ 9223372036854775807 := h1
  have h4 : m ≤ 9223372036854775807 := h2
  clear h1 h2
  by_cases hn : L - (n : Int) < 0
  · go_enter Tryz.func80, Tryz.ntmps80
    go_wp2
    go_ret
    exact ⟨_, rfl, .inl rfl, by go_grown⟩
  · by_cases hm : L - (n : Int) - (m : Int) < 0
    · go_enter Tryz.func80, Tryz.ntmps80
      go_wp2
      go_ret
      exact ⟨_, rfl, .inl rfl, by go_grown⟩
    · go_enter Tryz.func80, Tryz.ntmps80
      go_wp2
      go_ret
      exact ⟨_, rfl, .inr ⟨by omega, by omega, by omega, by omega⟩, by go_grown⟩
set_option maxHeartbeats 800000 in
theorem szIno_L (k l : Int) (a : Option Addr) (n c : Nat) (L : Int) (w : World) (h0 : 0 ≤ L) (hL : L ≤ 1048576) (h1 : n ≤ maxLen) :
    Calls Tryz.prog 136 #[.agg #[.int .i64 k, .int .i64 l, .slice a n c], .int .i64 L] w fun e w' => ∃ r, e = .returned (.int .i64 r) ∧ (r = -1 ∨ (0 ≤ r ∧ r ≤ L ∧ n ≤ 1048576)) ∧ Below w.heap.size w w' := by
  have h3 : n ≤ 9223372036854775807 := h1
  clear h1
  by_cases hn : L - (n : Int) < 0
  · go_enter Tryz.func136, Tryz.ntmps136
    go_wp2
    go_ret
    exact ⟨_, rfl, .inl rfl, by go_grown⟩
  · go_enter Tryz.func136, Tryz.ntmps136
    go_wp2
    go_ret
    exact ⟨_, rfl, .inr ⟨by omega, by omega, by omega⟩, by go_grown⟩
set_option maxRecDepth 100000 in
set_option maxHeartbeats 1600000 in
theorem szInoS_L (v : Value) (xs : List Ino) (L0 : Int) (w : World) (hv : R3 KI w v xs) (h0 : 0 ≤ L0) (h1 : L0 ≤ 1048576) (hlen : xs.length ≤ maxLen) (hbig : ∀ (j : Nat) (h : j < xs.length), xs[j].2.2.length ≤ maxLen) :
    Calls Tryz.prog 81 #[v, .int .i64 L0] w fun e w' => ∃ r, e = .returned (.int .i64 r) ∧ (r = -1 ∨ (0 ≤ r ∧ r ≤ L0 ∧ xs.length ≤ 1048576 ∧ ∀ (j : Nat) (h : j < xs.length), xs[j].2.2.length ≤ 1048576)) ∧ Below w.heap.size w w' := by
  obtain ⟨a, c, rfl, -, hc⟩ := hv.ino
  have HC := hide hc
  have HG := hide hbig
  have hl' : xs.length ≤ 9223372036854775807 := hlen
  clear hc hbig hlen hv
  by_cases hn : L0 - (xs.length : Int) < 0
  · go_enter Tryz.func81, Tryz.ntmps81
    go_wp2
    go_ret
    exact ⟨-1, rfl, .inl rfl, Below.refl _ _⟩
  · have hn2 : decide (L0 - (xs.length : Int) < 0) = false := by simp; omega
    go_enter Tryz.func81, Tryz.ntmps81
    go_wp2
    go_loopw [1, 5] (fun x i wr => ∃ (j : Nat) (L : Int), j ≤ xs.length ∧ i = .int .i64 j ∧ x = .int .i64 L ∧ 0 ≤ L ∧ L ≤ L0 ∧ Hid (∀ (k : Nat) (h : k < xs.length), k < j → xs[k].2.2.length ≤ 1048576) ∧ Below w.heap.size w wr) (fun _ i _ => xs.length - (intOf i).toNat)
    case atStart => exact ⟨0, _, Nat.zero_le _, rfl, rfl, by omega, by omega, fun _ _ h => absurd h (Nat.not_lt_zero _), Below.refl _ _⟩
    case round =>
      obtain ⟨j, L, hj, rfl, rfl, hL0, hL1, HS, hb⟩ := hrel
      by_cases hlt : j < xs.length
      · obtain ⟨g, off, p, rfl, hg, m1, m2, m3, hp⟩ := HC.out j hlt
        obtain ⟨pa, pc, rfl⟩ := hp.form
        have q1 := (hb.cell (p := ⟨g, off + j * 3, none⟩) hg).trans m1
        have q2 := (hb.cell (p := ⟨g, off + j * 3 + 1, none⟩) hg).trans m2
        have q3 := (hb.cell (p := ⟨g, off + j * 3 + 2, none⟩) hg).trans m3
        have hgt := HG.out j hlt
        obtain ⟨n, hn⟩ : ∃ n, xs[j].2.2.length = n := ⟨_, rfl⟩
        obtain ⟨y, hy⟩ : ∃ y, xs[j].1 = y := ⟨_, rfl⟩
        obtain ⟨z, hz⟩ : ∃ z, xs[j].2.1 = z := ⟨_, rfl⟩
        rw [hn] at q3 hgt
        rw [hy] at q1
        rw [hz] at q2
        have HT := hide hn
        have HGT := hide hgt
        have HB := hide hb
        have hsz := hb.size
        have j0 : (0 : Int) ≤ (j : Int) := by omega
        have j1 : (j : Int) < (xs.length : Int) := by omega
        clear m1 m2 m3 hy hz hb hgt hp hn
        go_wp2_with (go_at_call 136; refine (szIno_L _ _ _ _ _ _ _ hL0 (by omega) HGT.out).mono ?_; rintro e w1 ⟨r, rfl, hr, B1⟩; have HB1 := hide (HB.out.trans (B1.mono hsz)); have HRR := hide hr; have hr1 : -1 ≤ r := by { rcases hr with h | h <;> omega }; clear B1 hr)
        · go_ret
          exact ⟨-1, rfl, .inl rfl, HB1.out⟩
        · have hr0 : 0 ≤ r := by omega
          have hrr : r ≤ L ∧ n ≤ 1048576 := by rcases HRR.out with h | h <;> omega
          go_roundw
          case rel =>
            refine ⟨j + 1, r, by omega, by go_num, rfl, hr0, by omega, fun k hk hkj => ?_, HB1.out⟩
            by_cases hkk : k = j
            · subst hkk; rw [HT.out]; omega
            · exact HS.out k hk (by omega)
          case measure => simp [intOf]; omega
      · have HB := hide hb
        clear hb
        go_wp2
        go_ret
        exact ⟨L, rfl, .inr ⟨hL0, hL1, by omega, fun k hk => HS.out k hk (by omega)⟩, HB.out⟩
set_option maxRecDepth 100000 in
set_option maxHeartbeats 1600000 in
theorem szS_L (v : Value) (xs : List Sl) (L0 : Int) (w : World) (hv : RSl w v xs) (h0 : 0 ≤ L0) (h1 : L0 ≤ 1048576) (hlen : xs.length ≤ maxLen) (hbig : ∀ (j : Nat) (h : j < xs.length), xs[j].1.size ≤ maxLen) :
    Calls Tryz.prog 170 #[v, .int .i64 L0] w fun e w' => ∃ r, e = .returned (.int .i64 r) ∧ (r = -1 ∨ (0 ≤ r ∧ r ≤ L0 ∧ xs.length ≤ 1048576 ∧ ∀ (j : Nat) (h : j < xs.length), xs[j].1.size ≤ 1048576)) ∧ Below w.heap.size w w' := by
  obtain ⟨a, c, rfl, -, hc⟩ := hv
  have HC := hide hc
  have HG := hide hbig
  have hl' : xs.length ≤ 9223372036854775807 := hlen
  clear hc hbig hlen
  by_cases hn : L0 - (xs.length : Int) < 0
  · go_enter Tryz.func170, Tryz.ntmps170
    go_wp2
    go_ret
    exact ⟨-1, rfl, .inl rfl, Below.refl _ _⟩
  · have hn2 : decide (L0 - (xs.length : Int) < 0) = false := by simp; omega
    go_enter Tryz.func170, Tryz.ntmps170
    go_wp2
    go_loopw [1, 5] (fun x i wr => ∃ (j : Nat) (L : Int), j ≤ xs.length ∧ i = .int .i64 j ∧ x = .int .i64 L ∧ 0 ≤ L ∧ L ≤ L0 ∧ Hid (∀ (k : Nat) (h : k < xs.length), k < j → xs[k].1.size ≤ 1048576) ∧ Below w.heap.size w wr) (fun _ i _ => xs.length - (intOf i).toNat)
    case atStart => exact ⟨0, _, Nat.zero_le _, rfl, rfl, by omega, by omega, fun _ _ h => absurd h (Nat.not_lt_zero _), Below.refl _ _⟩
    case round =>
      obtain ⟨j, L, hj, rfl, rfl, hL0, hL1, HS, hb⟩ := hrel
      by_cases hlt : j < xs.length
      · obtain ⟨g, off, rfl, hg, m1, m2⟩ := HC.out j hlt
        have q1 := (hb.cell (p := ⟨g, off + j * 2, none⟩) hg).trans m1
        have q2 := (hb.cell (p := ⟨g, off + j * 2 + 1, none⟩) hg).trans m2
        have hgt := HG.out j hlt
        obtain ⟨t, ht⟩ : ∃ t, xs[j].1 = t := ⟨_, rfl⟩
        obtain ⟨z, hz⟩ : ∃ z, xs[j].2 = z := ⟨_, rfl⟩
        rw [ht] at q1 hgt
        rw [hz] at q2
        have HT := hide ht
        have HGT := hide hgt
        have HB := hide hb
        have hsz := hb.size
        have j0 : (0 : Int) ≤ (j : Int) := by omega
        have j1 : (j : Int) < (xs.length : Int) := by omega
        clear m1 m2 ht hz hb hgt
        go_wp2_with (go_at_call 191; refine (szOne_any _ _ _ _ hL0 (by omega) HGT.out).mono ?_; rintro e w1 ⟨r, rfl, hr, B1⟩; have HB1 := hide (HB.out.trans (B1.mono hsz)); have HRR := hide hr; have hr1 : -1 ≤ r := by { rcases hr with h | h <;> omega }; clear B1 hr)
        · go_ret
          exact ⟨-1, rfl, .inl rfl, HB1.out⟩
        · have hr0 : 0 ≤ r := by omega
          have hrr : r ≤ L ∧ (t.size : Int) ≤ L := by rcases HRR.out with h | h <;> omega
          go_roundw
          case rel =>
            refine ⟨j + 1, r, by omega, by go_num, rfl, hr0, by omega, fun k hk hkj => ?_, HB1.out⟩
            by_cases hkk : k = j
            · subst hkk; rw [HT.out]; omega
            · exact HS.out k hk (by omega)
          case measure => simp [intOf]; omega
      · have HB := hide hb
        clear hb
        go_wp2
        go_ret
        exact ⟨L, rfl, .inr ⟨hL0, hL1, by omega, fun k hk => HS.out k hk (by omega)⟩, HB.out⟩
set_option maxHeartbeats 800000 in
theorem szBlk_L (d : Bool) (v : Value) (t : ByteArray) (xs : List Sl) (L0 : Int) (w : World) (hv : RSl w v xs) (h0 : 0 ≤ L0) (h1 : L0 ≤ 1048576) (hB : bigB maxLen (d, xs, t)) :
    Calls Tryz.prog 137 #[.agg #[.bool d, v, .string t], .int .i64 L0] w fun e w' => ∃ r, e = .returned (.int .i64 r) ∧ (r = -1 ∨ (0 ≤ r ∧ r ≤ L0 ∧ bigB 1048576 (d, xs, t))) ∧ Below w.heap.size w w' := by
  obtain ⟨hlen, hbig, ht⟩ := hB
  have HV := hide hv
  have HL := hide hlen
  have HG := hide hbig
  obtain ⟨a, c, rfl, -⟩ := hv
  have ht' : t.size ≤ 9223372036854775807 := ht
  clear ht hlen hbig
  go_enter Tryz.func137, Tryz.ntmps137
  go_wp2_with fail
  refine (szS_L _ xs _ _ (HV.out.alloc _) h0 h1 HL.out HG.out).mono ?_
  rintro e w1 ⟨r, rfl, hr, B1⟩
  obtain ⟨r0, r1, r2, r3⟩ := ((AtC.new w 198 #[.bool d, .slice a xs.length c, .string t]).over B1).three
  have HB := hide (((Below.refl _ w).alloc (Nat.le_refl _) (.cells #[.bool d, .slice a xs.length c, .string t] 198)).trans (B1.mono (by simp)))
  have HR := hide hr
  have hr1 : -1 ≤ r := by rcases hr with h | h <;> omega
  have hr2 : r ≤ 1048576 := by rcases hr with h | h <;> omega
  clear hr B1
  by_cases hneg : r < 0
  · go_wp2
    go_ret
    exact ⟨-1, rfl, .inl rfl, HB.out⟩
  · by_cases h : r - (t.size : Int) < 0
    · go_wp2
      go_ret
      exact ⟨-1, rfl, .inl rfl, HB.out⟩
    · go_wp2
      go_ret
      have := HR.out.resolve_left (by omega)
      exact ⟨r - (t.size : Int), rfl, .inr ⟨by omega, by omega, this.2.2.1, this.2.2.2, show t.size ≤ 1048576 by omega⟩, HB.out⟩
set_option maxRecDepth 100000 in
set_option maxHeartbeats 1600000 in
theorem szBlkS_L (v : Value) (xs : List Blk) (L0 : Int) (w : World) (hv : R3 KB w v xs) (h0 : 0 ≤ L0) (h1 : L0 ≤ 1048576) (hlen : xs.length ≤ maxLen) (hbig : ∀ (j : Nat) (h : j < xs.length), bigB maxLen xs[j]) :
    Calls Tryz.prog 82 #[v, .int .i64 L0] w fun e w' => ∃ r, e = .returned (.int .i64 r) ∧ (r = -1 ∨ (0 ≤ r ∧ r ≤ L0 ∧ xs.length ≤ 1048576 ∧ ∀ (j : Nat) (h : j < xs.length), bigB 1048576 xs[j])) ∧ Below w.heap.size w w' := by
  obtain ⟨a, c, rfl, -, hc⟩ := hv.blk
  have HC := hide hc
  have HG := hide hbig
  have hl' : xs.length ≤ 9223372036854775807 := hlen
  clear hc hbig hlen hv
  by_cases hn : L0 - (xs.length : Int) < 0
  · go_enter Tryz.func82, Tryz.ntmps82
    go_wp2
    go_ret
    exact ⟨-1, rfl, .inl rfl, Below.refl _ _⟩
  · have hn2 : decide (L0 - (xs.length : Int) < 0) = false := by simp; omega
    go_enter Tryz.func82, Tryz.ntmps82
    go_wp2
    go_loopw [1, 5] (fun x i wr => ∃ (j : Nat) (L : Int), j ≤ xs.length ∧ i = .int .i64 j ∧ x = .int .i64 L ∧ 0 ≤ L ∧ L ≤ L0 ∧ Hid (∀ (k : Nat) (h : k < xs.length), k < j → bigB 1048576 xs[k]) ∧ Below w.heap.size w wr) (fun _ i _ => xs.length - (intOf i).toNat)
    case atStart => exact ⟨0, _, Nat.zero_le _, rfl, rfl, by omega, by omega, fun _ _ h => absurd h (Nat.not_lt_zero _), Below.refl _ _⟩
    case round =>
      obtain ⟨j, L, hj, rfl, rfl, hL0, hL1, HS, hb⟩ := hrel
      by_cases hlt : j < xs.length
      · obtain ⟨g, off, p, rfl, hg, m1, m2, m3, hp⟩ := HC.out j hlt
        have q1 := (hb.cell (p := ⟨g, off + j * 3, none⟩) hg).trans m1
        have q2 := (hb.cell (p := ⟨g, off + j * 3 + 1, none⟩) hg).trans m2
        have q3 := (hb.cell (p := ⟨g, off + j * 3 + 2, none⟩) hg).trans m3
        have hp2 := hp.below hb (Nat.le_refl _)
        have hgt := HG.out j hlt
        obtain ⟨y, hy⟩ : ∃ y, xs[j].1 = y := ⟨_, rfl⟩
        obtain ⟨s, hs⟩ : ∃ s, xs[j].2.1 = s := ⟨_, rfl⟩
        obtain ⟨z, hz⟩ : ∃ z, xs[j].2.2 = z := ⟨_, rfl⟩
        have hx : xs[j] = (y, s, z) := by rw [← hy, ← hs, ← hz]
        rw [hy] at q1
        rw [hz] at q3
        rw [hs] at hp2
        rw [hx] at hgt
        have HT := hide hx
        have HGT := hide hgt
        have HB := hide hb
        have HP := hide hp2
        have hsz := hb.size
        have j0 : (0 : Int) ≤ (j : Int) := by omega
        have j1 : (j : Int) < (xs.length : Int) := by omega
        clear m1 m2 m3 hy hz hs hb hgt hp hp2 hx
        go_wp2_with (go_at_call 137; refine (szBlk_L _ _ _ s _ _ HP.out hL0 (by omega) HGT.out).mono ?_; rintro e w1 ⟨r, rfl, hr, B1⟩; have HB1 := hide (HB.out.trans (B1.mono hsz)); have HRR := hide hr; have hr1 : -1 ≤ r := by { rcases hr with h | h <;> omega }; clear B1 hr)
        · go_ret
          exact ⟨-1, rfl, .inl rfl, HB1.out⟩
        · have hr0 : 0 ≤ r := by omega
          have hrr := HRR.out.resolve_left (by omega)
          have hrL := hrr.2.1
          have HRB := hide hrr.2.2
          clear hrr
          go_roundw
          case rel =>
            refine ⟨j + 1, r, by omega, by go_num, rfl, hr0, by omega, fun k hk hkj => ?_, HB1.out⟩
            by_cases hkk : k = j
            · subst hkk; rw [HT.out]; exact HRB.out
            · exact HS.out k hk (by omega)
          case measure => simp [intOf]; omega
      · have HB := hide hb
        clear hb
        go_wp2
        go_ret
        exact ⟨L, rfl, .inr ⟨hL0, hL1, by omega, fun k hk => HS.out k hk (by omega)⟩, HB.out⟩
end Go.Proofs.YtmjhgfkplolelaaGreat
/- laws.szDisk by its contract. -/
namespace Go.Proofs.YtmjhgfkplolelaaGreat
open Go.RowKit Kit
set_option maxRecDepth 100000 in
set_option maxHeartbeats 1600000 in
theorem szDisk_L (u v iv bv : Value) (xs ys : List Bool) (is : List Ino) (bs : List Blk) (L0 : Int) (w : World) (h1 : RFl w u xs) (h2 : RFl w v ys) (h3 : R3 KI w iv is) (h4 : R3 KB w bv bs) (hL : 0 ≤ L0) (hL1 : L0 ≤ 1048576) (hB : Big maxLen xs ys is bs) :
    Calls Tryz.prog 43 #[.agg #[u, v, iv, bv], .int .i64 L0] w fun e w' => ∃ r, e = .returned (.int .i64 r) ∧ (r = -1 ∨ (0 ≤ r ∧ r ≤ L0 ∧ Big 1048576 xs ys is bs)) ∧ Below w.heap.size w w' := by
  obtain ⟨a1, c1, rfl⟩ := h1.form
  obtain ⟨a2, c2, rfl⟩ := h2.form
  obtain ⟨a3, c3, rfl⟩ := h3.form
  obtain ⟨a4, c4, rfl⟩ := h4.form
  have H3 := hide h3
  have H4 := hide h4
  have HBG := hide hB
  clear h1 h2 h3 h4 hB
  go_enter Tryz.func43, Tryz.ntmps43
  go_wp2_with fail
  refine (szBits_L _ _ _ _ _ _ _ _ hL hL1 HBG.out.x HBG.out.y).mono ?_
  rintro e w1 ⟨r, rfl, hr, B1⟩
  have K0 := (AtC.new w 28 #[.slice a1 xs.length c1, .slice a2 ys.length c2, .slice a3 is.length c3, .slice a4 bs.length c4]).over B1
  have r2 := K0.cell 2
  have r3 := K0.cell 3
  have r4 := K0.lt
  have HB1 := hide (((Below.refl _ w).alloc (Nat.le_refl _) (.cells #[.slice a1 xs.length c1, .slice a2 ys.length c2, .slice a3 is.length c3, .slice a4 bs.length c4] 28)).trans (B1.mono (by simp)))
  have HK := hide K0
  have HR := hide hr
  have hr1 : -1 ≤ r := by rcases hr with h | h <;> omega
  have hr2 : r ≤ 1048576 := by rcases hr with h | h <;> omega
  clear hr B1 K0
  by_cases hneg : r < 0
  · go_wp2
    go_ret
    exact ⟨-1, rfl, .inl rfl, HB1.out⟩
  · have hrr := HR.out.resolve_left (by omega)
    have hrL := hrr.2.1
    have HXY := hide hrr.2.2
    clear hrr
    simp only [List.getElem?_toArray, List.getElem?_cons_succ, List.getElem?_cons_zero] at r2 r3
    go_wp2_with fail
    refine (szInoS_L _ is _ _ (H3.out.below HB1.out (Nat.le_refl _)) (by omega) hr2 HBG.out.i HBG.out.p).mono ?_
    rintro e w2 ⟨r', rfl, hr, B2⟩
    have K1 := HK.out.over B2
    have r5 := K1.cell 3
    have r6 := K1.lt
    have HB2 := hide (HB1.out.trans (B2.mono HB1.out.size))
    have HR2 := hide hr
    have hr3 : -1 ≤ r' := by rcases hr with h | h <;> omega
    have hr4 : r' ≤ 1048576 := by rcases hr with h | h <;> omega
    clear hr B2 K1
    by_cases hneg2 : r' < 0
    · go_wp2
      go_ret
      exact ⟨-1, rfl, .inl rfl, HB2.out⟩
    · have hrr := HR2.out.resolve_left (by omega)
      have hrL2 := hrr.2.1
      have HI := hide hrr.2.2
      clear hrr
      simp only [List.getElem?_toArray, List.getElem?_cons_succ, List.getElem?_cons_zero] at r5
      go_wp2_with fail
      refine (szBlkS_L _ bs _ _ (H4.out.below HB2.out (Nat.le_refl _)) (by omega) hr4 HBG.out.b HBG.out.s).mono ?_
      rintro e w3 ⟨r7, rfl, hr, B3⟩
      have HB3 := hide (HB2.out.trans (B3.mono HB2.out.size))
      have HR3 := hide hr
      have hr7 : -1 ≤ r7 := by rcases hr with h | h <;> omega
      have hr8 : r7 ≤ 1048576 := by rcases hr with h | h <;> omega
      clear hr B3
      by_cases hneg3 : r7 < 0
      · go_wp2
        go_ret
        exact ⟨-1, rfl, .inl rfl, HB3.out⟩
      · go_wp2
        go_ret
        have hrr := HR3.out.resolve_left (by omega)
        exact ⟨r7, rfl, .inr ⟨by omega, by omega, ⟨HXY.out.1, HXY.out.2, HI.out.1, HI.out.2, hrr.2.2.1, hrr.2.2.2⟩⟩, HB3.out⟩
end Go.Proofs.YtmjhgfkplolelaaGreat
/- A whole disk: how it lies, how it is read; laws.toInodeS, laws.toBlockS and laws.toDisk by their contracts. -/
namespace Go.Proofs.YtmjhgfkplolelaaGreat.Kit
open Go.RowKit
theorem made_three (a b c : Value) (n : Nat) : (madeCells #[a, b, c] (n * 3)).toList = f3 (List.replicate n (a, b, c)) := by
  apply List.ext_getElem?
  intro j
  by_cases hj : j < n * 3
  · have e : (madeCells #[a, b, c] (n * 3)).toList[j]? = some (#[a, b, c][j % 3]!) := by simp [madeCells, hj]
    rw [e]
    obtain ⟨q, hq⟩ : ∃ q, q = j / 3 := ⟨_, rfl⟩
    have hql : q < (List.replicate n (a, b, c)).length := by simp; omega
    have k := f3_at (List.replicate n (a, b, c)) q hql
    have hm : j % 3 = 0 ∨ j % 3 = 1 ∨ j % 3 = 2 := by omega
    rcases hm with h | h | h
    · rw [show j = q * 3 by omega, k.1, show q * 3 % 3 = 0 by omega]; simp
    · rw [show j = q * 3 + 1 by omega, k.2.1, show (q * 3 + 1) % 3 = 1 by omega]; simp
    · rw [show j = q * 3 + 2 by omega, k.2.2, show (q * 3 + 2) % 3 = 2 by omega]; simp
  · rw [List.getElem?_eq_none (by simp [madeCells]; omega), List.getElem?_eq_none (by rw [f3_length]; simp; omega)]
/-- The first j are those of xs, the rest is z. -/
def cpy {α : Type} (z : α) (j : Nat) (xs : List α) : List α := xs.take j ++ List.replicate (xs.length - j) z
theorem cpy_length {α : Type} (z : α) (j : Nat) (xs : List α) (h : j ≤ xs.length) : (cpy z j xs).length = xs.length := by simp [cpy]; omega
theorem cpy_zero {α : Type} (z : α) (xs : List α) : cpy z 0 xs = List.replicate xs.length z := by simp [cpy]
theorem cpy_all {α : Type} (z : α) (xs : List α) : cpy z xs.length xs = xs := by simp [cpy]
theorem cpy_set {α : Type} (z : α) (j : Nat) (xs : List α) (h : j < xs.length) : (cpy z j xs).set j xs[j] = cpy z (j + 1) xs := by
  have hlen : (xs.take j).length = j := by simp; omega
  unfold cpy
  rw [List.set_append_right _ _ (by omega), hlen, Nat.sub_self, show xs.length - j = (xs.length - (j + 1)) + 1 by omega, List.replicate_succ, List.set_cons_zero,
    List.append_cons, List.take_append_getElem h]
namespace GO
variable {α : Type} {K : Kd α} {w w1 w' : World} {S S' : Nat → Prop} {v : Value} {ts : List V3} {xs : List α}
theorem bound (h : GO K w S v ts xs) : GO K w (fun k => S k ∧ k < w.heap.size) v ts xs :=
  ⟨h.len, h.row, h.inn, h.sep, h.out, fun k e => ⟨h.so k e, h.row.lt k e⟩, fun j hj k e => ⟨h.si j hj k e, K.lt (h.inn j hj (by rw [← h.len]; exact hj)) k e⟩⟩
theorem setCell_other (h : GO K w S v ts xs) {b j : Nat} (hb : ¬ S b) (x : Value) : GO K (w.setCell ⟨b, j, none⟩ x) S v ts xs :=
  h.of_heap fun k hs _ => heap_setCell_other w ⟨b, j, none⟩ k x (fun e => hb (by simp at e; subst e; exact hs))
/-- One of them is stored anew, with a slice that came behind w. -/
theorem put (h : GO K w S v ts xs) {g n cap : Nat} (hv : v = .slice (some ⟨g, 0, none⟩) n cap) (j : Nat) (hj : j < ts.length) (t' : V3) (x' : α) (hb : Below w.heap.size w w1) (hO : K.O w1 t' x')
    (hn : ∀ k, (K.p t').ownBlock = some k → w.heap.size ≤ k) (hs : ∀ k, S k → S' k) (hs2 : ∀ k, w.heap.size ≤ k → S' k) :
    GO K (((w1.setCell ⟨g, j * 3, none⟩ t'.1).setCell ⟨g, j * 3 + 1, none⟩ t'.2.1).setCell ⟨g, j * 3 + 2, none⟩ t'.2.2) S' v (ts.set j t') (xs.set j x') := by
  have hg : g < w.heap.size := h.row.lt g (by rw [hv]; rfl)
  have r1 : TOwns w1 K.T v ts := h.row.of_heap fun k hk => hb.block k (h.row.lt k hk)
  have hlen : n = ts.length := by
    obtain ⟨a, c, e, _⟩ := h.row.form
    rw [hv] at e
    simp only [Value.slice.injEq] at e
    exact e.2.1
  have hoth : ∀ k, k ≠ g → (((w1.setCell ⟨g, j * 3, none⟩ t'.1).setCell ⟨g, j * 3 + 1, none⟩ t'.2.1).setCell ⟨g, j * 3 + 2, none⟩ t'.2.2).heap[k]? = w1.heap[k]? := fun k hk =>
    ((heap_setCell_other _ ⟨g, j * 3 + 2, none⟩ k _ (by simpa using hk)).trans (heap_setCell_other _ ⟨g, j * 3 + 1, none⟩ k _ (by simpa using hk))).trans (heap_setCell_other _ ⟨g, j * 3, none⟩ k _ (by simpa using hk))
  subst hlen
  subst hv
  refine h.turn j hj t' x' ?_ (K.heap hO fun k hk => hoth k (by have := hn k hk; omega)) (fun k hk h1 _ => (hoth k (fun e => h1 (by rw [e]; rfl))).trans (hb.block k hk)) (fun k hk => .inr (hn k hk)) hs (fun k hk => hs2 k (hn k hk))
  exact r1.set j hj _ _ _
/-- As many zeroes, made anew. -/
theorem made (w : World) (z : V3) (x : α) (n : Nat) (hm : n ≤ maxLen) (cs : Array Value) (hc : cs.toList = f3 (List.replicate n z)) (hO : ∀ w, K.O w z x) (hz : (K.p z).ownBlock = none) :
    GO K (w.alloc (.cells cs K.T)) (fun k => w.heap.size ≤ k) (.slice (some ⟨w.heap.size, 0, none⟩) n n) (List.replicate n z) (List.replicate n x) := by
  refine ⟨by simp, ?_, fun j hj hj' => ?_, fun i j hi hj _ k e => ?_, fun j hj k e => ?_, fun k e => ?_, fun j hj k e => ?_⟩
  · have := TOwns.lit w K.T cs (List.replicate n z) hc (by simpa using hm)
    simpa using this
  · simp only [List.getElem_replicate]
    exact hO _
  · simp only [List.getElem_replicate] at e
    rw [hz] at e; cases e
  · simp only [List.getElem_replicate] at e
    rw [hz] at e; cases e
  · simp only [Value.ownBlock, Option.some.injEq] at e
    omega
  · simp only [List.getElem_replicate] at e
    rw [hz] at e; cases e
end GO
/-- An inode, a block of zeroes, and their cells. -/
def zI : Ino := (0, 0, [])
def zB : Blk := (false, [], ⟨#[]⟩)
def zI3 : V3 := (.int .i64 0, .int .i64 0, .slice none 0 0)
def zB3 : V3 := (.bool false, .slice none 0 0, .string ⟨#[]⟩)
theorem zI_own (w : World) : KI.O w zI3 zI := ⟨rfl, rfl, ROwns.nil _ _ _⟩
theorem zB_own (w : World) : KB.O w zB3 zB := ⟨rfl, SOwns.nil _ _ _, rfl⟩
/-- The parts of a disk are read so. -/
structure DR (w : World) (u v iv bv : Value) (xs ys : List Bool) (is : List Ino) (bs : List Blk) : Prop where
  a : RFl w u xs
  b : RFl w v ys
  i : R3 KI w iv is
  k : R3 KB w bv bs
namespace DR
variable {w w' : World} {u v iv bv : Value} {xs ys : List Bool} {is : List Ino} {bs : List Blk}
theorem below {B : Nat} (h : DR w u v iv bv xs ys is bs) (hb : Below B w w') (hB : w.heap.size ≤ B) : DR w' u v iv bv xs ys is bs := ⟨h.a.below hb hB, h.b.below hb hB, h.i.below hb hB, h.k.below hb hB⟩
theorem alloc (h : DR w u v iv bv xs ys is bs) (o : Obj) : DR (w.alloc o) u v iv bv xs ys is bs := h.below ((Below.refl _ w).alloc (Nat.le_refl _) o) (Nat.le_refl _)
theorem drew (h : DR w u v iv bv xs ys is bs) : DR w.drew u v iv bv xs ys is bs := h.below (Below.refl w.heap.size w).drew (Nat.le_refl _)
theorem form (h : DR w u v iv bv xs ys is bs) : ∃ a1 c1 a2 c2 a3 c3 a4 c4, u = .slice a1 xs.length c1 ∧ v = .slice a2 ys.length c2 ∧ iv = .slice a3 is.length c3 ∧ bv = .slice a4 bs.length c4 := by
  obtain ⟨a1, c1, e1⟩ := h.a.form
  obtain ⟨a2, c2, e2⟩ := h.b.form
  obtain ⟨a3, c3, e3⟩ := h.i.form
  obtain ⟨a4, c4, e4⟩ := h.k.form
  exact ⟨a1, c1, a2, c2, a3, c3, a4, c4, e1, e2, e3, e4⟩
end DR
/-- The parts of a disk are owned, each in blocks of its own, all of them of S. -/
def DO (w : World) (S : Nat → Prop) (u v iv bv : Value) (xs ys : List Bool) (is : List Ino) (bs : List Blk) : Prop :=
  ∃ (S1 S2 S3 : Nat → Prop) (ti tb : List V3), Two w 0 u v xs ys ∧ (∀ k, (u.ownBlock = some k ∨ v.ownBlock = some k) → S1 k) ∧ GO KI w S2 iv ti is ∧ GO KB w S3 bv tb bs ∧ (∀ k, S1 k → ¬ S2 k ∧ ¬ S3 k) ∧ (∀ k, S2 k → ¬ S3 k) ∧ ∀ k, S1 k ∨ S2 k ∨ S3 k → S k
namespace DO
variable {w w' : World} {S S' : Nat → Prop} {u v iv bv : Value} {xs ys : List Bool} {is : List Ino} {bs : List Blk}
theorem of_heap (h : DO w S u v iv bv xs ys is bs) (hh : ∀ k, S k → k < w.heap.size → w'.heap[k]? = w.heap[k]?) : DO w' S u v iv bv xs ys is bs := by
  obtain ⟨S1, S2, S3, ti, tb, h1, h2, h3, h4, h5, h6, h7⟩ := h
  refine ⟨S1, S2, S3, ti, tb, ⟨h1.a.of_heap fun k hk => hh k (h7 k (.inl (h2 k (.inl hk)))) (h1.a.lt k hk).2, h1.b.of_heap fun k hk => hh k (h7 k (.inl (h2 k (.inr hk)))) (h1.b.lt k hk).2, h1.ne⟩, h2, h3.of_heap fun k hs hk => hh k (h7 k (.inr (.inl hs))) hk, h4.of_heap fun k hs hk => hh k (h7 k (.inr (.inr hs))) hk, h5, h6, h7⟩
theorem below {B : Nat} (h : DO w S u v iv bv xs ys is bs) (hb : Below B w w') (hB : w.heap.size ≤ B) : DO w' S u v iv bv xs ys is bs := h.of_heap fun k _ hk => hb.block k (by omega)
theorem alloc (h : DO w S u v iv bv xs ys is bs) (o : Obj) : DO (w.alloc o) S u v iv bv xs ys is bs := h.below ((Below.refl _ w).alloc (Nat.le_refl _) o) (Nat.le_refl _)
theorem chg (h : DO w S u v iv bv xs ys is bs) (hc : Chg S' w w') (hd : ∀ k, S k → ¬ S' k) : DO w' S u v iv bv xs ys is bs := h.of_heap fun k hs hk => hc.block k hk (hd k hs)
theorem mono (h : DO w S u v iv bv xs ys is bs) (hs : ∀ k, S k → S' k) : DO w S' u v iv bv xs ys is bs := by
  obtain ⟨S1, S2, S3, ti, tb, h1, h2, h3, h4, h5, h6, h7⟩ := h
  exact ⟨S1, S2, S3, ti, tb, h1, h2, h3, h4, h5, h6, fun k hk => hs k (h7 k hk)⟩
theorem dr (h : DO w S u v iv bv xs ys is bs) : DR w u v iv bv xs ys is bs := by
  obtain ⟨S1, S2, S3, ti, tb, h1, h2, h3, h4, -⟩ := h
  exact ⟨h1.a.rfl, h1.b.rfl, h3.r3, h4.r3⟩
end DO
end Go.Proofs.YtmjhgfkplolelaaGreat.Kit
namespace Go.Proofs.YtmjhgfkplolelaaGreat
open Go.RowKit Kit
theorem Tryz.u44 : Tryz.prog.underlying 44 = some (.slice 81) := by kernel_rfl
theorem Tryz.i81 : (Tryz.prog.info? 81).map (fun i => (i.zero, i.size, i.bytes)) = some (some (.agg #[.int .i64 0, .int .i64 0, .slice none 0 0]), 3, 40) := by kernel_rfl
theorem Tryz.u45 : Tryz.prog.underlying 45 = some (.slice 101) := by kernel_rfl
theorem Tryz.i101 : (Tryz.prog.info? 101).map (fun i => (i.zero, i.size, i.bytes)) = some (some (.agg #[.bool false, .slice none 0 0, .string ⟨#[]⟩]), 3, 48) := by kernel_rfl
theorem make_ino (n : Nat) (h : n ≤ 1048576) (w : World) : (Instr.makeSlice 44 (.int .i64 (n : Int)) (.int .i64 (n : Int))).run Tryz.prog w = .ok (.slice (some ⟨w.heap.size, 0, none⟩) n n) (w.alloc (.cells (madeCells #[.int .i64 0, .int .i64 0, .slice none 0 0] (n * 3)) 81)) := by
  obtain ⟨i0, hi, hz0, hz1, hz2⟩ := info_parts Tryz.i81
  rw [run_make w 44 81 i0 _ Tryz.u44 hi hz0 .i64 .i64 n n (by omega) (by omega) (by rw [hz2]; omega) (by omega), hz1]
  rfl
theorem make_blk (n : Nat) (h : n ≤ 1048576) (w : World) : (Instr.makeSlice 45 (.int .i64 (n : Int)) (.int .i64 (n : Int))).run Tryz.prog w = .ok (.slice (some ⟨w.heap.size, 0, none⟩) n n) (w.alloc (.cells (madeCells #[.bool false, .slice none 0 0, .string ⟨#[]⟩] (n * 3)) 101)) := by
  obtain ⟨i0, hi, hz0, hz1, hz2⟩ := info_parts Tryz.i101
  rw [run_make w 45 101 i0 _ Tryz.u45 hi hz0 .i64 .i64 n n (by omega) (by omega) (by rw [hz2]; omega) (by omega), hz1]
  rfl
set_option maxRecDepth 100000 in
set_option maxHeartbeats 1600000 in
theorem toInoS_any (v : Value) (xs : List Ino) (w : World) (hv : R3 KI w v xs) (hl : xs.length ≤ 1048576) (hp : ∀ (j : Nat) (h : j < xs.length), xs[j].2.2.length ≤ 1048576) :
    Calls Tryz.prog 88 #[v] w fun e w' => ∃ u ts, e = .returned u ∧ GO KI w' (fun k => w.heap.size ≤ k) u ts xs ∧ Below w.heap.size w w' := by
  obtain ⟨a, c, rfl, -, hc⟩ := hv.ino
  have HC := hide hc
  have HP := hide hp
  clear hc hv hp
  have mk := make_ino xs.length hl
  go_enter Tryz.func88, Tryz.ntmps88
  go_wp2
  go_loopw [4] (fun i wr => ∃ (j : Nat) (ts : List V3), j ≤ xs.length ∧ i = .int .i64 j ∧ GO KI wr (fun k => w.heap.size ≤ k) (.slice (some ⟨w.heap.size, 0, none⟩) xs.length xs.length) ts (cpy zI j xs) ∧ Below w.heap.size w wr) (fun i _ => xs.length - (intOf i).toNat)
  case atStart =>
    refine ⟨0, List.replicate xs.length zI3, Nat.zero_le _, rfl, ?_, (Below.refl _ w).alloc (Nat.le_refl _) _⟩
    rw [cpy_zero]
    exact GO.made (K := KI) w zI3 zI xs.length (by unfold maxLen; omega) _ (made_three _ _ _ _) zI_own rfl
  case round =>
    obtain ⟨j, ts, hj, rfl, hown, hb⟩ := hrel
    by_cases hlt : j < xs.length
    · obtain ⟨g, off, p, rfl, hg, m1, m2, m3, hp⟩ := HC.out j hlt
      have q1 := (hb.cell (p := ⟨g, off + j * 3, none⟩) hg).trans m1
      have q2 := (hb.cell (p := ⟨g, off + j * 3 + 1, none⟩) hg).trans m2
      have q3 := (hb.cell (p := ⟨g, off + j * 3 + 2, none⟩) hg).trans m3
      have hp2 := hp.below hb (Nat.le_refl _)
      have hpl := HP.out j hlt
      have CS := hide (cpy_set zI j xs hlt)
      obtain ⟨y, hy⟩ : ∃ y, xs[j].1 = y := ⟨_, rfl⟩
      obtain ⟨s, hs⟩ : ∃ s, xs[j].2.1 = s := ⟨_, rfl⟩
      obtain ⟨z, hz⟩ : ∃ z, xs[j].2.2 = z := ⟨_, rfl⟩
      have hx : xs[j] = (y, s, z) := by rw [← hy, ← hs, ← hz]
      rw [hy] at q1
      rw [hs] at q2
      rw [hz] at hp2 hpl
      rw [hx] at CS
      have hjt : j < ts.length := by rw [hown.len, cpy_length _ _ _ hj]; exact hlt
      obtain ⟨g3, c3, e3, k1, k2, k3, k4, k5, -⟩ := hown.row.at j hjt
      simp only [Value.slice.injEq, Option.some.injEq, Addr.mk.injEq] at e3
      obtain ⟨⟨rfl, -, -⟩, -, -⟩ := e3
      obtain ⟨o, ho⟩ : ∃ o : V3, ts[j] = o := ⟨_, rfl⟩
      rw [ho] at k1 k2 k3
      have HQ := hide (And.intro k5 (And.intro hjt hpl))
      have HK : Hid (∀ w1, Below wr.heap.size wr w1 → w1.cell? ⟨w.heap.size, j * 3, none⟩ = some o.1 ∧ w1.cell? ⟨w.heap.size, j * 3 + 1, none⟩ = some o.2.1 ∧ w1.cell? ⟨w.heap.size, j * 3 + 2, none⟩ = some o.2.2 ∧ (∀ i, w1.frozen? ⟨w.heap.size, i, none⟩ = false)) := fun w1 b =>
        ⟨(b.cell (p := ⟨w.heap.size, j * 3, none⟩) k5).trans k1, (b.cell (p := ⟨w.heap.size, j * 3 + 1, none⟩) k5).trans k2, (b.cell (p := ⟨w.heap.size, j * 3 + 2, none⟩) k5).trans k3, fun i => (b.frozen (p := ⟨w.heap.size, i, none⟩) k5).trans (k4 i)⟩
      have HPT := hide hp2
      have HOWN := hide hown
      have HB := hide hb
      have hsz := hb.size
      have hgw : ¬ g = w.heap.size := by omega
      have j0 : (0 : Int) ≤ (j : Int) := by omega
      have j1 : (j : Int) < (xs.length : Int) := by omega
      clear hown hb m1 m2 m3 hy hs hz hx hp hp2 mk k1 k2 k3 k4 hpl ho hjt
      go_wp2_with (go_at_call 138; refine (toN_anyI _ _ _ z _ HPT.out HQ.out.2.2).mono ?_; rintro e w1 ⟨u, rfl, O1, B1⟩; obtain ⟨ua, uc, rfl⟩ := O1.rints.form; obtain ⟨k1, k2, k3, k4⟩ := HK.out w1 B1; have hk4 := k4 (j * 3); have hk5 := k4 (j * 3 + 1); have hk6 := k4 (j * 3 + 2); have O2 := HOWN.out.put (S' := fun k => w.heap.size ≤ k) rfl j HQ.out.2.1 (.int .i64 y, .int .i64 s, .slice ua z.length uc) (y, s, z) B1 ⟨rfl, rfl, O1.base_le (Nat.zero_le _)⟩ (fun k hk => (O1.lt k hk).1) (fun k hk => hk) (fun k hk => by omega); rw [CS.out] at O2; have HO := hide (And.intro O2 ((((HB.out.trans (B1.mono hsz)).setCell (p := ⟨w.heap.size, j * 3, none⟩) (Nat.le_refl _) (.int .i64 y)).setCell (p := ⟨w.heap.size, j * 3 + 1, none⟩) (Nat.le_refl _) (.int .i64 s)).setCell (p := ⟨w.heap.size, j * 3 + 2, none⟩) (Nat.le_refl _) (.slice ua z.length uc))); clear O1 O2 B1 k4)
      go_roundw
      case rel => exact ⟨j + 1, _, by omega, by go_num, HO.out.1, HO.out.2⟩
      case measure => simp [intOf]; omega
    · have hjl : j = xs.length := by omega
      have HR := hide (And.intro hown hb)
      have HJ := hide hjl
      clear hown hb hjl mk
      go_wp2
      go_ret
      exact ⟨_, ts, rfl, by have := HR.out.1; rwa [HJ.out, cpy_all] at this, HR.out.2⟩
set_option maxRecDepth 100000 in
set_option maxHeartbeats 1600000 in
theorem toBlkS_any (v : Value) (xs : List Blk) (w : World) (hv : R3 KB w v xs) (hl : xs.length ≤ 1048576) (hp : ∀ (j : Nat) (h : j < xs.length), xs[j].2.1.length ≤ 1048576) :
    Calls Tryz.prog 89 #[v] w fun e w' => ∃ u ts, e = .returned u ∧ GO KB w' (fun k => w.heap.size ≤ k) u ts xs ∧ Below w.heap.size w w' := by
  obtain ⟨a, c, rfl, -, hc⟩ := hv.blk
  have HC := hide hc
  have HP := hide hp
  clear hc hv hp
  have mk := make_blk xs.length hl
  go_enter Tryz.func89, Tryz.ntmps89
  go_wp2
  go_loopw [4] (fun i wr => ∃ (j : Nat) (ts : List V3), j ≤ xs.length ∧ i = .int .i64 j ∧ GO KB wr (fun k => w.heap.size ≤ k) (.slice (some ⟨w.heap.size, 0, none⟩) xs.length xs.length) ts (cpy zB j xs) ∧ Below w.heap.size w wr) (fun i _ => xs.length - (intOf i).toNat)
  case atStart =>
    refine ⟨0, List.replicate xs.length zB3, Nat.zero_le _, rfl, ?_, (Below.refl _ w).alloc (Nat.le_refl _) _⟩
    rw [cpy_zero]
    exact GO.made (K := KB) w zB3 zB xs.length (by unfold maxLen; omega) _ (made_three _ _ _ _) zB_own rfl
  case round =>
    obtain ⟨j, ts, hj, rfl, hown, hb⟩ := hrel
    by_cases hlt : j < xs.length
    · obtain ⟨g, off, p, rfl, hg, m1, m2, m3, hp⟩ := HC.out j hlt
      have q1 := (hb.cell (p := ⟨g, off + j * 3, none⟩) hg).trans m1
      have q2 := (hb.cell (p := ⟨g, off + j * 3 + 1, none⟩) hg).trans m2
      have q3 := (hb.cell (p := ⟨g, off + j * 3 + 2, none⟩) hg).trans m3
      have hp2 := hp.below hb (Nat.le_refl _)
      have hpl := HP.out j hlt
      have CS := hide (cpy_set zB j xs hlt)
      obtain ⟨y, hy⟩ : ∃ y, xs[j].1 = y := ⟨_, rfl⟩
      obtain ⟨s, hs⟩ : ∃ s, xs[j].2.1 = s := ⟨_, rfl⟩
      obtain ⟨z, hz⟩ : ∃ z, xs[j].2.2 = z := ⟨_, rfl⟩
      have hx : xs[j] = (y, s, z) := by rw [← hy, ← hs, ← hz]
      rw [hy] at q1
      rw [hz] at q3
      rw [hs] at hp2 hpl
      rw [hx] at CS
      have hjt : j < ts.length := by rw [hown.len, cpy_length _ _ _ hj]; exact hlt
      obtain ⟨g3, c3, e3, k1, k2, k3, k4, k5, -⟩ := hown.row.at j hjt
      simp only [Value.slice.injEq, Option.some.injEq, Addr.mk.injEq] at e3
      obtain ⟨⟨rfl, -, -⟩, -, -⟩ := e3
      obtain ⟨o, ho⟩ : ∃ o : V3, ts[j] = o := ⟨_, rfl⟩
      rw [ho] at k1 k2 k3
      have HQ := hide (And.intro k5 (And.intro hjt hpl))
      have HK : Hid (∀ w1, Below wr.heap.size wr w1 → w1.cell? ⟨w.heap.size, j * 3, none⟩ = some o.1 ∧ w1.cell? ⟨w.heap.size, j * 3 + 1, none⟩ = some o.2.1 ∧ w1.cell? ⟨w.heap.size, j * 3 + 2, none⟩ = some o.2.2 ∧ (∀ i, w1.frozen? ⟨w.heap.size, i, none⟩ = false)) := fun w1 b =>
        ⟨(b.cell (p := ⟨w.heap.size, j * 3, none⟩) k5).trans k1, (b.cell (p := ⟨w.heap.size, j * 3 + 1, none⟩) k5).trans k2, (b.cell (p := ⟨w.heap.size, j * 3 + 2, none⟩) k5).trans k3, fun i => (b.frozen (p := ⟨w.heap.size, i, none⟩) k5).trans (k4 i)⟩
      have HPT := hide hp2
      have HOWN := hide hown
      have HB := hide hb
      have hsz := hb.size
      have hgw : ¬ g = w.heap.size := by omega
      have j0 : (0 : Int) ≤ (j : Int) := by omega
      have j1 : (j : Int) < (xs.length : Int) := by omega
      clear hown hb m1 m2 m3 hy hs hz hx hp hp2 mk k1 k2 k3 k4 hpl ho hjt
      go_wp2_with (go_at_call 139; refine (toB_anyK _ _ _ s _ HPT.out HQ.out.2.2).mono ?_; rintro e w1 ⟨u, rfl, O1, B1⟩; obtain ⟨ua, uc, rfl⟩ := O1.rsl.form; obtain ⟨k1, k2, k3, k4⟩ := HK.out w1 B1; have hk4 := k4 (j * 3); have hk5 := k4 (j * 3 + 1); have hk6 := k4 (j * 3 + 2); have O2 := HOWN.out.put (S' := fun k => w.heap.size ≤ k) rfl j HQ.out.2.1 (.bool y, .slice ua s.length uc, .string z) (y, s, z) B1 ⟨rfl, O1.base_le (Nat.zero_le _), rfl⟩ (fun k hk => (O1.lt k hk).1) (fun k hk => hk) (fun k hk => by omega); rw [CS.out] at O2; have HO := hide (And.intro O2 ((((HB.out.trans (B1.mono hsz)).setCell (p := ⟨w.heap.size, j * 3, none⟩) (Nat.le_refl _) (.bool y)).setCell (p := ⟨w.heap.size, j * 3 + 1, none⟩) (Nat.le_refl _) (.slice ua s.length uc)).setCell (p := ⟨w.heap.size, j * 3 + 2, none⟩) (Nat.le_refl _) (.string z))); clear O1 O2 B1 k4)
      go_roundw
      case rel => exact ⟨j + 1, _, by omega, by go_num, HO.out.1, HO.out.2⟩
      case measure => simp [intOf]; omega
    · have hjl : j = xs.length := by omega
      have HR := hide (And.intro hown hb)
      have HJ := hide hjl
      clear hown hb hjl mk
      go_wp2
      go_ret
      exact ⟨_, ts, rfl, by have := HR.out.1; rwa [HJ.out, cpy_all] at this, HR.out.2⟩
set_option maxRecDepth 100000 in
set_option maxHeartbeats 3200000 in
theorem toDisk_any (u v iv bv : Value) (xs ys : List Bool) (is : List Ino) (bs : List Blk) (w : World) (h : DR w u v iv bv xs ys is bs) (hB : Big 1048576 xs ys is bs) :
    Calls Tryz.prog 54 #[.agg #[u, v, iv, bv]] w fun e w' => ∃ u' v' i' b', e = .returned (.agg #[u', v', i', b']) ∧ DO w' (fun k => w.heap.size ≤ k) u' v' i' b' xs ys is bs ∧ Below w.heap.size w w' := by
  have H := hide h
  have HG := hide hB
  obtain ⟨a1, c1, a2, c2, a3, c3, a4, c4, rfl, rfl, rfl, rfl⟩ := h.form
  clear h hB
  go_enter Tryz.func54, Tryz.ntmps54
  go_wp2_with fail
  refine (toN_anyB _ _ xs ys _ (((H.out.a.alloc _).alloc _).alloc _) (((H.out.b.alloc _).alloc _).alloc _) HG.out.x HG.out.y).mono ?_
  rintro e w1 ⟨u1, v1, rfl, T1, B1⟩
  obtain ⟨e1, f1, e2, f2, rfl, rfl⟩ := T1.form
  have BW : Below w.heap.size w w1 := ((((Below.refl _ w).alloc (Nat.le_refl _) _).alloc (by simp) _).alloc (by simp; omega) _).trans (B1.mono (by simp; omega))
  have K0 : AtC w1 w.heap.size 28 #[.slice a1 xs.length c1, .slice a2 ys.length c2, .slice a3 is.length c3, .slice a4 bs.length c4] := (((AtC.new w 28 _).alloc _).alloc _).over B1
  have K1 : AtC w1 (w.heap.size + 1) 47 #[.slice none 0 0, .slice none 0 0, .slice none 0 0, .slice none 0 0] := by
    have := ((AtC.new (w.alloc (Obj.cells #[.slice a1 xs.length c1, .slice a2 ys.length c2, .slice a3 is.length c3, .slice a4 bs.length c4] 28)) 47 #[.slice none 0 0, .slice none 0 0, .slice none 0 0, .slice none 0 0]).alloc (Obj.cells #[.slice none 0 0, .slice none 0 0, .slice none 0 0, .slice none 0 0] 47)).over B1
    simpa using this
  have K2 : AtC w1 (w.heap.size + 1 + 1) 47 #[.slice none 0 0, .slice none 0 0, .slice none 0 0, .slice none 0 0] := by
    have := (AtC.new ((w.alloc (Obj.cells #[.slice a1 xs.length c1, .slice a2 ys.length c2, .slice a3 is.length c3, .slice a4 bs.length c4] 28)).alloc (Obj.cells #[.slice none 0 0, .slice none 0 0, .slice none 0 0, .slice none 0 0] 47)) 47 #[.slice none 0 0, .slice none 0 0, .slice none 0 0, .slice none 0 0]).over B1
    simpa using this
  have T2 : Two w1 (w.heap.size + 1 + 1 + 1) (.slice e1 xs.length f1) (.slice e2 ys.length f2) xs ys := T1.base_le (by simp)
  have HT := hide T2
  have HLU : Hid (∀ k, ((Value.slice e1 xs.length f1).ownBlock = some k ∨ (Value.slice e2 ys.length f2).ownBlock = some k) → w.heap.size + 1 + 1 + 1 ≤ k ∧ k < w1.heap.size) := fun k hk => hk.elim (fun e => T2.a.lt k e) (fun e => T2.b.lt k e)
  have HBW := hide BW
  have p2 : w1.cell? ⟨w.heap.size, 2, none⟩ = some (.slice a3 is.length c3) := K0.cell 2
  have q0 : w1.cell? ⟨w.heap.size + 1 + 1, 0, none⟩ = some (.slice none 0 0) := K2.cell 0
  have q1 : w1.cell? ⟨w.heap.size + 1 + 1, 1, none⟩ = some (.slice none 0 0) := K2.cell 1
  have z0 := K2.frozen 0
  have z1 := K2.frozen 1
  have HK0 := hide K0
  have HK1 := hide K1
  have HK2 := hide K2
  clear T1 T2 B1 BW K0 K1 K2
  go_wp2_with fail
  have BX : Below w.heap.size w ((w1.setCell ⟨w.heap.size + 1 + 1, 0, none⟩ (.slice e1 xs.length f1)).setCell ⟨w.heap.size + 1 + 1, 1, none⟩ (.slice e2 ys.length f2)) := (HBW.out.setCell (by simp; omega) _).setCell (by simp; omega) _
  refine (toInoS_any _ is _ (H.out.i.below BX (Nat.le_refl _)) HG.out.i HG.out.p).mono ?_
  rintro e w2 ⟨i1, ti, rfl, G1, B2⟩
  obtain ⟨e3, f3, rfl⟩ := G1.form
  have BW2 := BX.trans (B2.mono BX.size)
  have K0 := ((HK0.out.other (k := 0) (g := w.heap.size + 1 + 1) (by omega) (.slice e1 xs.length f1)).other (k := 1) (g := w.heap.size + 1 + 1) (by omega) (.slice e2 ys.length f2)).over B2
  have K1 := ((HK1.out.other (k := 0) (g := w.heap.size + 1 + 1) (by omega) (.slice e1 xs.length f1)).other (k := 1) (g := w.heap.size + 1 + 1) (by omega) (.slice e2 ys.length f2)).over B2
  have K2 : AtC w2 (w.heap.size + 1 + 1) 47 #[.slice e1 xs.length f1, .slice e2 ys.length f2, .slice none 0 0, .slice none 0 0] := ((HK2.out.set 0 (.slice e1 xs.length f1)).set 1 (.slice e2 ys.length f2)).over B2
  have T2 : Two w2 (w.heap.size + 1 + 1 + 1) (.slice e1 xs.length f1) (.slice e2 ys.length f2) xs ys := ((HT.out.set_other (by omega) _).set_other (by omega) _).below B2 (Nat.le_refl _)
  have G2 : GO KI w2 (fun k => w1.heap.size ≤ k ∧ k < w2.heap.size) (.slice e3 is.length f3) ti is := (G1.bound).mono fun k hk => ⟨by have := hk.1; simpa using this, hk.2⟩
  have hs1 : w1.heap.size ≤ w2.heap.size := by have := B2.size; simpa using this
  have HS0 := hide (And.intro hs1 K1.lt)
  have hlt3 : w.heap.size + 1 + 1 < w1.heap.size := HK2.out.lt
  have HT2 := hide T2
  have HG2 := hide G2
  have HBW2 := hide BW2
  have p3 : w2.cell? ⟨w.heap.size, 3, none⟩ = some (.slice a4 bs.length c4) := K0.cell 3
  have q2 : w2.cell? ⟨w.heap.size + 1 + 1, 2, none⟩ = some (.slice none 0 0) := K2.cell 2
  have z2 := K2.frozen 2
  have HL := hide hlt3
  have HK1 := hide K1
  have HK2 := hide K2
  clear G1 G2 B2 BX BW2 K0 K1 K2 T2 hs1 hlt3 p2 q0 q1 z0 z1 HBW HT HK0
  go_wp2_with fail
  have BX : Below w.heap.size w (w2.setCell ⟨w.heap.size + 1 + 1, 2, none⟩ (.slice e3 is.length f3)) := HBW2.out.setCell (by simp; omega) _
  refine (toBlkS_any _ bs _ (H.out.k.below BX (Nat.le_refl _)) HG.out.b (fun j hj => (HG.out.s j hj).1)).mono ?_
  rintro e w3 ⟨b1, tb, rfl, G1, B3⟩
  obtain ⟨e4, f4, rfl⟩ := G1.form
  have BW3 := BX.trans (B3.mono BX.size)
  have K1 := (HK1.out.other (k := 2) (g := w.heap.size + 1 + 1) (by omega) (.slice e3 is.length f3)).over B3
  have K2 : AtC w3 (w.heap.size + 1 + 1) 47 #[.slice e1 xs.length f1, .slice e2 ys.length f2, .slice e3 is.length f3, .slice none 0 0] := (HK2.out.set 2 (.slice e3 is.length f3)).over B3
  have T3 : Two w3 (w.heap.size + 1 + 1 + 1) (.slice e1 xs.length f1) (.slice e2 ys.length f2) xs ys := (HT2.out.set_other (by omega) _).below B3 (Nat.le_refl _)
  have G3 : GO KI w3 (fun k => w1.heap.size ≤ k ∧ k < w2.heap.size) (.slice e3 is.length f3) ti is := (HG2.out.setCell_other (fun e => by have := HL.out; omega) _).below B3 (Nat.le_refl _)
  have G4 : GO KB w3 (fun k => w2.heap.size ≤ k) (.slice e4 bs.length f4) tb bs := G1.mono fun k hk => by simpa using hk
  have HT3 := hide T3
  have HG3 := hide G3
  have HG4 := hide G4
  have HBW3 := hide BW3
  have q0 : w3.cell? ⟨w.heap.size + 1 + 1, 0, none⟩ = some (.slice e1 xs.length f1) := K2.cell 0
  have q1 : w3.cell? ⟨w.heap.size + 1 + 1, 1, none⟩ = some (.slice e2 ys.length f2) := K2.cell 1
  have q2 : w3.cell? ⟨w.heap.size + 1 + 1, 2, none⟩ = some (.slice e3 is.length f3) := K2.cell 2
  have q3 : w3.cell? ⟨w.heap.size + 1 + 1, 3, none⟩ = some (.slice none 0 0) := K2.cell 3
  have z3 := K2.frozen 3
  have r0 : w3.cell? ⟨w.heap.size + 1, 0, none⟩ = some (.slice none 0 0) := K1.cell 0
  have r1 : w3.cell? ⟨w.heap.size + 1, 1, none⟩ = some (.slice none 0 0) := K1.cell 1
  have r2 : w3.cell? ⟨w.heap.size + 1, 2, none⟩ = some (.slice none 0 0) := K1.cell 2
  have r3 : w3.cell? ⟨w.heap.size + 1, 3, none⟩ = some (.slice none 0 0) := K1.cell 3
  have y0 := K1.frozen 0
  have y1 := K1.frozen 1
  have y2 := K1.frozen 2
  have y3 := K1.frozen 3
  clear G1 G3 G4 B3 BX BW3 K1 K2 T3 p3 z2 HBW2 HT2 HG2 HK1 HK2
  go_wp2
  refine bodyPost_ret (v := .agg #[.slice e1 xs.length f1, .slice e2 ys.length f2, .slice e3 is.length f3, .slice e4 bs.length f4]) (by simp [results, go_sem, r0, r1, r2, r3]) rfl ⟨_, _, _, _, rfl, ?_, ?_⟩
  · have hL := HL.out
    have hS := HS0.out
    have T4 : Two w3 0 (.slice e1 xs.length f1) (.slice e2 ys.length f2) xs ys := HT3.out.base_le (Nat.zero_le _)
    refine (DO.of_heap (w := w3) (S := fun k => w.heap.size + 1 + 1 + 1 ≤ k) ⟨fun k => w.heap.size + 1 + 1 + 1 ≤ k ∧ k < w1.heap.size, _, _, ti, tb, T4, HLU.out, HG3.out, HG4.out, fun k hk => ⟨fun e => by omega, fun e => by omega⟩, fun k hk e => by omega, fun k hk => by omega⟩ fun k hk _ => ?_).mono fun k hk => by omega
    have n1 : k ≠ w.heap.size + 1 := by omega
    have n2 : k ≠ w.heap.size + 1 + 1 := by omega
    exact ((((heap_setCell_other _ ⟨w.heap.size + 1, 3, none⟩ k _ n1).trans (heap_setCell_other _ ⟨w.heap.size + 1, 2, none⟩ k _ n1)).trans (heap_setCell_other _ ⟨w.heap.size + 1, 1, none⟩ k _ n1)).trans (heap_setCell_other _ ⟨w.heap.size + 1, 0, none⟩ k _ n1)).trans (heap_setCell_other _ ⟨w.heap.size + 1 + 1, 3, none⟩ k _ n2)
  · exact ((((HBW3.out.setCell (by simp; omega) _).setCell (by simp) _).setCell (by simp) _).setCell (by simp) _).setCell (by simp) _
end Go.Proofs.YtmjhgfkplolelaaGreat
/- A disk that comes in as an argument, opened: its lists and texts. -/
namespace Go.Proofs.YtmjhgfkplolelaaGreat.open_
open Go.ChangeShapes Go.WideShapes Go.ChangeAt Go.RowKit Kit Go.Joins
set_option linter.unusedVariables false
variable {H : Type} {enc : TypeId × Value → H} {W : World}
theorem open_three {P : Program} {α : Type} [Inhabited α] (K : Kd α) (big : α → Prop) {t e : TypeId} {f0 f1 f2 : Field} {fuel : Nat} {c : Value} {y : DataW H × List MemPlace} (ht : P.underlying t = some (.slice e)) (he : P.underlying e = some (.struct #[f0, f1, f2])) (ce : P.cellsOf e = 3)
    (o0 : f0.offset = 0) (o1 : f1.offset = 1) (o2 : f2.offset = 2) (k0 : P.cellsOf f0.type = 1) (k1 : P.cellsOf f1.type = 1) (k2 : P.cellsOf f2.type = 1)
    (each : ∀ n v0 v1 v2 y0 y1 y2, DataW.trod enc P W 0 (fun _ => true) true n f0.type [v0] = some y0 → DataW.trod enc P W 0 (fun _ => true) true n f1.type [v1] = some y1 → DataW.trod enc P W 0 (fun _ => true) true n f2.type [v2] = some y2 → ∃ x, K.R W (v0, v1, v2) x ∧ big x)
    (h : DataW.trod enc P W 0 (fun _ => true) true fuel t [c] = some y) : ∃ xs : List α, R3 K W c xs ∧ xs.length ≤ maxLen ∧ ∀ (j : Nat) (h : j < xs.length), big xs[j] := by
  rcases Go.Deep.open_slice ht h with ⟨hcs, _⟩ | ⟨a, len, cap, m, n, D, Pl, hcs, hb, hl, hm, hmm, _, hx⟩
  · simp at hcs
    subst hcs
    exact ⟨[], ⟨none, 0, rfl, Nat.le_refl _, fun j hj => by simp at hj⟩, by simp, fun j hj => by simp at hj⟩
  · simp at hcs
    subst hcs
    have hlm : len ≤ m := by simp at hmm; omega
    have key : ∀ i, i < len → ∃ q : V3 × α, W.cell? (a.add (i * 3)) = some q.1.1 ∧ W.cell? (a.add (i * 3 + 1)) = some q.1.2.1 ∧ W.cell? (a.add (i * 3 + 2)) = some q.1.2.2 ∧ K.R W q.1 q.2 ∧ big q.2 := by
      intro i hi
      obtain ⟨cs', h1, h2⟩ := hx i (by omega)
      rw [ce] at h1
      obtain ⟨_, hlen, hcell⟩ := World.cells?_some h1
      obtain ⟨xs, k, hk, hxy, _, hxl, hf⟩ := DataW.trod_struct he h2
      match xs, hxl, cs', hlen with
      | [y0, y1, y2], _, [v0, v1, v2], _ =>
        have g0 := hf 0 f0 rfl
        have g1 := hf 1 f1 rfl
        have g2 := hf 2 f2 rfl
        simp [o0, o1, o2, k0, k1, k2] at g0 g1 g2
        have e0 := hcell 0 (by omega)
        have e1 := hcell 1 (by omega)
        have e2 := hcell 2 (by omega)
        rw [Go.Deep.add_add] at e0 e1 e2
        obtain ⟨x, hR, hbig⟩ := each k v0 v1 v2 y0 y1 y2 g0 g1 g2
        exact ⟨((v0, v1, v2), x), by simpa using e0, by simpa using e1, by simpa using e2, hR, hbig⟩
    obtain ⟨q, hq⟩ := Go.Deep.choose_lt key
    obtain ⟨b, off, spot⟩ := a
    have ha : spot = none → ∀ k, (⟨b, off, spot⟩ : Addr).add k = ⟨b, off + k, none⟩ := fun e k => by subst e; cases k <;> simp [Addr.add]
    refine ⟨(List.range len).map fun i => (q i).2, ⟨some ⟨b, off, spot⟩, cap, by simp, by simpa using hl, fun j hj => ?_⟩, by simp; omega, fun j hj => ?_⟩
    · have hj' : j < len := by simpa using hj
      have hspot : spot = none := by
        have := World.cell?_spot (hq 0 (by omega)).1
        simpa [Addr.add] using this
      obtain ⟨c0, c1, c2, hR, _⟩ := hq j hj'
      rw [ha hspot] at c0 c1 c2
      exact ⟨b, off, (q j).1, by rw [hspot], block_lt_of_cell c0, c0, by rw [Nat.add_assoc]; exact c1, by rw [Nat.add_assoc]; exact c2, by simpa using hR⟩
    · have hj' : j < len := by simpa using hj
      simpa using (hq j hj').2.2.2.2
theorem flags_of {w : World} {a : Addr} {len cap : Nat} {B : Nat → Bool} (h1 : len ≤ cap) (h : ∀ i, i < cap → w.cell? (a.add i) = some (.bool (B i))) : RFl w (.slice (some a) len cap) ((List.range len).map B) := by
  refine ⟨some a, cap, by simp, fun j hj => ?_⟩
  have hj' : j < len := by simpa using hj
  obtain ⟨b, off, spot⟩ := a
  have hspot : spot = none := by simpa [Addr.add] using World.cell?_spot (h 0 (by omega))
  subst hspot
  have ha : (⟨b, off, none⟩ : Addr).add j = ⟨b, off + j, none⟩ := by cases j <;> simp [Addr.add]
  have hc := h j (by omega)
  rw [ha] at hc
  refine ⟨b, off, rfl, block_lt_of_cell hc, ?_⟩
  rw [hc]
  simp
theorem flags_open {n : Nat} {v : Value} {y : DataW H × List MemPlace} (h : DataW.trod enc Tryz.prog W 0 (fun _ => true) true n 22 [v] = some y) : ∃ xs : List Bool, RFl W v xs ∧ xs.length ≤ maxLen := by
  rcases Go.Deep.open_bools Tryz.underlying22 Tryz.underlying4 (by kernel_rfl) h with ⟨hcs, _⟩ | ⟨x, l, c, B, hcs, _, hl, hm, _, hcell⟩
  · simp at hcs
    subst hcs
    exact ⟨[], ⟨none, 0, rfl, fun j hj => by simp at hj⟩, by simp⟩
  · simp at hcs
    subst hcs
    exact ⟨_, flags_of hl hcell, by simp; omega⟩
theorem ints_of {w : World} {a : Addr} {len : Nat} {cap : Nat} {zs : List Int} (h1 : len ≤ zs.length) (h : ∀ i, i < zs.length → w.cell? (a.add i) = some (.int .i64 (zs.getD i 0))) : RInts w (.slice (some a) len cap) (zs.take len) := by
  refine ⟨some a, cap, by simp; omega, fun j hj => ?_⟩
  have hj' : j < len := by simp at hj; omega
  obtain ⟨b, off, spot⟩ := a
  have hspot : spot = none := by simpa [Addr.add] using World.cell?_spot (h 0 (by omega))
  subst hspot
  have ha : (⟨b, off, none⟩ : Addr).add j = ⟨b, off + j, none⟩ := by cases j <;> simp [Addr.add]
  have hc := h j (by omega)
  rw [ha] at hc
  refine ⟨b, off, rfl, block_lt_of_cell hc, ?_⟩
  rw [hc]
  simp [List.getD, List.getElem?_eq_getElem (show j < zs.length by omega)]
theorem ints_open {n : Nat} {v : Value} {y : DataW H × List MemPlace} (h : DataW.trod enc Tryz.prog W 0 (fun _ => true) true n 38 [v] = some y) : ∃ xs : List Int, RInts W v xs ∧ xs.length ≤ maxLen := by
  rcases open_ints Tryz.underlying38 Tryz.underlying3 (by kernel_rfl) h with ⟨hcs, _⟩ | ⟨x, l, c, zs, hcs, _, hl, hm, hz, _, hcell, hwz⟩
  · simp at hcs
    subst hcs
    exact ⟨[], ⟨none, 0, rfl, fun j hj => by simp at hj⟩, by simp⟩
  · simp at hcs
    subst hcs
    have hle : l ≤ zs.length := by simp at hz; omega
    exact ⟨zs.take l, ints_of hle hcell, by simp; omega⟩
/-- The text of a value. -/
def strOf : Value → ByteArray
  | .string s => s
  | _ => ⟨#[]⟩
/-- The slots that cells tell. -/
def slotsOf (V0 V1 : Nat → Value) (len : Nat) : List Sl := (List.range len).map fun i => (strOf (V0 i), intOf (V1 i))
theorem slots_of {w : World} {a : Addr} {len cap : Nat} {V0 V1 : Nat → Value} (hc : len ≤ cap) (h0 : ∀ i, i < len → w.cell? (a.add (i * 2)) = some (V0 i)) (h1 : ∀ i, i < len → w.cell? (a.add (i * 2 + 1)) = some (V1 i))
    (hs : ∀ i, i < len → ∃ s : ByteArray, V0 i = .string s ∧ s.size ≤ maxLen) (hz : ∀ i, i < len → ∃ z : Int, V1 i = .int .i64 z) :
    RSl w (.slice (some a) len cap) (slotsOf V0 V1 len) ∧ ∀ (j : Nat) (h : j < (slotsOf V0 V1 len).length), (slotsOf V0 V1 len)[j].1.size ≤ maxLen := by
  have hlen : (slotsOf V0 V1 len).length = len := by simp [slotsOf]
  refine ⟨⟨some a, cap, by rw [hlen], by rw [hlen]; exact hc, fun j hj => ?_⟩, fun j hj => ?_⟩
  · rw [hlen] at hj
    obtain ⟨s, e0, _⟩ := hs j hj
    obtain ⟨z, e1⟩ := hz j hj
    have c0 := h0 j hj
    have c1 := h1 j hj
    obtain ⟨b, off, spot⟩ := a
    have hspot : spot = none := by
      have := World.cell?_spot (h0 0 (by omega))
      simpa [Addr.add] using this
    subst hspot
    have ha : ∀ k, (⟨b, off, none⟩ : Addr).add k = ⟨b, off + k, none⟩ := fun k => by cases k <;> simp [Addr.add]
    rw [ha] at c0 c1
    refine ⟨b, off, rfl, block_lt_of_cell c0, ?_, ?_⟩
    · rw [c0]; simp [slotsOf, e0, strOf]
    · rw [show off + j * 2 + 1 = off + (j * 2 + 1) by omega, c1]; simp [slotsOf, e1, intOf]
  · rw [hlen] at hj
    obtain ⟨s, e0, e1⟩ := hs j hj
    simp [slotsOf, e0, strOf, e1]
theorem slots_open {n : Nat} {v : Value} {y : DataW H × List MemPlace} (h : DataW.trod enc Tryz.prog W 0 (fun _ => true) true n 196 [v] = some y) : ∃ xs : List Sl, RSl W v xs ∧ xs.length ≤ maxLen ∧ ∀ (j : Nat) (h : j < xs.length), xs[j].1.size ≤ maxLen := by
  rcases Go.Deep.open_slice_pairs Tryz.underlying196 Tryz.underlying256 (by kernel_rfl) rfl rfl (by kernel_rfl) (by kernel_rfl) h with ⟨hcs, _⟩ | ⟨a, len, cap, m2, n2, V0, V1, D0, D1, P0, P1, hcs, -, hlc, hcm, hm2, -, hcell⟩
  · simp at hcs
    subst hcs
    exact ⟨[], ⟨none, 0, rfl, Nat.le_refl _, fun j hj => by simp at hj⟩, by simp, fun j hj => by simp at hj⟩
  · simp at hcs
    subst hcs
    have hlm : len ≤ m2 := by simp at hm2; omega
    have key := slots_of (w := W) (a := a) (len := len) (cap := cap) (V0 := V0) (V1 := V1) hlc (fun i hi => (hcell i (by omega)).1) (fun i hi => (hcell i (by omega)).2.1)
      (fun i hi => by obtain ⟨s, e, -, hs⟩ := DataW.trod_string Tryz.underlying9 (hcell i (by omega)).2.2.1; simp at e; exact ⟨s, e, hs⟩)
      (fun i hi => by obtain ⟨z, e, -, -⟩ := DataW.trod_int Tryz.underlying3 (hcell i (by omega)).2.2.2; simp at e; exact ⟨z, e⟩)
    exact ⟨slotsOf V0 V1 len, key.1, by simp [slotsOf]; omega, key.2⟩
theorem inos_open {n : Nat} {v : Value} {y : DataW H × List MemPlace} (h : DataW.trod enc Tryz.prog W 0 (fun _ => true) true n 25 [v] = some y) : ∃ xs : List Ino, R3 KI W v xs ∧ xs.length ≤ maxLen ∧ ∀ (j : Nat) (h : j < xs.length), xs[j].2.2.length ≤ maxLen := by
  refine open_three KI (fun x => x.2.2.length ≤ maxLen) Tryz.underlying25 Tryz.underlying194 (by kernel_rfl) rfl rfl rfl (by kernel_rfl) (by kernel_rfl) (by kernel_rfl) ?_ h
  intro n v0 v1 v2 y0 y1 y2 h0 h1 h2
  obtain ⟨x0, e0, -⟩ := DataW.trod_int Tryz.underlying3 h0
  obtain ⟨x1, e1, -⟩ := DataW.trod_int Tryz.underlying3 h1
  obtain ⟨xs, hx, hl⟩ := ints_open h2
  simp at e0 e1
  exact ⟨(x0, x1, xs), ⟨e0, e1, hx⟩, hl⟩
theorem blks_open {n : Nat} {v : Value} {y : DataW H × List MemPlace} (h : DataW.trod enc Tryz.prog W 0 (fun _ => true) true n 26 [v] = some y) : ∃ xs : List Blk, R3 KB W v xs ∧ xs.length ≤ maxLen ∧ ∀ (j : Nat) (h : j < xs.length), bigB maxLen xs[j] := by
  refine open_three KB (bigB maxLen) Tryz.underlying26 Tryz.underlying198 (by kernel_rfl) rfl rfl rfl (by kernel_rfl) (by kernel_rfl) (by kernel_rfl) ?_ h
  intro n v0 v1 v2 y0 y1 y2 h0 h1 h2
  obtain ⟨x0, e0, -⟩ := DataW.trod_bool Tryz.underlying4 h0
  obtain ⟨xs, hx, hl, hb⟩ := slots_open h1
  obtain ⟨x2, e2, -, hx2⟩ := DataW.trod_string Tryz.underlying9 h2
  simp at e0 e2
  exact ⟨(x0, xs, x2), ⟨e0, hx, e2⟩, hl, hb, hx2⟩
set_option maxRecDepth 100000 in
/-- A disk, opened. -/
theorem disk_open {r : Reach} {b0 : Nat} {v : Value} {d : DataW H} {p : List MemPlace} (hv : Value.okWide Tryz.prog W r b0 28 v) (h : DataW.Trod enc Tryz.prog W 0 (fun _ => true) true 28 v d p) :
    ∃ (u v' iv bv : Value) (xs ys : List Bool) (is : List Ino) (bs : List Blk), v = .agg #[u, v', iv, bv] ∧ DR W u v' iv bv xs ys is bs ∧ Big maxLen xs ys is bs := by
  obtain ⟨cs, rfl, hsz⟩ := okWide_struct Tryz.underlying28 hv
  have hC : Tryz.prog.cellsOf 28 = 4 := by kernel_rfl
  obtain ⟨c0, c1, c2, c3, rfl⟩ := array4 (hsz.trans hC)
  obtain ⟨fuel, hf⟩ := h
  obtain ⟨y0, y1, y2, n, hx, _, h0, h1, h2⟩ := Go.Deep.trod_struct3 Tryz.underlying28 hf
  have k0 : Tryz.prog.cellsOf 24 = 2 := by kernel_rfl
  have k1 : Tryz.prog.cellsOf 25 = 1 := by kernel_rfl
  have k2 : Tryz.prog.cellsOf 26 = 1 := by kernel_rfl
  have k3 : Tryz.prog.cellsOf 22 = 1 := by kernel_rfl
  simp [Value.cells, k0, k1, k2] at h0 h1 h2
  obtain ⟨z0, z1, m, hz, _, g0, g1⟩ := trod_struct2 Tryz.underlying24 h0
  simp [k3] at g0 g1
  obtain ⟨xs, hx1, hx2⟩ := flags_open g0
  obtain ⟨ys, hy1, hy2⟩ := flags_open g1
  obtain ⟨is, hi1, hi2, hi3⟩ := inos_open h1
  obtain ⟨bs, hb1, hb2, hb3⟩ := blks_open h2
  exact ⟨c0, c1, c2, c3, xs, ys, is, bs, rfl, ⟨hx1, hy1, hi1, hb1⟩, ⟨hx2, hy2, hi2, hi3, hb2, hb3⟩⟩
end Go.Proofs.YtmjhgfkplolelaaGreat.open_
/- Rows of structs of n cells each, one of which may be a slice with a block of its own: how they lie, how they are read, put, appended. No Go function is spoken of. -/
namespace Go.Proofs.YtmjhgfkplolelaaGreat.Kit
open Go.RowKit
/-- The cells of one struct. -/
abbrev Row := List Value
def Even (n : Nat) (ts : List Row) : Prop := ∀ t ∈ ts, t.length = n
theorem Even.nil (n : Nat) : Even n [] := fun _ h => by cases h
theorem Even.cons {n : Nat} {t : Row} {ts : List Row} (h : Even n (t :: ts)) : t.length = n ∧ Even n ts := ⟨h t (by simp), fun x hx => h x (by simp [hx])⟩
theorem Even.mk {n : Nat} {t : Row} {ts : List Row} (h1 : t.length = n) (h : Even n ts) : Even n (t :: ts) := fun x hx => (List.mem_cons.1 hx).elim (fun e => e ▸ h1) (h x)
theorem Even.append {n : Nat} {a b : List Row} (ha : Even n a) (hb : Even n b) : Even n (a ++ b) := fun x hx => (List.mem_append.1 hx).elim (ha x) (hb x)
theorem Even.at {n : Nat} {ts : List Row} (h : Even n ts) (j : Nat) (hj : j < ts.length) : ts[j].length = n := h _ (List.getElem_mem hj)
theorem Even.set {n : Nat} {ts : List Row} (h : Even n ts) (j : Nat) {t : Row} (ht : t.length = n) : Even n (ts.set j t) := fun x hx => (List.mem_or_eq_of_mem_set hx).elim (h x) (fun e => e ▸ ht)
theorem flat_length {n : Nat} {ts : List Row} (h : Even n ts) : ts.flatten.length = ts.length * n := by
  induction ts with
  | nil => simp
  | cons t r ih => rw [List.flatten_cons, List.length_append, ih h.cons.2, h.cons.1, List.length_cons, Nat.add_mul]; omega
theorem flat_at {n : Nat} {ts : List Row} (h : Even n ts) (j i : Nat) (hj : j < ts.length) (hi : i < n) : ts.flatten[j * n + i]? = ts[j][i]? := by
  induction ts generalizing j with
  | nil => simp at hj
  | cons t r ih =>
    have h1 := h.cons.1
    cases j with
    | zero =>
      rw [Nat.zero_mul, Nat.zero_add, List.flatten_cons, List.getElem?_append_left (by omega)]
      rfl
    | succ j =>
      rw [List.flatten_cons, List.getElem?_append_right (by rw [Nat.add_mul]; omega), show (j + 1) * n + i - t.length = j * n + i by rw [Nat.add_mul]; omega]
      exact ih h.cons.2 j (by simpa using hj)
theorem flat_set {n : Nat} {ts : List Row} (h : Even n ts) (j i : Nat) (hj : j < ts.length) (hi : i < n) (x : Value) : ts.flatten.set (j * n + i) x = (ts.set j (ts[j].set i x)).flatten := by
  induction ts generalizing j with
  | nil => simp at hj
  | cons t r ih =>
    have h1 := h.cons.1
    cases j with
    | zero =>
      rw [Nat.zero_mul, Nat.zero_add, List.flatten_cons, List.set_append_left _ _ (by omega)]
      rfl
    | succ j =>
      rw [List.flatten_cons, List.set_append_right _ _ (by rw [Nat.add_mul]; omega), show (j + 1) * n + i - t.length = j * n + i by rw [Nat.add_mul]; omega, ih h.cons.2 j (by simpa using hj)]
      rfl
/-- The cells of a row are stored from off on. -/
def setRow (w : World) (g off : Nat) : Row → World
  | [] => w
  | x :: r => setRow (w.setCell ⟨g, off, none⟩ x) g (off + 1) r
theorem setRow_other (g : Nat) (t : Row) : ∀ (w : World) (off k : Nat), k ≠ g → (setRow w g off t).heap[k]? = w.heap[k]? := by
  induction t with
  | nil => exact fun _ _ _ _ => rfl
  | cons x r ih => exact fun w off k hk => (ih _ _ k hk).trans (heap_setCell_other w ⟨g, off, none⟩ k x hk)
theorem setRow_size (g : Nat) (t : Row) : ∀ (w : World) (off : Nat), (setRow w g off t).heap.size = w.heap.size := by
  induction t with
  | nil => exact fun _ _ => rfl
  | cons x r ih => exact fun w off => (ih _ _).trans (by simp)
theorem setRow_same (g : Nat) (t : Row) : ∀ (w : World) (off : Nat), (setRow w g off t).os = w.os ∧ (setRow w g off t).tape = w.tape ∧ (setRow w g off t).output = w.output := by
  induction t with
  | nil => exact fun _ _ => ⟨rfl, rfl, rfl⟩
  | cons x r ih => exact fun w off => ih _ _
theorem setRow_below (g : Nat) (t : Row) {w0 w : World} {B : Nat} (h : Below B w0 w) (off : Nat) (hg : B ≤ g) : Below B w0 (setRow w g off t) :=
  ⟨(setRow_same g t w off).1.trans h.os, (setRow_same g t w off).2.1.trans h.tape, (setRow_same g t w off).2.2.trans h.output, by rw [setRow_size]; exact h.size, fun k hk => (setRow_other g t w off k (by omega)).trans (h.block k hk)⟩
/-- The slice value v owns the structs ts of n cells each (element type e). -/
def NOwns (w : World) (e : TypeId) (n : Nat) (v : Value) (ts : List Row) : Prop := Even n ts ∧ w.ownsRow 0 e n v ts.length ts.flatten
theorem NOwns.lt {w : World} {e : TypeId} {n : Nat} {v : Value} {l : List Row} (h : NOwns w e n v l) : ∀ k, v.ownBlock = some k → k < w.heap.size := fun k hk => (World.ownsRow.lt h.2 k hk).2
theorem NOwns.of_heap {w w' : World} {e : TypeId} {n : Nat} {v : Value} {l : List Row} (h : NOwns w e n v l) (hh : ∀ k, v.ownBlock = some k → w'.heap[k]? = w.heap[k]?) : NOwns w' e n v l := by
  refine ⟨h.1, h.2.1, ?_⟩
  rcases h.2.2 with h1 | ⟨g, cap, cur, h1, h2, h3, h4⟩
  · exact .inl h1
  · exact .inr ⟨g, cap, cur, h1, h2, by rw [hh g (by rw [h1]; rfl), h3], h4⟩
theorem NOwns.nil (w : World) (e : TypeId) (n : Nat) : NOwns w e n (.slice none 0 0) [] := ⟨Even.nil _, World.ownsRow_nil _ _ _ _⟩
theorem NOwns.form {w : World} {e : TypeId} {n : Nat} {v : Value} {l : List Row} (h : NOwns w e n v l) : ∃ a cap, v = .slice a l.length cap ∧ l.length ≤ cap ∧ (a = none → l = []) := by
  rcases h.2.2 with ⟨rfl, h0⟩ | ⟨g, cap, cur, rfl, _, _, hc, _⟩
  · exact ⟨none, 0, by rw [h0], by omega, fun _ => List.length_eq_zero_iff.1 h0⟩
  · exact ⟨_, _, rfl, hc, fun h => by cases h⟩
theorem NOwns.at {w : World} {e : TypeId} {n : Nat} {v : Value} {l : List Row} (h : NOwns w e n v l) (k : Nat) (hk : k < l.length) :
    ∃ g cap, v = .slice (some ⟨g, 0, none⟩) l.length cap ∧ (∀ i, i < n → w.cell? ⟨g, k * n + i, none⟩ = l[k][i]?) ∧ (∀ j, w.frozen? ⟨g, j, none⟩ = false) ∧ g < w.heap.size ∧ l.length ≤ cap := by
  have hlt := h.lt
  rcases h.2.2 with ⟨h1, h0⟩ | ⟨g, cap, cur, rfl, h2, h3, h4, h5, h6, h7⟩
  · omega
  · have h' : w.ownsRow 0 e n (.slice (some ⟨g, 0, none⟩) l.length cap) l.length l.flatten := h.2
    refine ⟨g, cap, rfl, fun i hi => (h'.cellAt _ ?_).trans (flat_at h.1 k i hk hi), h'.frozenAt, hlt g rfl, h4⟩
    have : (k + 1) * n ≤ l.length * n := Nat.mul_le_mul_right n hk
    rw [Nat.add_mul] at this
    omega
theorem NOwns.set {w : World} {g cap : Nat} {e : TypeId} {n : Nat} {l : List Row} (h : NOwns w e n (.slice (some ⟨g, 0, none⟩) l.length cap) l) (k i : Nat) (hk : k < l.length) (hi : i < n) (x : Value) :
    NOwns (w.setCell ⟨g, k * n + i, none⟩ x) e n (.slice (some ⟨g, 0, none⟩) l.length cap) (l.set k (l[k].set i x)) := by
  refine ⟨h.1.set k (by rw [List.length_set]; exact h.1.at k hk), ?_⟩
  rw [List.length_set, ← flat_set h.1 k i hk hi x]
  exact (World.ownsRow.stored h.2 (k * n + i) x).1
theorem NOwns.setRow {g cap : Nat} {e : TypeId} {n : Nat} (k : Nat) (t : Row) : ∀ (w : World) (l : List Row) (hk : k < l.length) (pre : Row), NOwns w e n (.slice (some ⟨g, 0, none⟩) l.length cap) l → pre.length + t.length = n → l[k].take pre.length = pre →
    NOwns (setRow w g (k * n + pre.length) t) e n (.slice (some ⟨g, 0, none⟩) l.length cap) (l.set k (pre ++ t)) := by
  induction t with
  | nil =>
    intro w l hk pre h hl hp
    have e1 : l[k] = pre := by
      have := h.1.at k hk
      rw [← hp, List.take_of_length_le (by simp at hl; omega)]
    rw [List.append_nil, ← e1, List.set_getElem_self]
    exact h
  | cons x r ih =>
    intro w l hk pre h hl hp
    have hlen := h.1.at k hk
    simp only [List.length_cons] at hl
    have h1 := h.set k pre.length hk (by omega) x
    have hk2 : k < (l.set k (l[k].set pre.length x)).length := by simpa using hk
    have h2 : NOwns (w.setCell ⟨g, k * n + pre.length, none⟩ x) e n (.slice (some ⟨g, 0, none⟩) (l.set k (l[k].set pre.length x)).length cap) (l.set k (l[k].set pre.length x)) := by rw [List.length_set]; exact h1
    have hp2 : (l.set k (l[k].set pre.length x))[k].take (pre ++ [x]).length = pre ++ [x] := by
      rw [List.getElem_set_self, List.length_append, List.length_singleton, List.take_add_one, List.take_set_of_le (Nat.le_refl _), hp, List.getElem?_set_self (by omega)]
      rfl
    have h3 := ih _ _ hk2 (pre ++ [x]) h2 (by simp; omega) hp2
    rw [List.length_append, List.length_singleton, List.length_set, List.set_set, List.append_assoc] at h3
    exact h3
theorem NOwns.of_at {w : World} {e : TypeId} {n g : Nat} {cs : Array Value} {ts : List Row} (h : AtC w g e cs) (hc : cs.toList = ts.flatten) (he : Even n ts) (hm : ts.length ≤ maxLen) : NOwns w e n (.slice (some ⟨g, 0, none⟩) ts.length ts.length) ts := by
  have hs : cs.size = ts.length * n := by rw [← Array.length_toList, hc, flat_length he]
  refine ⟨he, by rw [flat_length he], .inr ⟨g, ts.length, cs, rfl, Nat.zero_le _, h, Nat.le_refl _, hm, hs, ?_⟩⟩
  rw [hc, List.take_of_length_le (by rw [flat_length he]; exact Nat.le_refl _)]
theorem step_append_n {P : Program} (W : World) {ops : Array Oper} {o : Oper} {a : Act} {K : Act → World → Prop} {Q : Exit → Act → World → Prop} {E : Prop} (hgd : o.guard = none) (s x : Operand) (t : TypeId)
    (ho : o.op = .call { callee := .builtin .append, args := #[s, x], argTypes := #[t, t] }) (e : TypeId) (ht : P.underlying t = some (.slice e)) (z : Value) (n bytes : Nat)
    (hi : (P.info? e).map (fun i => (i.zero, i.size, i.bytes)) = some (some z, n, bytes)) (hzc : z.cells.size = n) (hn : 0 < n) (hby : bytes ≤ 640) (v : Value) (ts : List Row) (hs : a.eval s = v) (hown : NOwns W e n v ts)
    (g : Nat) (y : Row) (hy : y.length = n) (hx : a.eval x = .slice (some ⟨g, 0, none⟩) 1 1) (hc : ∀ (j : Nat) (u : Value), y[j]? = some u → W.cell? ⟨g, j, none⟩ = some u) (h1 : ∀ u ∈ y, u.oneCell' = true) (hl : ts.length ≤ 100000000000)
    (h : ∀ v' w', NOwns w' e n v' (ts ++ [y]) → W.grownBy w' v.ownBlock → (∀ k, v'.ownBlock = some k → v.ownBlock = some k ∨ W.heap.size ≤ k) → K (a.put o.dst v') w') :
    if Region.wanted o (yielded ops a.tmps) = true then Oper.wp P o a W K Q else E := by
  obtain ⟨i0, hi, hz0, hz1, hz2⟩ := info_parts hi
  refine step_append_lies _ hgd s x t ho 0 e i0 z n bytes ht hi hz0 hz1 hz2 hzc hn v ts.length ts.flatten hs hown.2 ⟨g, 0, none⟩ 1 1 y hx (by rw [hy, Nat.one_mul]) ?_ h1 (by decide) ?_ ?_ (Nat.zero_le _) W.heap.size rfl ?_
  · intro j u hj
    have := hc j u hj
    by_cases e : j = 0
    · subst e; simpa [Addr.add] using this
    · simpa [Addr.add, e] using this
  · unfold maxLen; omega
  · have : (ts.length + 1) * bytes ≤ 100000000001 * 640 := Nat.mul_le_mul (by omega) hby
    omega
  · intro g' cap w' hown' hgrow hat _
    refine h _ w' ⟨hown.1.append (Even.mk hy (Even.nil _)), ?_⟩ hgrow fun k hk => ?_
    · rw [List.length_append, List.flatten_append, show [y].flatten = y by simp]
      exact hown'
    · simp only [Value.ownBlock, Option.some.injEq] at hk
      subst hk
      rcases hat with hat | hat
      · exact .inl hat
      · exact .inr (by omega)
/-- A kind of structs: how many cells, the type, which cell owns memory, how one owns and reads its value. -/
structure Kn (α : Type) where
  n : Nat
  T : TypeId
  p : Row → Value
  O : World → Row → α → Prop
  R : World → Row → α → Prop
  len : ∀ {w : World} {t : Row} {x : α}, O w t x → t.length = n
  heap : ∀ {w w' : World} {t : Row} {x : α}, O w t x → (∀ k, (p t).ownBlock = some k → w'.heap[k]? = w.heap[k]?) → O w' t x
  lt : ∀ {w : World} {t : Row} {x : α}, O w t x → ∀ k, (p t).ownBlock = some k → k < w.heap.size
  rd : ∀ {w : World} {t : Row} {x : α}, O w t x → R w t x
  bel : ∀ {w w' : World} {t : Row} {x : α} {B : Nat}, R w t x → Below B w w' → w.heap.size ≤ B → R w' t x
/-- A list of such structs, in blocks of S of its own, no two of which are one. -/
structure GN {α : Type} (K : Kn α) (w : World) (S : Nat → Prop) (v : Value) (ts : List Row) (xs : List α) : Prop where
  len : ts.length = xs.length
  row : NOwns w K.T K.n v ts
  inn : ∀ (j : Nat) (h : j < ts.length) (h' : j < xs.length), K.O w ts[j] xs[j]
  sep : ∀ (i j : Nat) (hi : i < ts.length) (hj : j < ts.length), i ≠ j → ∀ k, (K.p ts[i]).ownBlock = some k → (K.p ts[j]).ownBlock ≠ some k
  out : ∀ (j : Nat) (h : j < ts.length) (k : Nat), (K.p ts[j]).ownBlock = some k → v.ownBlock ≠ some k
  so : ∀ k, v.ownBlock = some k → S k
  si : ∀ (j : Nat) (h : j < ts.length) (k : Nat), (K.p ts[j]).ownBlock = some k → S k
namespace GN
variable {α : Type} {K : Kn α} {w w' w1 w2 : World} {S S' : Nat → Prop} {v v' : Value} {ts : List Row} {xs : List α} {t' : Row} {x' : α}
theorem of_heap (h : GN K w S v ts xs) (hh : ∀ k, S k → k < w.heap.size → w'.heap[k]? = w.heap[k]?) : GN K w' S v ts xs :=
  ⟨h.len, h.row.of_heap fun k hk => hh k (h.so k hk) (h.row.lt k hk), fun j hj hj' => K.heap (h.inn j hj hj') fun k hk => hh k (h.si j hj k hk) (K.lt (h.inn j hj hj') k hk), h.sep, h.out, h.so, h.si⟩
theorem below {B : Nat} (h : GN K w S v ts xs) (hb : Below B w w') (hB : w.heap.size ≤ B) : GN K w' S v ts xs := h.of_heap fun k _ hk => hb.block k (by omega)
theorem chg (h : GN K w S v ts xs) (hc : Chg S' w w') (hd : ∀ k, S k → ¬ S' k) : GN K w' S v ts xs := h.of_heap fun k hs hk => hc.block k hk (hd k hs)
theorem alloc (h : GN K w S v ts xs) (o : Obj) : GN K (w.alloc o) S v ts xs := h.below ((Below.refl _ w).alloc (Nat.le_refl _) o) (Nat.le_refl _)
theorem drew (h : GN K w S v ts xs) : GN K w.drew S v ts xs := h.below (Below.refl w.heap.size w).drew (Nat.le_refl _)
theorem mono (h : GN K w S v ts xs) (hs : ∀ k, S k → S' k) : GN K w S' v ts xs := ⟨h.len, h.row, h.inn, h.sep, h.out, fun k e => hs k (h.so k e), fun j hj k e => hs k (h.si j hj k e)⟩
theorem bound (h : GN K w S v ts xs) : GN K w (fun k => S k ∧ k < w.heap.size) v ts xs :=
  ⟨h.len, h.row, h.inn, h.sep, h.out, fun k e => ⟨h.so k e, h.row.lt k e⟩, fun j hj k e => ⟨h.si j hj k e, K.lt (h.inn j hj (by rw [← h.len]; exact hj)) k e⟩⟩
theorem form (h : GN K w S v ts xs) : ∃ a cap, v = .slice a xs.length cap := by
  obtain ⟨a, c, e, _⟩ := h.row.form
  exact ⟨a, c, by rw [e, h.len]⟩
theorem nil (w : World) (S : Nat → Prop) : GN K w S (.slice none 0 0) [] [] :=
  ⟨rfl, NOwns.nil _ _ _, fun j hj => by simp at hj, fun i j hi => by simp at hi, fun j hj => by simp at hj, (fun k e => by cases e), fun j hj => by simp at hj⟩
theorem len_of (h : GN K w S v ts xs) {a : Option Addr} {n cap : Nat} (hv : v = .slice a n cap) : n = ts.length := by
  obtain ⟨a', c, e, _⟩ := h.row.form
  rw [hv] at e
  simp only [Value.slice.injEq] at e
  exact e.2.1
theorem turn (h : GN K w S v ts xs) (j : Nat) (hj : j < ts.length) (t' : Row) (x' : α) (hr : NOwns w' K.T K.n v (ts.set j t')) (hO : K.O w' t' x')
    (hf : ∀ k, k < w.heap.size → v.ownBlock ≠ some k → (K.p ts[j]).ownBlock ≠ some k → w'.heap[k]? = w.heap[k]?)
    (hn : ∀ k, (K.p t').ownBlock = some k → (K.p ts[j]).ownBlock = some k ∨ w.heap.size ≤ k) (hs : ∀ k, S k → S' k) (hs2 : ∀ k, (K.p t').ownBlock = some k → S' k) : GN K w' S' v (ts.set j t') (xs.set j x') := by
  have hl := h.len
  have hv := h.row.lt
  refine ⟨by simp [hl], hr, fun i hi hi' => ?_, fun i i2 hi hi2 hne k e1 e2 => ?_, fun i hi k e1 e2 => ?_, fun k e => hs k (h.so k e), fun i hi k e => ?_⟩
  · simp only [List.length_set] at hi hi'
    by_cases e : j = i
    · subst e
      simp only [List.getElem_set_self]
      exact hO
    · simp only [List.getElem_set_ne e]
      exact K.heap (h.inn i hi hi') fun k hk => hf k (K.lt (h.inn i hi hi') k hk) (fun e' => h.out i hi k hk e') (fun e' => h.sep i j hi hj (fun q => e q.symm) k hk e')
  · simp only [List.length_set] at hi hi2
    by_cases ei : j = i
    · subst ei
      simp only [List.getElem_set_self] at e1
      rw [List.getElem_set_ne hne] at e2
      rcases hn k e1 with q | q
      · exact h.sep j i2 hi hi2 hne k q e2
      · have := K.lt (h.inn i2 hi2 (by omega)) k e2; omega
    · rw [List.getElem_set_ne ei] at e1
      by_cases e2' : j = i2
      · subst e2'
        simp only [List.getElem_set_self] at e2
        rcases hn k e2 with q | q
        · exact h.sep i j hi hj hne k e1 q
        · have := K.lt (h.inn i hi (by omega)) k e1; omega
      · rw [List.getElem_set_ne e2'] at e2
        exact h.sep i i2 hi hi2 hne k e1 e2
  · simp only [List.length_set] at hi
    by_cases ei : j = i
    · subst ei
      simp only [List.getElem_set_self] at e1
      rcases hn k e1 with q | q
      · exact h.out j hi k q e2
      · have := hv k e2; omega
    · rw [List.getElem_set_ne ei] at e1
      exact h.out i hi k e1 e2
  · simp only [List.length_set] at hi
    by_cases ei : j = i
    · subst ei
      simp only [List.getElem_set_self] at e
      exact hs2 k e
    · rw [List.getElem_set_ne ei] at e
      exact hs k (h.si i hi k e)
/-- A struct of new memory is put in its place. -/
theorem put (h : GN K w S v ts xs) {g n cap : Nat} (hv : v = .slice (some ⟨g, 0, none⟩) n cap) (j : Nat) (hj : j < ts.length) (hb : Below w.heap.size w w1) (hO : K.O w1 t' x')
    (hn : ∀ k, (K.p t').ownBlock = some k → w.heap.size ≤ k) (hs : ∀ k, S k → S' k) (hs2 : ∀ k, w.heap.size ≤ k → S' k) : GN K (setRow w1 g (j * K.n) t') S' v (ts.set j t') (xs.set j x') := by
  have hg : g < w.heap.size := h.row.lt g (by rw [hv]; rfl)
  have r1 : NOwns w1 K.T K.n v ts := h.row.of_heap fun k hk => hb.block k (h.row.lt k hk)
  have hlen := h.len_of hv
  subst hlen
  subst hv
  refine h.turn j hj t' x' ?_ (K.heap hO fun k hk => setRow_other g t' _ _ k (by have := hn k hk; omega)) (fun k hk h1 _ => (setRow_other g t' _ _ k (fun e => h1 (by rw [e]; rfl))).trans (hb.block k hk)) (fun k hk => .inr (hn k hk)) hs (fun k hk => hs2 k (hn k hk))
  have := NOwns.setRow (g := g) (cap := cap) j t' w1 ts hj [] r1 (by rw [List.length_nil, Nat.zero_add]; exact K.len hO) rfl
  exact this
/-- A struct of new memory is appended. -/
theorem append (h : GN K w S v ts xs) (hb : Below w.heap.size w w1) (hO : K.O w1 t' x') (hn : ∀ k, (K.p t').ownBlock = some k → w.heap.size ≤ k)
    (hr : NOwns w2 K.T K.n v' (ts ++ [t'])) (hg : w1.grownBy w2 v.ownBlock) (hv : ∀ k, v'.ownBlock = some k → v.ownBlock = some k ∨ w1.heap.size ≤ k) : GN K w2 (fun k => (S k ∧ k < w.heap.size) ∨ w.heap.size ≤ k) v' (ts ++ [t']) (xs ++ [x']) := by
  have hl := h.len
  have hsz := hb.size
  have hlt : ∀ (i : Nat) (hi : i < ts.length) (k : Nat), (K.p ts[i]).ownBlock = some k → k < w.heap.size := fun i hi k hk => K.lt (h.inn i hi (by omega)) k hk
  have hlt' : ∀ k, (K.p t').ownBlock = some k → k < w1.heap.size := fun k hk => K.lt hO k hk
  have hvl : ∀ k, v.ownBlock = some k → k < w.heap.size := h.row.lt
  have at_l : ∀ (i : Nat) (hi : i < (ts ++ [t']).length), (∃ h' : i < ts.length, (ts ++ [t'])[i] = ts[i]) ∨ (i = ts.length ∧ (ts ++ [t'])[i] = t') := fun i hi => by
    by_cases e : i < ts.length
    · exact .inl ⟨e, List.getElem_append_left e⟩
    · have e2 : i = ts.length := by simp at hi; omega
      refine .inr ⟨e2, ?_⟩
      subst e2
      simp
  refine ⟨by simp [hl], hr, fun i hi hi' => ?_, fun i j hi hj hne k e1 e2 => ?_, fun i hi k e1 e2 => ?_, fun k e => ?_, fun i hi k e => ?_⟩
  · rcases at_l i hi with ⟨h', e⟩ | ⟨rfl, e⟩
    · rw [e, List.getElem_append_left (by omega)]
      exact K.heap (h.inn i h' (by omega)) fun k hk => (hg.block k (by have := hlt i h' k hk; omega) (fun e => h.out i h' k hk e.symm)).trans (hb.block k (hlt i h' k hk))
    · have e2 : (xs ++ [x'])[ts.length] = x' := by simp [hl]
      rw [e, e2]
      exact K.heap hO fun k hk => hg.block k (hlt' k hk) (fun e => by have := hvl k e.symm; have := hn k hk; omega)
  · rcases at_l i hi with ⟨h1, q1⟩ | ⟨q0, q1⟩ <;> rcases at_l j hj with ⟨h2, q2⟩ | ⟨q3, q2⟩ <;> rw [q1] at e1 <;> rw [q2] at e2
    · exact h.sep i j h1 h2 hne k e1 e2
    · have := hlt i h1 k e1; have := hn k e2; omega
    · have := hlt j h2 k e2; have := hn k e1; omega
    · omega
  · rcases at_l i hi with ⟨h1, q1⟩ | ⟨q0, q1⟩ <;> rw [q1] at e1
    · rcases hv k e2 with q | q
      · exact h.out i h1 k e1 q
      · have := hlt i h1 k e1; omega
    · rcases hv k e2 with q | q
      · have := hvl k q; have := hn k e1; omega
      · have := hlt' k e1; omega
  · rcases hv k e with q | q
    · exact .inl ⟨h.so k q, hvl k q⟩
    · exact .inr (by omega)
  · rcases at_l i hi with ⟨h1, q1⟩ | ⟨q0, q1⟩ <;> rw [q1] at e
    · exact .inl ⟨h.si i h1 k e, hlt i h1 k e⟩
    · exact .inr (hn k e)
end GN
/-- A slice value is read as a list of such structs. -/
def RN {α : Type} (K : Kn α) (w : World) (v : Value) (xs : List α) : Prop := ∃ a cap, v = .slice a xs.length cap ∧ xs.length ≤ cap ∧ ∀ (j : Nat) (h : j < xs.length), ∃ g off t, a = some ⟨g, off, none⟩ ∧ g < w.heap.size ∧ (∀ i, i < K.n → w.cell? ⟨g, off + j * K.n + i, none⟩ = t[i]?) ∧ K.R w t xs[j]
theorem RN.below {α : Type} {K : Kn α} {w w' : World} {B : Nat} {v : Value} {xs : List α} (h : RN K w v xs) (hb : Below B w w') (hB : w.heap.size ≤ B) : RN K w' v xs := by
  obtain ⟨a, cap, h1, h2, h3⟩ := h
  refine ⟨a, cap, h1, h2, fun j hj => ?_⟩
  obtain ⟨g, off, t, k1, k2, k3, k4⟩ := h3 j hj
  exact ⟨g, off, t, k1, Nat.lt_of_lt_of_le k2 hb.size, fun i hi => (hb.cell (p := ⟨g, off + j * K.n + i, none⟩) (by show g < B; omega)).trans (k3 i hi), K.bel k4 hb hB⟩
theorem RN.alloc {α : Type} {K : Kn α} {w : World} {v : Value} {xs : List α} (h : RN K w v xs) (o : Obj) : RN K (w.alloc o) v xs := h.below ((Below.refl _ w).alloc (Nat.le_refl _) o) (Nat.le_refl _)
theorem RN.drew {α : Type} {K : Kn α} {w : World} {v : Value} {xs : List α} (h : RN K w v xs) : RN K w.drew v xs := h.below (Below.refl w.heap.size w).drew (Nat.le_refl _)
theorem RN.form {α : Type} {K : Kn α} {w : World} {v : Value} {xs : List α} (h : RN K w v xs) : ∃ a c, v = .slice a xs.length c := by
  obtain ⟨a, c, h, _⟩ := h
  exact ⟨a, c, h⟩
theorem GN.rn {α : Type} {K : Kn α} {w : World} {S : Nat → Prop} {v : Value} {ts : List Row} {xs : List α} (h : GN K w S v ts xs) : RN K w v xs := by
  obtain ⟨a, cap, e, hc, _⟩ := h.row.form
  have hl := h.len
  refine ⟨a, cap, by rw [e, hl], by omega, fun j hj => ?_⟩
  obtain ⟨g, c', e', k1, k2, k3, -⟩ := h.row.at j (by omega)
  rw [e] at e'
  simp only [Value.slice.injEq] at e'
  exact ⟨g, 0, ts[j], e'.1, k3, fun i hi => by rw [Nat.zero_add]; exact k1 i hi, K.rd (h.inn j (by omega) hj)⟩
end Go.Proofs.YtmjhgfkplolelaaGreat.Kit
/- Lists of inodes and of blocks that are marked, and held against their marks: the mathematics, laws.markInodeS, laws.markBlockS, laws.heldInodeS, laws.heldBlockS by their contracts. -/
namespace Go.Proofs.YtmjhgfkplolelaaGreat.Kit
open Go.RowKit
/-- The number behind a list whose members take so many marks each. -/
def cnt {α : Type} (sz : α → Nat) : Nat → List α → Nat
  | k, [] => k
  | k, x :: r => cnt sz (k + sz x) r
/-- The list, each member marked from its number on. -/
def mkL {α : Type} (sz : α → Nat) (mk : Nat → α → α) : Nat → List α → List α
  | _, [] => []
  | k, x :: r => mk k x :: mkL sz mk (k + sz x) r
section
variable {α : Type} {sz : α → Nat} {mk : Nat → α → α}
theorem cnt_append (k : Nat) (a b : List α) : cnt sz k (a ++ b) = cnt sz (cnt sz k a) b := by
  induction a generalizing k with
  | nil => rfl
  | cons x r ih => exact ih _
theorem mkL_append (k : Nat) (a b : List α) : mkL sz mk k (a ++ b) = mkL sz mk k a ++ mkL sz mk (cnt sz k a) b := by
  induction a generalizing k with
  | nil => rfl
  | cons x r ih => simp only [List.cons_append, mkL, cnt, ih]
theorem mkL_length (k : Nat) (l : List α) : (mkL sz mk k l).length = l.length := by
  induction l generalizing k with
  | nil => rfl
  | cons x r ih => simp only [mkL, List.length_cons, ih]
theorem cnt_ge (k : Nat) (l : List α) : k ≤ cnt sz k l := by
  induction l generalizing k with
  | nil => exact Nat.le_refl _
  | cons x r ih => have := ih (k + sz x); simp only [cnt]; omega
theorem cnt_len (hs : ∀ x, 1 ≤ sz x) (k : Nat) (l : List α) : k + l.length ≤ cnt sz k l := by
  induction l generalizing k with
  | nil => exact Nat.le_refl _
  | cons x r ih => have := ih (k + sz x); have := hs x; simp only [cnt, List.length_cons]; omega
theorem take_split (l : List α) (j : Nat) (h : j < l.length) : l.take (j + 1) = l.take j ++ [l[j]] := by simp
theorem cnt_succ (k : Nat) (l : List α) (j : Nat) (h : j < l.length) : cnt sz k (l.take (j + 1)) = cnt sz k (l.take j) + sz l[j] := by
  rw [take_split l j h, cnt_append]; rfl
theorem cnt_le (k : Nat) (l : List α) (j : Nat) (h : j < l.length) : cnt sz k (l.take j) + sz l[j] ≤ cnt sz k l := by
  rw [← cnt_succ k l j h]
  conv => rhs; rw [← List.take_append_drop (j + 1) l, cnt_append]
  exact cnt_ge _ _
theorem cnt_all (k : Nat) (l : List α) : cnt sz k (l.take l.length) = cnt sz k l := by rw [List.take_length]
/-- The first j members are marked already. -/
def mkd (sz : α → Nat) (mk : Nat → α → α) (k j : Nat) (l : List α) : List α := mkL sz mk k (l.take j) ++ l.drop j
theorem mkd_length (k j : Nat) (l : List α) : (mkd sz mk k j l).length = l.length := by
  rw [mkd, List.length_append, mkL_length, List.length_take, List.length_drop]; omega
theorem mkd_zero (k : Nat) (l : List α) : mkd sz mk k 0 l = l := by simp [mkd, mkL]
theorem mkd_all (k : Nat) (l : List α) : mkd sz mk k l.length l = mkL sz mk k l := by simp [mkd]
theorem mkd_at (k j : Nat) (l : List α) (h : j < l.length) (h' : j < (mkd sz mk k j l).length) : (mkd sz mk k j l)[j] = l[j] := by
  have e : (mkL sz mk k (l.take j)).length = j := by rw [mkL_length, List.length_take]; omega
  simp only [mkd]
  rw [List.getElem_append_right (by omega)]
  simp [e]
theorem mkd_set (k j : Nat) (l : List α) (h : j < l.length) : (mkd sz mk k j l).set j (mk (cnt sz k (l.take j)) l[j]) = mkd sz mk k (j + 1) l := by
  have e : (mkL sz mk k (l.take j)).length = j := by rw [mkL_length, List.length_take]; omega
  simp only [mkd]
  rw [take_split l j h, mkL_append, List.set_append_right _ _ (by omega), e, List.drop_eq_getElem_cons h]
  simp only [Nat.sub_self, List.set_cons_zero, mkL, List.append_assoc, List.cons_append, List.nil_append]
theorem mkL_at (k j : Nat) (l : List α) (h : j < l.length) (h' : j < (mkL sz mk k l).length) : (mkL sz mk k l)[j] = mk (cnt sz k (l.take j)) l[j] := by
  have e : (mkL sz mk k (l.take j)).length = j := by rw [mkL_length, List.length_take]; omega
  have s : mkL sz mk k l = mkL sz mk k (l.take j) ++ mk (cnt sz k (l.take j)) l[j] :: mkL sz mk (cnt sz k (l.take j) + sz l[j]) (l.drop (j + 1)) := by
    conv => lhs; rw [← List.take_append_drop j l, mkL_append, List.drop_eq_getElem_cons h]
    rfl
  have key : ∀ m : List α, mkL sz mk k l = m → ∀ q : j < m.length, (mkL sz mk k l)[j] = m[j] := by rintro m rfl q; rfl
  rw [key _ s (by rw [← s]; exact h')]
  rw [List.getElem_append_right (by omega)]
  simp [e]
end
theorem TOwns.set01 {w : World} {g cap : Nat} {e : TypeId} {l : List V3} (h : TOwns w e (.slice (some ⟨g, 0, none⟩) l.length cap) l) (k : Nat) (hk : k < l.length) (x y : Value) :
    TOwns ((w.setCell ⟨g, k * 3, none⟩ x).setCell ⟨g, k * 3 + 1, none⟩ y) e (.slice (some ⟨g, 0, none⟩) l.length cap) (l.set k (x, y, l[k].2.2)) := by
  have h1 := h.set0 k hk x
  have h2 : TOwns (w.setCell ⟨g, k * 3, none⟩ x) e (.slice (some ⟨g, 0, none⟩) (l.set k (x, l[k].2.1, l[k].2.2)).length cap) (l.set k (x, l[k].2.1, l[k].2.2)) := by rw [List.length_set]; exact h1
  have h3 := h2.set1 k (by simpa using hk) y
  simp only [List.length_set, List.getElem_set_self, List.set_set] at h3
  exact h3
theorem GO.len_of {α : Type} {K : Kd α} {w : World} {S : Nat → Prop} {v : Value} {ts : List V3} {xs : List α} (h : GO K w S v ts xs) {a : Option Addr} {n cap : Nat} (hv : v = .slice a n cap) : n = ts.length := by
  obtain ⟨a', c, e, _⟩ := h.row.form
  rw [hv] at e
  simp only [Value.slice.injEq] at e
  exact e.2.1
/-- One inode is marked: two cells are stored, and its list is turned. -/
theorem GO.markI {w w1 : World} {S : Nat → Prop} {v : Value} {ts : List V3} {xs : List Ino} (h : GO KI w S v ts xs) {g n cap : Nat} (hv : v = .slice (some ⟨g, 0, none⟩) n cap) (j : Nat) (hj : j < ts.length) (a b : Int) (l' : List Int)
    (hr : ROwns w1 0 3 ts[j].2.2 (ic l')) (hg : ((w.setCell ⟨g, j * 3, none⟩ (.int .i64 a)).setCell ⟨g, j * 3 + 1, none⟩ (.int .i64 b)).grownBy w1 ts[j].2.2.ownBlock) :
    GO KI w1 S v (ts.set j (.int .i64 a, .int .i64 b, ts[j].2.2)) (xs.set j (a, b, l')) ∧ Chg S w w1 := by
  have hlen := h.len_of hv
  subst hlen
  have ho := h.out j hj
  have hgw : g < w.heap.size := h.row.lt g (by rw [hv]; rfl)
  have hoth : ∀ k, k ≠ g → ((w.setCell ⟨g, j * 3, none⟩ (.int .i64 a)).setCell ⟨g, j * 3 + 1, none⟩ (.int .i64 b)).heap[k]? = w.heap[k]? := fun k hk =>
    (heap_setCell_other _ ⟨g, j * 3 + 1, none⟩ k _ (by simpa using hk)).trans (heap_setCell_other _ ⟨g, j * 3, none⟩ k _ (by simpa using hk))
  have hsz : ((w.setCell ⟨g, j * 3, none⟩ (.int .i64 a)).setCell ⟨g, j * 3 + 1, none⟩ (.int .i64 b)).heap.size = w.heap.size := by simp
  have hvg : v.ownBlock = some g := by rw [hv]; rfl
  have hrow := (hv ▸ h.row : TOwns w KI.T (.slice (some ⟨g, 0, none⟩) ts.length cap) ts).set01 j hj (.int .i64 a) (.int .i64 b)
  have hf : ∀ k, k < w.heap.size → v.ownBlock ≠ some k → (KI.p ts[j]).ownBlock ≠ some k → w1.heap[k]? = w.heap[k]? := fun k hk h1 h2 =>
    (hg.block k (by rw [hsz]; exact hk) (fun e => h2 (by rw [show (KI.p ts[j]) = ts[j].2.2 from rfl, ← e]))).trans (hoth k (fun e => h1 (by rw [e, hvg])))
  refine ⟨h.turn j hj _ _ ?_ ⟨rfl, rfl, hr⟩ hf (fun k hk => .inl hk) (fun _ h => h) (fun k hk => h.si j hj k hk), ⟨by rw [hg.os]; rfl, by rw [hg.tape]; rfl, by rw [hg.output]; rfl, by have := hg.size; rw [hsz] at this; exact this, fun k hk hn => hf k hk (fun e => hn (h.so k e)) (fun e => hn (h.si j hj k e))⟩⟩
  rw [hv]
  exact hrow.of_heap fun k hk => by
    have e : k = g := by simpa [Value.ownBlock] using hk.symm
    subst e
    exact hg.block k (by rw [hsz]; exact hgw) (fun e => ho k (by rw [show (KI.p ts[j]) = ts[j].2.2 from rfl, ← e]) hvg)
/-- One block is marked: a cell is stored, its slots are turned, a text is made and stored. -/
theorem GO.markB {w w1 w2 : World} {S : Nat → Prop} {v : Value} {ts : List V3} {xs : List Blk} (h : GO KB w S v ts xs) {g n cap : Nat} (hv : v = .slice (some ⟨g, 0, none⟩) n cap) (j : Nat) (hj : j < ts.length) (a : Bool) (t : ByteArray) (l' : List Sl)
    (hr : SOwns w1 0 137 ts[j].2.1 l') (hg : (w.setCell ⟨g, j * 3, none⟩ (.bool a)).grownBy w1 ts[j].2.1.ownBlock) (hb : Below w1.heap.size w1 w2) :
    GO KB (w2.setCell ⟨g, j * 3 + 2, none⟩ (.string t)) S v (ts.set j (.bool a, ts[j].2.1, .string t)) (xs.set j (a, l', t)) ∧ Chg S w (w2.setCell ⟨g, j * 3 + 2, none⟩ (.string t)) := by
  have hlen := h.len_of hv
  subst hlen
  have ho := h.out j hj
  have hgw : g < w.heap.size := h.row.lt g (by rw [hv]; rfl)
  have hsz : (w.setCell ⟨g, j * 3, none⟩ (.bool a)).heap.size = w.heap.size := by simp
  have hsz1 : w.heap.size ≤ w1.heap.size := by have := hg.size; rw [hsz] at this; exact this
  have hvg : v.ownBlock = some g := by rw [hv]; rfl
  have hin : ∀ k, ts[j].2.1.ownBlock = some k → k ≠ g := fun k hk e => ho k hk (by rw [e, hvg])
  have hrow := (hv ▸ h.row : TOwns w KB.T (.slice (some ⟨g, 0, none⟩) ts.length cap) ts).set0 j hj (.bool a)
  have hrow2 : TOwns w2 KB.T (.slice (some ⟨g, 0, none⟩) ts.length cap) (ts.set j (.bool a, ts[j].2.1, ts[j].2.2)) := hrow.of_heap fun k hk => by
    have e : k = g := by simpa [Value.ownBlock] using hk.symm
    subst e
    exact (hb.block k (by omega)).trans (hg.block k (by rw [hsz]; exact hgw) (fun e => hin k e.symm rfl))
  have hrow3 : TOwns w2 KB.T (.slice (some ⟨g, 0, none⟩) (ts.set j (.bool a, ts[j].2.1, ts[j].2.2)).length cap) (ts.set j (.bool a, ts[j].2.1, ts[j].2.2)) := by rw [List.length_set]; exact hrow2
  have hrow4 := hrow3.set2 j (by simpa using hj) (.string t)
  simp only [List.length_set, List.getElem_set_self, List.set_set] at hrow4
  have hf : ∀ k, k < w.heap.size → v.ownBlock ≠ some k → (KB.p ts[j]).ownBlock ≠ some k → (w2.setCell ⟨g, j * 3 + 2, none⟩ (.string t)).heap[k]? = w.heap[k]? := fun k hk h1 h2 =>
    have hne : k ≠ g := fun e => h1 (by rw [e, hvg])
    ((heap_setCell_other w2 ⟨g, j * 3 + 2, none⟩ k _ (by simpa using hne)).trans (hb.block k (by omega))).trans ((hg.block k (by rw [hsz]; exact hk) (fun e => h2 (by rw [show (KB.p ts[j]) = ts[j].2.1 from rfl, ← e]))).trans (heap_setCell_other w ⟨g, j * 3, none⟩ k _ (by simpa using hne)))
  have hr2 : SOwns (w2.setCell ⟨g, j * 3 + 2, none⟩ (.string t)) 0 137 ts[j].2.1 l' := (hr.below hb (Nat.le_refl _)).setCell_other (fun e => hin g e rfl) _
  refine ⟨h.turn j hj _ _ ?_ ⟨rfl, hr2, rfl⟩ hf (fun k hk => .inl hk) (fun _ h => h) (fun k hk => h.si j hj k hk), ⟨by show w2.os = w.os; rw [hb.os, hg.os]; rfl, by show w2.tape = w.tape; rw [hb.tape, hg.tape]; rfl, by show w2.output = w.output; rw [hb.output, hg.output]; rfl, by have := hb.size; simp; omega, fun k hk hn => hf k hk (fun e => hn (h.so k e)) (fun e => hn (h.si j hj k e))⟩⟩
  rw [hv]
  exact hrow4
end Go.Proofs.YtmjhgfkplolelaaGreat.Kit
/- What leans: its eleven cells, how lists of it lie and are read; a memory's parts. No Go function is spoken of. -/
namespace Go.Proofs.YtmjhgfkplolelaaGreat.Kit
open Go.RowKit
/-- One that leans. -/
structure Dp where
  id : Int
  kd : Int
  io : Int
  pt : Int
  bk : Int
  sl : Int
  nm : ByteArray
  bt : Bool
  ot : Bool
  af : Int
  bl : List Int
/-- Its cells, with the list's value. -/
def Dp.row (d : Dp) (p : Value) : Row := [.int .i64 d.id, .int .i64 d.kd, .int .i64 d.io, .int .i64 d.pt, .int .i64 d.bk, .int .i64 d.sl, .string d.nm, .bool d.bt, .bool d.ot, .int .i64 d.af, p]
/-- How such structs lie. -/
def KDep : Kn Dp where
  n := 11
  T := 145
  p := fun t => t.getD 10 (.slice none 0 0)
  O := fun w t x => ∃ p, t = x.row p ∧ ROwns w 0 3 p (ic x.bl)
  R := fun w t x => ∃ p, t = x.row p ∧ RInts w p x.bl
  len := fun h => by obtain ⟨p, rfl, -⟩ := h; rfl
  heap := fun h hh => by obtain ⟨p, rfl, h⟩ := h; exact ⟨p, rfl, h.of_heap hh⟩
  lt := fun h k hk => by obtain ⟨p, rfl, h⟩ := h; exact (h.lt k hk).2
  rd := fun h => by obtain ⟨p, rfl, h⟩ := h; exact ⟨p, rfl, h.rints⟩
  bel := fun h hb hB => by obtain ⟨p, rfl, h⟩ := h; exact ⟨p, rfl, h.below hb hB⟩
/-- The cells of one that leans, from o on. -/
def DCells (w : World) (g o : Nat) (d : Dp) (p : Value) : Prop := w.cell? ⟨g, o, none⟩ = some (.int .i64 d.id) ∧ w.cell? ⟨g, o + 1, none⟩ = some (.int .i64 d.kd) ∧ w.cell? ⟨g, o + 2, none⟩ = some (.int .i64 d.io) ∧ w.cell? ⟨g, o + 3, none⟩ = some (.int .i64 d.pt) ∧ w.cell? ⟨g, o + 4, none⟩ = some (.int .i64 d.bk) ∧ w.cell? ⟨g, o + 5, none⟩ = some (.int .i64 d.sl) ∧ w.cell? ⟨g, o + 6, none⟩ = some (.string d.nm) ∧ w.cell? ⟨g, o + 7, none⟩ = some (.bool d.bt) ∧ w.cell? ⟨g, o + 8, none⟩ = some (.bool d.ot) ∧ w.cell? ⟨g, o + 9, none⟩ = some (.int .i64 d.af) ∧ w.cell? ⟨g, o + 10, none⟩ = some (p)
theorem DCells.of {w : World} {g o : Nat} {d : Dp} {p : Value} (h : ∀ i, i < 11 → w.cell? ⟨g, o + i, none⟩ = (d.row p)[i]?) : DCells w g o d p :=
  ⟨h 0 (by decide), h 1 (by decide), h 2 (by decide), h 3 (by decide), h 4 (by decide), h 5 (by decide), h 6 (by decide), h 7 (by decide), h 8 (by decide), h 9 (by decide), h 10 (by decide)⟩
theorem DCells.below {w w' : World} {g o : Nat} {d : Dp} {p : Value} {B : Nat} (h : DCells w g o d p) (hb : Below B w w') (hg : g < B) : DCells w' g o d p := by
  obtain ⟨h0, h1, h2, h3, h4, h5, h6, h7, h8, h9, h10⟩ := h
  exact ⟨(hb.cell (p := ⟨g, o, none⟩) hg).trans h0, (hb.cell (p := ⟨g, o + 1, none⟩) hg).trans h1, (hb.cell (p := ⟨g, o + 2, none⟩) hg).trans h2, (hb.cell (p := ⟨g, o + 3, none⟩) hg).trans h3, (hb.cell (p := ⟨g, o + 4, none⟩) hg).trans h4, (hb.cell (p := ⟨g, o + 5, none⟩) hg).trans h5, (hb.cell (p := ⟨g, o + 6, none⟩) hg).trans h6, (hb.cell (p := ⟨g, o + 7, none⟩) hg).trans h7, (hb.cell (p := ⟨g, o + 8, none⟩) hg).trans h8, (hb.cell (p := ⟨g, o + 9, none⟩) hg).trans h9, (hb.cell (p := ⟨g, o + 10, none⟩) hg).trans h10⟩
theorem RN.dep {w : World} {v : Value} {xs : List Dp} (h : RN KDep w v xs) : ∃ a cap, v = .slice a xs.length cap ∧ xs.length ≤ cap ∧ ∀ (j : Nat) (h : j < xs.length), ∃ g off p, a = some ⟨g, off, none⟩ ∧ g < w.heap.size ∧ DCells w g (off + j * 11) xs[j] p ∧ RInts w p xs[j].bl := by
  obtain ⟨a, cap, e, hc, h⟩ := h
  refine ⟨a, cap, e, hc, fun j hj => ?_⟩
  obtain ⟨g, off, t, e1, hg, hc, p, rfl, hr⟩ := h j hj
  exact ⟨g, off, p, e1, hg, DCells.of fun i hi => hc i hi, hr⟩
theorem DO.bound {w : World} {S : Nat → Prop} {u v iv bv : Value} {xs ys : List Bool} {is : List Ino} {bs : List Blk} (h : DO w S u v iv bv xs ys is bs) : DO w (fun k => S k ∧ k < w.heap.size) u v iv bv xs ys is bs := by
  obtain ⟨T1, T2, T3, ti, tb, k1, k2, k3, k4, k5, k6, k7⟩ := h
  refine ⟨fun k => T1 k ∧ k < w.heap.size, fun k => T2 k ∧ k < w.heap.size, fun k => T3 k ∧ k < w.heap.size, ti, tb, k1, fun k hk => ⟨k2 k hk, hk.elim (fun e => (k1.a.lt k e).2) (fun e => (k1.b.lt k e).2)⟩, k3.bound, k4.bound, fun k hk => ⟨fun e => (k5 k hk.1).1 e.1, fun e => (k5 k hk.1).2 e.1⟩, fun k hk e => k6 k hk.1 e.1, fun k hk => ?_⟩
  rcases hk with hk | hk | hk
  · exact ⟨k7 k (.inl hk.1), hk.2⟩
  · exact ⟨k7 k (.inr (.inl hk.1)), hk.2⟩
  · exact ⟨k7 k (.inr (.inr hk.1)), hk.2⟩
/-- What a memory tells. -/
structure MD where
  xs : List Bool
  ys : List Bool
  is : List Ino
  bs : List Blk
  fs : List Bool
  ds : List Dp
  nx : Int
/-- The parts of a memory are read so. -/
structure MR (w : World) (u v iv bv dv pv : Value) (m : MD) : Prop where
  d : DR w u v iv bv m.xs m.ys m.is m.bs
  f : RFl w dv m.fs
  p : RN KDep w pv m.ds
namespace MR
variable {w w' : World} {u v iv bv dv pv : Value} {m : MD}
theorem below {B : Nat} (h : MR w u v iv bv dv pv m) (hb : Below B w w') (hB : w.heap.size ≤ B) : MR w' u v iv bv dv pv m := ⟨h.d.below hb hB, h.f.below hb hB, h.p.below hb hB⟩
theorem alloc (h : MR w u v iv bv dv pv m) (o : Obj) : MR (w.alloc o) u v iv bv dv pv m := h.below ((Below.refl _ w).alloc (Nat.le_refl _) o) (Nat.le_refl _)
theorem drew (h : MR w u v iv bv dv pv m) : MR w.drew u v iv bv dv pv m := h.below (Below.refl w.heap.size w).drew (Nat.le_refl _)
theorem form (h : MR w u v iv bv dv pv m) : ∃ a1 c1 a2 c2 a3 c3 a4 c4 a5 c5 a6 c6, u = .slice a1 m.xs.length c1 ∧ v = .slice a2 m.ys.length c2 ∧ iv = .slice a3 m.is.length c3 ∧ bv = .slice a4 m.bs.length c4 ∧ dv = .slice a5 m.fs.length c5 ∧ pv = .slice a6 m.ds.length c6 := by
  obtain ⟨a1, c1, a2, c2, a3, c3, a4, c4, e1, e2, e3, e4⟩ := h.d.form
  obtain ⟨a5, c5, e5⟩ := h.f.form
  obtain ⟨a6, c6, e6⟩ := h.p.form
  exact ⟨a1, c1, a2, c2, a3, c3, a4, c4, a5, c5, a6, c6, e1, e2, e3, e4, e5, e6⟩
end MR
/-- The parts of a memory are owned, each in blocks of its own, all of them of S. -/
def MO (w : World) (S : Nat → Prop) (u v iv bv dv pv : Value) (m : MD) : Prop :=
  ∃ (S1 S2 S3 : Nat → Prop) (ts : List Row), DO w S1 u v iv bv m.xs m.ys m.is m.bs ∧ ROwns w 0 4 dv (fc m.fs) ∧ (∀ k, dv.ownBlock = some k → S2 k) ∧ GN KDep w S3 pv ts m.ds ∧ (∀ k, S1 k → ¬ S2 k ∧ ¬ S3 k) ∧ (∀ k, S2 k → ¬ S3 k) ∧ ∀ k, S1 k ∨ S2 k ∨ S3 k → S k
namespace MO
variable {w w' : World} {S S' : Nat → Prop} {u v iv bv dv pv : Value} {m : MD}
theorem of_heap (h : MO w S u v iv bv dv pv m) (hh : ∀ k, S k → k < w.heap.size → w'.heap[k]? = w.heap[k]?) : MO w' S u v iv bv dv pv m := by
  obtain ⟨S1, S2, S3, ts, h1, h2, h3, h4, h5, h6, h7⟩ := h
  exact ⟨S1, S2, S3, ts, h1.of_heap fun k hs hk => hh k (h7 k (.inl hs)) hk, h2.of_heap fun k hk => hh k (h7 k (.inr (.inl (h3 k hk)))) (h2.lt k hk).2, h3, h4.of_heap fun k hs hk => hh k (h7 k (.inr (.inr hs))) hk, h5, h6, h7⟩
theorem below {B : Nat} (h : MO w S u v iv bv dv pv m) (hb : Below B w w') (hB : w.heap.size ≤ B) : MO w' S u v iv bv dv pv m := h.of_heap fun k _ hk => hb.block k (by omega)
theorem alloc (h : MO w S u v iv bv dv pv m) (o : Obj) : MO (w.alloc o) S u v iv bv dv pv m := h.below ((Below.refl _ w).alloc (Nat.le_refl _) o) (Nat.le_refl _)
theorem chg (h : MO w S u v iv bv dv pv m) (hc : Chg S' w w') (hd : ∀ k, S k → ¬ S' k) : MO w' S u v iv bv dv pv m := h.of_heap fun k hs hk => hc.block k hk (hd k hs)
theorem mono (h : MO w S u v iv bv dv pv m) (hs : ∀ k, S k → S' k) : MO w S' u v iv bv dv pv m := by
  obtain ⟨S1, S2, S3, ts, h1, h2, h3, h4, h5, h6, h7⟩ := h
  exact ⟨S1, S2, S3, ts, h1, h2, h3, h4, h5, h6, fun k hk => hs k (h7 k hk)⟩
theorem mr (h : MO w S u v iv bv dv pv m) : MR w u v iv bv dv pv m := by
  obtain ⟨S1, S2, S3, ts, h1, h2, h3, h4, -⟩ := h
  exact ⟨h1.dr, h2.rfl, h4.rn⟩
theorem bound (h : MO w S u v iv bv dv pv m) : MO w (fun k => S k ∧ k < w.heap.size) u v iv bv dv pv m := by
  obtain ⟨S1, S2, S3, ts, h1, h2, h3, h4, h5, h6, h7⟩ := h
  obtain ⟨T1, T2, T3, ti, tb, k1, k2, k3, k4, k5, k6, k7⟩ := h1
  refine ⟨fun k => S1 k ∧ k < w.heap.size, fun k => S2 k ∧ k < w.heap.size, fun k => S3 k ∧ k < w.heap.size, ts, ⟨fun k => T1 k ∧ k < w.heap.size, fun k => T2 k ∧ k < w.heap.size, fun k => T3 k ∧ k < w.heap.size, ti, tb, k1, fun k hk => ⟨k2 k hk, hk.elim (fun e => (k1.a.lt k e).2) (fun e => (k1.b.lt k e).2)⟩, k3.bound, k4.bound, fun k hk => ⟨fun e => (k5 k hk.1).1 e.1, fun e => (k5 k hk.1).2 e.1⟩, fun k hk e => k6 k hk.1 e.1, fun k hk => ?_⟩, h2, fun k hk => ⟨h3 k hk, (h2.lt k hk).2⟩, h4.bound, fun k hk => ⟨fun e => (h5 k hk.1).1 e.1, fun e => (h5 k hk.1).2 e.1⟩, fun k hk e => h6 k hk.1 e.1, fun k hk => ?_⟩
  · rcases hk with hk | hk | hk
    · exact ⟨k7 k (.inl hk.1), hk.2⟩
    · exact ⟨k7 k (.inr (.inl hk.1)), hk.2⟩
    · exact ⟨k7 k (.inr (.inr hk.1)), hk.2⟩
  · rcases hk with hk | hk | hk
    · exact ⟨h7 k (.inl hk.1), hk.2⟩
    · exact ⟨h7 k (.inr (.inl hk.1)), hk.2⟩
    · exact ⟨h7 k (.inr (.inr hk.1)), hk.2⟩
end MO
/-- Of no list is more than n told. -/
structure BigM (n : Nat) (m : MD) : Prop where
  d : Big n m.xs m.ys m.is m.bs
  f : m.fs.length ≤ n
  l : m.ds.length ≤ n
  b : ∀ (j : Nat) (h : j < m.ds.length), m.ds[j].bl.length ≤ n
  t : ∀ (j : Nat) (h : j < m.ds.length), m.ds[j].nm.size ≤ n
/-- Marks. -/
def szDp (x : Dp) : Nat := 10 + x.bl.length
def mkDp (k : Nat) (x : Dp) : Dp := ⟨(k : Int), ((k + 1 : Nat) : Int), ((k + 2 : Nat) : Int), ((k + 3 : Nat) : Int), ((k + 4 : Nat) : Int), ((k + 5 : Nat) : Int), mkT (k + 6), mk3 (k + 7), mk3 (k + 8), ((k + 9 : Nat) : Int), marksI (k + 10) x.bl.length⟩
end Go.Proofs.YtmjhgfkplolelaaGreat.Kit
/- A memory that comes in as an argument, opened: its lists and texts. -/
namespace Go.Proofs.YtmjhgfkplolelaaGreat.open_
open Go.ChangeShapes Go.WideShapes Go.ChangeAt Go.RowKit Kit Go.Joins
set_option linter.unusedVariables false
variable {H : Type} {enc : TypeId × Value → H} {W : World}
set_option maxRecDepth 100000 in
/-- One that leans, opened. -/
theorem dep_cells {n : Nat} {cs : List Value} {y : DataW H × List MemPlace} (hl : cs.length = 11) (h : DataW.trod enc Tryz.prog W 0 (fun _ => true) true n 135 cs = some y) :
    ∃ (d : Dp) (p : Value), cs = d.row p ∧ RInts W p d.bl ∧ d.bl.length ≤ maxLen ∧ d.nm.size ≤ maxLen ∧ (Lit.int .i64 d.id).wf = true := by
  obtain ⟨xs, k, hk, hxy, _, hxl, hf⟩ := DataW.trod_struct Tryz.underlying135 h
  match xs, hxl, cs, hl with
  | [y0, y1, y2, y3, y4, y5, y6, y7, y8, y9, y10], _, [v0, v1, v2, v3, v4, v5, v6, v7, v8, v9, v10], _ =>
    have k3 : Tryz.prog.cellsOf 3 = 1 := by kernel_rfl
    have k4 : Tryz.prog.cellsOf 4 = 1 := by kernel_rfl
    have k9 : Tryz.prog.cellsOf 9 = 1 := by kernel_rfl
    have k70 : Tryz.prog.cellsOf 38 = 1 := by kernel_rfl
    have g0 := hf 0 _ rfl
    have g1 := hf 1 _ rfl
    have g2 := hf 2 _ rfl
    have g3 := hf 3 _ rfl
    have g4 := hf 4 _ rfl
    have g5 := hf 5 _ rfl
    have g6 := hf 6 _ rfl
    have g7 := hf 7 _ rfl
    have g8 := hf 8 _ rfl
    have g9 := hf 9 _ rfl
    have g10 := hf 10 _ rfl
    simp [k3, k4, k9, k70] at g0 g1 g2 g3 g4 g5 g6 g7 g8 g9 g10
    obtain ⟨x0, e0, -, f0⟩ := DataW.trod_int Tryz.underlying3 g0
    obtain ⟨x1, e1, -⟩ := DataW.trod_int Tryz.underlying3 g1
    obtain ⟨x2, e2, -⟩ := DataW.trod_int Tryz.underlying3 g2
    obtain ⟨x3, e3, -⟩ := DataW.trod_int Tryz.underlying3 g3
    obtain ⟨x4, e4, -⟩ := DataW.trod_int Tryz.underlying3 g4
    obtain ⟨x5, e5, -⟩ := DataW.trod_int Tryz.underlying3 g5
    obtain ⟨x6, e6, -, l6⟩ := DataW.trod_string Tryz.underlying9 g6
    obtain ⟨x7, e7, -⟩ := DataW.trod_bool Tryz.underlying4 g7
    obtain ⟨x8, e8, -⟩ := DataW.trod_bool Tryz.underlying4 g8
    obtain ⟨x9, e9, -⟩ := DataW.trod_int Tryz.underlying3 g9
    obtain ⟨bl, hbl, lbl⟩ := ints_open g10
    simp at e0 e1 e2 e3 e4 e5 e6 e7 e8 e9
    exact ⟨⟨x0, x1, x2, x3, x4, x5, x6, x7, x8, x9, bl⟩, v10, by rw [e0, e1, e2, e3, e4, e5, e6, e7, e8, e9]; rfl, hbl, lbl, l6, f0⟩
theorem deps_open {n : Nat} {c : Value} {y : DataW H × List MemPlace} (h : DataW.trod enc Tryz.prog W 0 (fun _ => true) true n 29 [c] = some y) :
    ∃ xs : List Dp, RN KDep W c xs ∧ xs.length ≤ maxLen ∧ ∀ (j : Nat) (h : j < xs.length), xs[j].bl.length ≤ maxLen ∧ xs[j].nm.size ≤ maxLen ∧ (Lit.int .i64 xs[j].id).wf = true := by
  have ce : Tryz.prog.cellsOf 135 = 11 := by kernel_rfl
  haveI : Inhabited Dp := ⟨⟨0, 0, 0, 0, 0, 0, ⟨#[]⟩, false, false, 0, []⟩⟩
  rcases Go.Deep.open_slice Tryz.underlying29 h with ⟨hcs, _⟩ | ⟨a, len, cap, m, n, D, Pl, hcs, hb, hl, hm, hmm, _, hx⟩
  · simp at hcs
    subst hcs
    exact ⟨[], ⟨none, 0, rfl, Nat.le_refl _, fun j hj => by simp at hj⟩, by simp, fun j hj => by simp at hj⟩
  · simp at hcs
    subst hcs
    have hlm : len ≤ m := by simp at hmm; omega
    have key : ∀ i, i < len → ∃ q : Row × Dp, (∀ k, k < 11 → W.cell? (a.add (i * 11 + k)) = q.1[k]?) ∧ KDep.R W q.1 q.2 ∧ q.2.bl.length ≤ maxLen ∧ q.2.nm.size ≤ maxLen ∧ (Lit.int .i64 q.2.id).wf = true := by
      intro i hi
      obtain ⟨cs', h1, h2⟩ := hx i (by omega)
      rw [ce] at h1
      obtain ⟨_, hlen, hcell⟩ := World.cells?_some h1
      obtain ⟨d, p, e, hr, l1, l2, l3⟩ := dep_cells hlen h2
      refine ⟨(cs', d), fun k hk => ?_, ⟨p, e, hr⟩, l1, l2, l3⟩
      have e0 := hcell k (by omega)
      rw [Go.Deep.add_add] at e0
      rw [e0]
    obtain ⟨q, hq⟩ := Go.Deep.choose_lt key
    obtain ⟨b, off, spot⟩ := a
    have ha : spot = none → ∀ k, (⟨b, off, spot⟩ : Addr).add k = ⟨b, off + k, none⟩ := fun e k => by subst e; cases k <;> simp [Addr.add]
    refine ⟨(List.range len).map fun i => (q i).2, ⟨some ⟨b, off, spot⟩, cap, by simp, by simpa using hl, fun j hj => ?_⟩, by simp; omega, fun j hj => ?_⟩
    · have hj' : j < len := by simpa using hj
      obtain ⟨hc, hR, -, -⟩ := hq j hj'
      have h0 := hc 0 (by decide)
      obtain ⟨p, ep, hr⟩ := hR
      have hspot : spot = none := by
        obtain ⟨hc0, ⟨p0, ep0, -⟩, -, -⟩ := hq 0 (by omega)
        have h1 := hc0 0 (by decide)
        rw [ep0] at h1
        have h2 : W.cell? ((⟨b, off, spot⟩ : Addr).add (0 * 11 + 0)) = some (.int .i64 (q 0).2.id) := h1
        have := World.cell?_spot h2
        simpa [Addr.add] using this
      have h00 : W.cell? ⟨b, off + (j * 11 + 0), none⟩ = some (.int .i64 (q j).2.id) := by rw [← ha hspot, h0, ep]; rfl
      refine ⟨b, off, (q j).1, by rw [hspot], block_lt_of_cell h00, fun i hi => ?_, ?_⟩
      · rw [Nat.add_assoc, ← ha hspot]
        exact hc i hi
      · simp only [List.getElem_map, List.getElem_range]
        exact ⟨p, ep, hr⟩
    · have hj' : j < len := by simpa using hj
      simpa using (hq j hj').2.2
set_option maxRecDepth 100000 in
/-- A memory, opened. -/
theorem mem_open {r : Reach} {b0 : Nat} {v : Value} {d : DataW H} {p : List MemPlace} (hv : Value.okWide Tryz.prog W r b0 31 v) (h : DataW.Trod enc Tryz.prog W 0 (fun _ => true) true 31 v d p) :
    ∃ (u v' iv bv dv pv : Value) (m : MD), v = .agg #[u, v', iv, bv, dv, pv, .int .i64 m.nx] ∧ MR W u v' iv bv dv pv m ∧ BigM maxLen m ∧ (∀ (j : Nat) (h : j < m.ds.length), (Lit.int .i64 m.ds[j].id).wf = true) ∧ (Lit.int .i64 m.nx).wf = true := by
  obtain ⟨cs, rfl, hsz⟩ := okWide_struct Tryz.underlying31 hv
  have hC : Tryz.prog.cellsOf 31 = 7 := by kernel_rfl
  rw [hC] at hsz
  obtain ⟨l, hl⟩ : ∃ l, cs = List.toArray l := ⟨cs.toList, rfl⟩
  subst hl
  match l, hsz with
  | [c0, c1, c2, c3, c4, c5, c6], _ =>
    obtain ⟨fuel, hf⟩ := h
    obtain ⟨xs, k, hk, hxy, _, hxl, hg⟩ := DataW.trod_struct Tryz.underlying31 hf
    match xs, hxl with
    | [y0, y1, y2, y3], _ =>
      have k28 : Tryz.prog.cellsOf 28 = 4 := by kernel_rfl
      have k22 : Tryz.prog.cellsOf 22 = 1 := by kernel_rfl
      have k45 : Tryz.prog.cellsOf 29 = 1 := by kernel_rfl
      have k3 : Tryz.prog.cellsOf 3 = 1 := by kernel_rfl
      have g0 := hg 0 _ rfl
      have g1 := hg 1 _ rfl
      have g2 := hg 2 _ rfl
      have g3 := hg 3 _ rfl
      simp [Value.cells, k28, k22, k45, k3] at g0 g1 g2 g3
      obtain ⟨z0, z1, z2, n, hx, _, h0, h1, h2⟩ := Go.Deep.trod_struct3 Tryz.underlying28 g0
      have q0 : Tryz.prog.cellsOf 24 = 2 := by kernel_rfl
      have q1 : Tryz.prog.cellsOf 25 = 1 := by kernel_rfl
      have q2 : Tryz.prog.cellsOf 26 = 1 := by kernel_rfl
      simp [q0, q1, q2] at h0 h1 h2
      obtain ⟨t0, t1, mm, hz, _, s0, s1⟩ := trod_struct2 Tryz.underlying24 h0
      simp [k22] at s0 s1
      obtain ⟨xl, hx1, hx2⟩ := flags_open s0
      obtain ⟨yl, hy1, hy2⟩ := flags_open s1
      obtain ⟨il, hi1, hi2, hi3⟩ := inos_open h1
      obtain ⟨bl, hb1, hb2, hb3⟩ := blks_open h2
      obtain ⟨fl, hf1, hf2⟩ := flags_open g1
      obtain ⟨dl, hd1, hd2, hd3⟩ := deps_open g2
      obtain ⟨nx, e3, -, fx⟩ := DataW.trod_int Tryz.underlying3 g3
      simp at e3
      exact ⟨c0, c1, c2, c3, c4, c5, ⟨xl, yl, il, bl, fl, dl, nx⟩, by rw [e3], ⟨⟨hx1, hy1, hi1, hb1⟩, hf1, hd1⟩, ⟨⟨hx2, hy2, hi2, hi3, hb2, hb3⟩, hf2, hd2, fun j hj => (hd3 j hj).1, fun j hj => (hd3 j hj).2.1⟩, fun j hj => (hd3 j hj).2.2, fx⟩
end Go.Proofs.YtmjhgfkplolelaaGreat.open_
/- append of a whole list to none: a copy in memory of its own. No Go function is spoken of. -/
namespace Go.Proofs.YtmjhgfkplolelaaGreat.Kit
open Go.RowKit
/-- The slice value v of n members reads as the cells cs. -/
def RC (w : World) (v : Value) (n : Nat) (cs : List Value) : Prop := ∃ a cap, v = .slice a n cap ∧ ∀ (j : Nat) (u : Value), cs[j]? = some u → ∃ g off, a = some ⟨g, off, none⟩ ∧ w.cell? ⟨g, off + j, none⟩ = some u
theorem run_append_copy {P : Program} (w : World) (t ty : TypeId) (base : Nat) (e : TypeId) (ht : P.underlying t = some (.slice e)) (z : Value) (m bytes : Nat)
    (hi : (P.info? e).map (fun i => (i.zero, i.size, i.bytes)) = some (some z, m, bytes)) (hzc : z.cells.size = m) (hm0 : 0 < m) (hby : bytes ≤ 640) (v : Value) (hown : w.ownsRow base e m v 0 [])
    (hbase : base ≤ w.heap.size) (x : Value) (n : Nat) (cs : List Value) (hx : RC w x n cs) (hcl : cs.length = n * m) (h1 : ∀ u ∈ cs, u.oneCell' = true) (hl : n ≤ 100000000000) :
    ∃ v' w', (Builtin.append_ #[t, t] ty #[v, x]).run P w = .ok v' w' ∧ w'.ownsRow base e m v' n cs ∧ w.grownBy w' v.ownBlock ∧ (v'.ownBlock = v.ownBlock ∨ v'.ownBlock = some w.heap.size) := by
  obtain ⟨i0, hi, hz0, hz1, hz2⟩ := info_parts hi
  obtain ⟨a, c, rfl, hc⟩ := hx
  cases a with
  | none =>
    have hx0 : cs = [] := by
      cases cs with
      | nil => rfl
      | cons y r => obtain ⟨_, _, h, _⟩ := hc 0 y (by simp); cases h
    subst hx0
    have hn : n = 0 := by
      rcases Nat.eq_zero_or_pos n with h | h
      · exact h
      · have := Nat.mul_pos h hm0; simp at hcl; omega
    subst hn
    obtain ⟨av, cv, rfl⟩ : ∃ av cv, v = .slice av 0 cv := by
      rcases hown.2 with ⟨h1, h0⟩ | ⟨g, cap, cur, h1, -, -, h4, -⟩
      · exact ⟨_, _, h1⟩
      · exact ⟨_, _, h1⟩
    have hr := run_append_nothing (P := P) w t t ty e i0 ht hi av 0 cv (Nat.zero_le _) (.slice none 0 c) (Src.ofNil w ht c)
    exact ⟨_, w, hr, hown, grownBy_below (Below.refl _ _) _, .inl rfl⟩
  | some ad =>
    have h63 : (0 + n) * bytes ≤ 100000000000 * 640 := Nat.mul_le_mul (by omega) hby
    obtain ⟨v', w', hr, h2, h3, _, h5⟩ := run_append_own_at (P := P) w base t ty e i0 z m bytes ht hi hz0 hz1 hz2 hzc hm0 v 0 [] hown ad n c cs hcl
      (fun j u hj => by
        obtain ⟨g, off, e1, h4⟩ := hc j u hj
        cases e1
        have ha : (⟨g, off, none⟩ : Addr).add j = ⟨g, off + j, none⟩ := by cases j <;> simp [Addr.add]
        rw [ha, h4]) h1 (by unfold maxLen; omega) (by omega) hbase
    refine ⟨v', w', hr, ?_, h3, h5⟩
    rw [Nat.zero_add, List.nil_append] at h2
    exact h2
theorem wp_append_copy {P : Program} (w : World) {o : Oper} {a : Act} {K : Act → World → Prop} {Q : Exit → Act → World → Prop} (s x : Operand) (t : TypeId)
    (ho : o.op = .call { callee := .builtin .append, args := #[s, x], argTypes := #[t, t] }) (base : Nat) (e : TypeId) (ht : P.underlying t = some (.slice e)) (z : Value) (m bytes : Nat)
    (hi : (P.info? e).map (fun i => (i.zero, i.size, i.bytes)) = some (some z, m, bytes)) (hzc : z.cells.size = m) (hm0 : 0 < m) (hby : bytes ≤ 640) (v : Value) (hs : a.eval s = v) (hown : w.ownsRow base e m v 0 [])
    (hbase : base ≤ w.heap.size) (u : Value) (hu : a.eval x = u) (n : Nat) (cs : List Value) (hx : RC w u n cs) (hcl : cs.length = n * m) (h1 : ∀ u ∈ cs, u.oneCell' = true) (hl : n ≤ 100000000000)
    (h : ∀ v' w', w'.ownsRow base e m v' n cs → w.grownBy w' v.ownBlock → (v'.ownBlock = v.ownBlock ∨ v'.ownBlock = some w.heap.size) → K (a.put o.dst v') w') : o.wp P a w K Q := by
  obtain ⟨v', w', hr, h2, h3, h4⟩ := run_append_copy (P := P) w t o.type base e ht z m bytes hi hzc hm0 hby v hown hbase u n cs hx hcl h1 hl
  unfold Oper.wp execOp
  simp only [ho, resolve, invoke, builtin, Sem.run_bind, Sem.run_pure, Result.andThen_ok, List.map_toArray, List.map_cons, List.map_nil, hs, hu, hr]
  exact h v' w' h2 h3 h4
theorem wpList_append_copy {P : Program} (w : World) {ops : Array Oper} {rest : List Oper} {o : Oper} {a : Act} {Q : Exit → Act → World → Prop} (hgd : o.guard = none) (s x : Operand) (t : TypeId)
    (ho : o.op = .call { callee := .builtin .append, args := #[s, x], argTypes := #[t, t] }) (base : Nat) (e : TypeId) (ht : P.underlying t = some (.slice e)) (z : Value) (m bytes : Nat)
    (hi : (P.info? e).map (fun i => (i.zero, i.size, i.bytes)) = some (some z, m, bytes)) (hzc : z.cells.size = m) (hm0 : 0 < m) (hby : bytes ≤ 640) (v : Value) (hs : a.eval s = v) (hown : w.ownsRow base e m v 0 [])
    (hbase : base ≤ w.heap.size) (u : Value) (hu : a.eval x = u) (n : Nat) (cs : List Value) (hx : RC w u n cs) (hcl : cs.length = n * m) (h1 : ∀ u ∈ cs, u.oneCell' = true) (hl : n ≤ 100000000000)
    (h : ∀ v' w', w'.ownsRow base e m v' n cs → w.grownBy w' v.ownBlock → (v'.ownBlock = v.ownBlock ∨ v'.ownBlock = some w.heap.size) → wpList P ops Q rest (a.put o.dst v') w') : wpList P ops Q (o :: rest) a w :=
  wpList_plain hgd fun _ hK => wp_append_copy w s x t ho base e ht z m bytes hi hzc hm0 hby v hs hown hbase u hu n cs hx hcl h1 hl fun v' w' a b c => hK _ _ (h v' w' a b c)
theorem step_append_copy {P : Program} (w : World) {ops : Array Oper} {o : Oper} {a : Act} {K : Act → World → Prop} {Q : Exit → Act → World → Prop} {E : Prop} (hgd : o.guard = none) (s x : Operand) (t : TypeId)
    (ho : o.op = .call { callee := .builtin .append, args := #[s, x], argTypes := #[t, t] }) (base : Nat) (e : TypeId) (ht : P.underlying t = some (.slice e)) (z : Value) (m bytes : Nat)
    (hi : (P.info? e).map (fun i => (i.zero, i.size, i.bytes)) = some (some z, m, bytes)) (hzc : z.cells.size = m) (hm0 : 0 < m) (hby : bytes ≤ 640) (v : Value) (hs : a.eval s = v) (hown : w.ownsRow base e m v 0 [])
    (hbase : base ≤ w.heap.size) (u : Value) (hu : a.eval x = u) (n : Nat) (cs : List Value) (hx : RC w u n cs) (hcl : cs.length = n * m) (h1 : ∀ u ∈ cs, u.oneCell' = true) (hl : n ≤ 100000000000)
    (h : ∀ v' w', w'.ownsRow base e m v' n cs → w.grownBy w' v.ownBlock → (v'.ownBlock = v.ownBlock ∨ v'.ownBlock = some w.heap.size) → K (a.put o.dst v') w') :
    if Region.wanted o (yielded ops a.tmps) = true then Oper.wp P o a w K Q else E := by
  rw [if_pos (by simp [Region.wanted, hgd])]
  exact wp_append_copy w s x t ho base e ht z m bytes hi hzc hm0 hby v hs hown hbase u hu n cs hx hcl h1 hl h
/-- To a list without any room nothing is written: only new blocks come. -/
theorem run_append_copy0 {P : Program} (w : World) (t ty : TypeId) (base : Nat) (e : TypeId) (ht : P.underlying t = some (.slice e)) (z : Value) (m bytes : Nat)
    (hi : (P.info? e).map (fun i => (i.zero, i.size, i.bytes)) = some (some z, m, bytes)) (hzc : z.cells.size = m) (hm0 : 0 < m) (hby : bytes ≤ 640) (ao : Option Addr) (hown : w.ownsRow base e m (.slice ao 0 0) 0 [])
    (hbase : base ≤ w.heap.size) (x : Value) (n : Nat) (cs : List Value) (hx : RC w x n cs) (hcl : cs.length = n * m) (h1 : ∀ u ∈ cs, u.oneCell' = true) (hl : n ≤ 100000000000) :
    ∃ v' w', (Builtin.append_ #[t, t] ty #[.slice ao 0 0, x]).run P w = .ok v' w' ∧ w'.ownsRow base e m v' n cs ∧ Below w.heap.size w w' ∧ (v'.ownBlock = (Value.slice ao 0 0).ownBlock ∨ v'.ownBlock = some w.heap.size) := by
  obtain ⟨v', w', hr, h2, h3, h4⟩ := run_append_copy (P := P) w t ty base e ht z m bytes hi hzc hm0 hby _ hown hbase x n cs hx hcl h1 hl
  refine ⟨v', w', hr, h2, ?_, h4⟩
  obtain ⟨i0, hi0, hz0, hz1, hz2⟩ := info_parts hi
  obtain ⟨a, c, rfl, hc⟩ := hx
  have same : w' = w → Below w.heap.size w w' := fun e => e ▸ Below.refl _ _
  cases a with
  | none =>
    have hx0 : cs = [] := by
      cases cs with
      | nil => rfl
      | cons y r => obtain ⟨_, _, h, _⟩ := hc 0 y (by simp); cases h
    subst hx0
    have hn : n = 0 := by
      rcases Nat.eq_zero_or_pos n with h | h
      · exact h
      · have := Nat.mul_pos h hm0; simp at hcl; omega
    subst hn
    have hr2 := run_append_nothing (P := P) w t t ty e i0 ht hi0 ao 0 0 (Nat.zero_le _) (.slice none 0 c) (Src.ofNil w ht c)
    rw [hr2] at hr
    simp only [Result.ok.injEq] at hr
    exact same hr.2.symm
  | some ad =>
    have hnews : ∀ j u, cs[j]? = some u → w.cell? (ad.add j) = some u := fun j u hj => by
      obtain ⟨g, off, e1, h4⟩ := hc j u hj
      cases e1
      have ha : (⟨g, off, none⟩ : Addr).add j = ⟨g, off + j, none⟩ := by cases j <;> simp [Addr.add]
      rw [ha, h4]
    subst hz1
    by_cases hn : n = 0
    · subst hn
      have hx0 : cs = [] := List.eq_nil_of_length_eq_zero (by simpa using hcl)
      subst hx0
      have hs : Src P i0.size t (.slice (some ad) 0 c) 0 [] w := Src.ofSlice w ht ad 0 c [] (by simp) (by simp) (by simp)
      have hr2 := run_append_nothing (P := P) w t t ty e i0 ht hi0 ao 0 0 (Nat.zero_le _) (.slice (some ad) 0 c) hs
      rw [hr2] at hr
      simp only [Result.ok.injEq] at hr
      exact same hr.2.symm
    · have hs : Src P i0.size t (.slice (some ad) n c) n cs w := Src.ofSlice w ht ad n c cs hcl hnews h1
      have h63 : (0 + n) * i0.bytes ≤ 100000000000 * 640 := Nat.mul_le_mul (by omega) (by rw [hz2]; exact hby)
      have hr2 := run_append_grow_src (P := P) w t t ty e i0 z ht hi0 hz0 ao 0 0 [] (by cases ao <;> simp [Builtin.firstCells, loadCells, loadCellsFrom]) (.slice (some ad) n c) n cs hs (by omega) (by omega) (growslice_fits (by omega) (by omega))
      rw [hr2] at hr
      simp only [Result.ok.injEq] at hr
      rw [← hr.2]
      exact (Below.refl _ w).drew.alloc (Nat.le_refl _) _
theorem wp_append_copy0 {P : Program} (w : World) {o : Oper} {a : Act} {K : Act → World → Prop} {Q : Exit → Act → World → Prop} (s x : Operand) (t : TypeId)
    (ho : o.op = .call { callee := .builtin .append, args := #[s, x], argTypes := #[t, t] }) (base : Nat) (e : TypeId) (ht : P.underlying t = some (.slice e)) (z : Value) (m bytes : Nat)
    (hi : (P.info? e).map (fun i => (i.zero, i.size, i.bytes)) = some (some z, m, bytes)) (hzc : z.cells.size = m) (hm0 : 0 < m) (hby : bytes ≤ 640) (ao : Option Addr) (hs : a.eval s = .slice ao 0 0) (hown : w.ownsRow base e m (.slice ao 0 0) 0 [])
    (hbase : base ≤ w.heap.size) (u : Value) (hu : a.eval x = u) (n : Nat) (cs : List Value) (hx : RC w u n cs) (hcl : cs.length = n * m) (h1 : ∀ u ∈ cs, u.oneCell' = true) (hl : n ≤ 100000000000)
    (h : ∀ v' w', w'.ownsRow base e m v' n cs → Below w.heap.size w w' → (v'.ownBlock = (Value.slice ao 0 0).ownBlock ∨ v'.ownBlock = some w.heap.size) → K (a.put o.dst v') w') : o.wp P a w K Q := by
  obtain ⟨v', w', hr, h2, h3, h4⟩ := run_append_copy0 (P := P) w t o.type base e ht z m bytes hi hzc hm0 hby ao hown hbase u n cs hx hcl h1 hl
  unfold Oper.wp execOp
  simp only [ho, resolve, invoke, builtin, Sem.run_bind, Sem.run_pure, Result.andThen_ok, List.map_toArray, List.map_cons, List.map_nil, hs, hu, hr]
  exact h v' w' h2 h3 h4
theorem step_append_copy0 {P : Program} (w : World) {ops : Array Oper} {o : Oper} {a : Act} {K : Act → World → Prop} {Q : Exit → Act → World → Prop} {E : Prop} (hgd : o.guard = none) (s x : Operand) (t : TypeId)
    (ho : o.op = .call { callee := .builtin .append, args := #[s, x], argTypes := #[t, t] }) (base : Nat) (e : TypeId) (ht : P.underlying t = some (.slice e)) (z : Value) (m bytes : Nat)
    (hi : (P.info? e).map (fun i => (i.zero, i.size, i.bytes)) = some (some z, m, bytes)) (hzc : z.cells.size = m) (hm0 : 0 < m) (hby : bytes ≤ 640) (ao : Option Addr) (hs : a.eval s = .slice ao 0 0) (hown : w.ownsRow base e m (.slice ao 0 0) 0 [])
    (hbase : base ≤ w.heap.size) (u : Value) (hu : a.eval x = u) (n : Nat) (cs : List Value) (hx : RC w u n cs) (hcl : cs.length = n * m) (h1 : ∀ u ∈ cs, u.oneCell' = true) (hl : n ≤ 100000000000)
    (h : ∀ v' w', w'.ownsRow base e m v' n cs → Below w.heap.size w w' → (v'.ownBlock = (Value.slice ao 0 0).ownBlock ∨ v'.ownBlock = some w.heap.size) → K (a.put o.dst v') w') :
    if Region.wanted o (yielded ops a.tmps) = true then Oper.wp P o a w K Q else E := by
  rw [if_pos (by simp [Region.wanted, hgd])]
  exact wp_append_copy0 w s x t ho base e ht z m bytes hi hzc hm0 hby ao hs hown hbase u hu n cs hx hcl h1 hl h
theorem RFl.rc {w : World} {v : Value} {xs : List Bool} (h : RFl w v xs) : RC w v xs.length (fc xs) := by
  obtain ⟨a, c, rfl, h⟩ := h
  refine ⟨a, c, rfl, fun j u hj => ?_⟩
  have hl : j < xs.length := by have := (List.getElem?_eq_some_iff.1 hj).1; rwa [fc_length] at this
  obtain ⟨g, off, e1, -, e2⟩ := h j hl
  have : u = .bool xs[j] := by simp [fc, hl] at hj; exact hj.symm
  exact ⟨g, off, e1, by rw [e2, this]⟩
theorem RInts.rc {w : World} {v : Value} {xs : List Int} (h : RInts w v xs) : RC w v xs.length (ic xs) := by
  obtain ⟨a, c, rfl, h⟩ := h
  refine ⟨a, c, rfl, fun j u hj => ?_⟩
  have hl : j < xs.length := by have := (List.getElem?_eq_some_iff.1 hj).1; rwa [ic_length] at this
  obtain ⟨g, off, e1, -, e2⟩ := h j hl
  have : u = .int .i64 xs[j] := by simp [ic, hl] at hj; exact hj.symm
  exact ⟨g, off, e1, by rw [e2, this]⟩
theorem RSl.rc {w : World} {v : Value} {xs : List Sl} (h : RSl w v xs) : RC w v xs.length (sc xs) := by
  obtain ⟨a, c, rfl, -, h⟩ := h
  refine ⟨a, c, rfl, fun j u hj => ?_⟩
  have hl : j < xs.length * 2 := by have := (List.getElem?_eq_some_iff.1 hj).1; rwa [sc_length] at this
  obtain ⟨q, hq⟩ : ∃ q, q = j / 2 := ⟨_, rfl⟩
  have hql : q < xs.length := by omega
  obtain ⟨g, off, e1, -, e2, e3⟩ := h q hql
  have hm : j % 2 = 0 ∨ j % 2 = 1 := by omega
  rcases hm with hm | hm
  · have hj2 : j = q * 2 := by omega
    rw [hj2, sc_name xs q hql] at hj
    exact ⟨g, off, e1, by rw [hj2, e2]; exact hj⟩
  · have hj2 : j = q * 2 + 1 := by omega
    rw [hj2, sc_ino xs q hql] at hj
    exact ⟨g, off, e1, by rw [hj2, ← Nat.add_assoc, e3]; exact hj⟩
theorem fc_one (xs : List Bool) : ∀ u ∈ fc xs, u.oneCell' = true := fun u hu => by simp only [fc, List.mem_map] at hu; obtain ⟨_, -, rfl⟩ := hu; rfl
theorem ic_one (xs : List Int) : ∀ u ∈ ic xs, u.oneCell' = true := fun u hu => by simp only [ic, List.mem_map] at hu; obtain ⟨_, -, rfl⟩ := hu; rfl
theorem sc_one (xs : List Sl) : ∀ u ∈ sc xs, u.oneCell' = true := by
  induction xs with
  | nil => intro u hu; cases hu
  | cons s r ih =>
    intro u hu
    simp only [sc, List.mem_cons] at hu
    rcases hu with rfl | rfl | hu
    · rfl
    · rfl
    · exact ih u hu
/-- Behind an append to what is new only new blocks have turned. -/
theorem below_of_append {B : Nat} {w0 w w' : World} {v : Value} (hb : Below B w0 w) (hB : B ≤ w.heap.size) (hg : w.grownBy w' v.ownBlock) (hv : ∀ k, v.ownBlock = some k → B ≤ k) : Below B w0 w' := hb.grown hg hB hv
end Go.Proofs.YtmjhgfkplolelaaGreat.Kit
