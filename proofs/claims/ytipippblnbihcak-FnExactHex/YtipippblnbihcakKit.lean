/- Plain facts on the bytes of a number (base 128, the lowest first) and on a byte slice that a call owns; no Go function is spoken of. -/
import Derived.WalkKit
import Derived.Laws.IdiomStrings
namespace Go.Proofs.Ytipippblnbihcak.Kit
open Go.RowKit

/-- Put a fact out of the walk's sight. -/
theorem hide {p : Prop} (h : p) : Hid p := h

/-- A byte as a cell. -/
def bc (l : List UInt8) : List Value := l.map fun b => Value.int .u8 (b.toNat : Int)

theorem bc_append (a b : List UInt8) : bc (a ++ b) = bc a ++ bc b := by simp [bc]
theorem bc_length (a : List UInt8) : (bc a).length = a.length := by simp [bc]
theorem bc_one (b : UInt8) : bc [b] = [Value.int .u8 (b.toNat : Int)] := rfl

/-- The slice value v owns the bytes l (element type e), in blocks from 'base' on. -/
def Owns (w : World) (base : Nat) (e : TypeId) (v : Value) (l : List UInt8) : Prop := w.ownsRow base e 1 v l.length (bc l)

theorem Owns.alloc {w : World} {base : Nat} {e : TypeId} {v : Value} {l : List UInt8} (h : Owns w base e v l) (o : Obj) : Owns (w.alloc o) base e v l := World.ownsRow.alloc h o
theorem Owns.drew {w : World} {base : Nat} {e : TypeId} {v : Value} {l : List UInt8} (h : Owns w base e v l) : Owns w.drew base e v l := World.ownsRow.drew h
theorem Owns.nil (w : World) (base : Nat) (e : TypeId) : Owns w base e (.slice none 0 0) [] := World.ownsRow_nil _ _ _ _
theorem Owns.lit0 (w : World) (base : Nat) (e : TypeId) (hb : base ≤ w.heap.size) : Owns (w.alloc (.cells #[] e)) base e (.slice (some ⟨w.heap.size, 0, none⟩) 0 0) [] :=
  World.ownsRow_lit w #[] 0 hb (Nat.zero_le _) rfl

/-- 'string(b)' of a slice that owns the bytes l. -/
theorem conv_own {P : Program} {w : World} {base : Nat} {v : Value} {l : List UInt8} (src dst e : TypeId) (hs : P.underlying src = some (.slice e)) (he : P.underlying e = some (.int .u8)) (hd : P.underlying dst = some .string)
    (hown : Owns w base e v l) : (convert src dst v).run P w = .ok (.string ⟨l.toArray⟩) w := by
  unfold Owns at hown
  rcases hown.2 with ⟨rfl, h0⟩ | ⟨g, cap, cur, rfl, _, hg, hnc, hcm, hcs, htake⟩
  · have : l = [] := List.length_eq_zero_iff.1 h0
    subst this
    rw [run_convert_bytes_string w src dst e none 0 0 hs he hd]
    simp [Conv.bytesToString]
    rfl
  · refine run_convert_bytes_back w src dst e ⟨g, 0, none⟩ cap l hs he hd ?_
    intro j hj
    have hc : w.cell? ⟨g, j, none⟩ = (bc l)[j]? := hown.cellAt j (by omega)
    have ha : (⟨g, 0, none⟩ : Addr).add j = ⟨g, j, none⟩ := by cases j <;> simp [Addr.add]
    rw [ha, hc]
    simp [bc, hj]

/-- 'out = append(out, b)' of one byte, out a slice that the call owns: what it owns behind it, and that nothing below 'base' has turned. -/
theorem wpList_append_byte {P : Program} {w : World} {ops : Array Oper} {rest : List Oper} {o : Oper} {a : Act} {Q : Exit → Act → World → Prop} (w0 : World) (hgd : o.guard = none) (s x : Operand) (t : TypeId)
    (ho : o.op = .call { callee := .builtin .append, args := #[s, x], argTypes := #[t, t] }) (base : Nat) (e : TypeId) (ht : P.underlying t = some (.slice e))
    (hi : (P.info? e).map (fun i => (i.zero, i.size, i.bytes)) = some (some (.int .u8 0), 1, 1)) (v : Value) (pre : List UInt8) (hs : a.eval s = v) (hown : Owns w base e v pre)
    (hb : Below base w0 w) (hbase : base ≤ w.heap.size) (g : Nat) (hx : a.eval x = .slice (some ⟨g, 0, none⟩) 1 1) (b : UInt8) (z : Int) (hz : z = (b.toNat : Int)) (hc : w.cell? ⟨g, 0, none⟩ = some (.int .u8 z)) (hl : pre.length ≤ 1000000000000)
    (h : ∀ v' w', Owns w' base e v' (pre ++ [b]) → Below base w0 w' → w.grownBy w' v.ownBlock → wpList P ops Q rest (a.put o.dst v') w') : wpList P ops Q (o :: rest) a w := by
  obtain ⟨i0, hi, hz0, hz1, hz2⟩ := info_parts hi
  unfold Owns at hown
  refine wpList_append_own w hgd s x t ho base e i0 (.int .u8 0) 1 1 ht hi hz0 hz1 hz2 rfl (by decide) v pre.length (bc pre) hs hown ⟨g, 0, none⟩ 1 1 [.int .u8 z] hx rfl ?_ ?_ ?_ ?_ hbase ?_
  · intro j u hj
    match j, hj with
    | 0, hj => simp at hj; subst hj; simpa [Addr.add] using hc
  · intro u hu; simp at hu; subst hu; rfl
  · unfold maxLen; omega
  · omega
  · intro v' w' hown' hgrow _
    refine h v' w' ?_ (hb.grown hgrow hbase fun k hk => (hown.lt k hk).1) hgrow
    unfold Owns
    rw [bc_append, bc_one, ← hz]
    simpa using hown'

/-- The byte that goes on: the lowest seven bits, and 128. -/
def hiB (m : Nat) : UInt8 := UInt8.ofNat (m % 128 + 128)
/-- The last byte. -/
def loB (m : Nat) : UInt8 := UInt8.ofNat m

/-- The bytes of a number, with fuel. -/
def vbF : Nat → Nat → List UInt8
  | 0, n => [loB n]
  | f + 1, n => if 127 < n then hiB n :: vbF f (n / 128) else [loB n]

/-- The bytes of a number (below 2^63). -/
def vb (n : Nat) : List UInt8 := vbF 9 n

theorem vbF_big (f n : Nat) (h : 127 < n) : vbF (f + 1) n = hiB n :: vbF f (n / 128) := by simp [vbF, h]
theorem vbF_small (f n : Nat) (h : n ≤ 127) : vbF f n = [loB n] := by
  cases f with
  | zero => rfl
  | succ f => simp [vbF]; omega
theorem vbF_len (f n : Nat) : (vbF f n).length ≤ f + 1 := by
  induction f generalizing n with
  | zero => simp [vbF]
  | succ f ih => 
    unfold vbF
    split
    · have := ih (n / 128); simp; omega
    · simp
end Go.Proofs.Ytipippblnbihcak.Kit
