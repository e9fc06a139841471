
/- The bytes of a block: the model; a text appended to bytes that a call owns. -/
import Derived.Test.YtajollmmpdkhbaaCom
import Derived.Test.YtajollmmpdkhbaaKOkS
import Derived.Test.YtajollmmpdkhbaaKMarks
import Derived.Lib.AppendStr
namespace Go.Proofs.Ytajollmmpdkhbaa.Kit
open Go.RowKit
theorem strCells_bc (s : ByteArray) : Go.Lib.strCells s = bc s.data.toList := by simp [Go.Lib.strCells, bc]
/-- 'out = append(out, s...)' of a text, out a slice that the call owns. -/
theorem wpList_append_str {P : Program} {w : World} {ops : Array Oper} {rest : List Oper} {o : Oper} {a : Act} {Q : Exit → Act → World → Prop} (w0 : World) (hgd : o.guard = none) (s x : Operand) (t u : TypeId)
    (ho : o.op = .call { callee := .builtin .append, args := #[s, x], argTypes := #[t, u] }) (base : Nat) (e : TypeId) (ht : P.underlying t = some (.slice e)) (hu : P.underlying u = some .string)
    (hi : (P.info? e).map (fun i => (i.zero, i.size, i.bytes)) = some (some (.int .u8 0), 1, 1)) (v : Value) (pre : List UInt8) (hs : a.eval s = v) (hown : Owns w base e v pre)
    (hb : Below base w0 w) (hbase : base ≤ w.heap.size) (str : ByteArray) (hx : a.eval x = .string str) (hl : pre.length + str.size ≤ 1000000000000)
    (h : ∀ v' w', Owns w' base e v' (pre ++ str.data.toList) → Below base w0 w' → wpList P ops Q rest (a.put o.dst v') w') : wpList P ops Q (o :: rest) a w := by
  obtain ⟨i0, hi, hz0, hz1, hz2⟩ := info_parts hi
  unfold Owns at hown
  refine Go.Lib.wpList_append_own_string w hgd s x t u ho base e i0 ht hu hi hz0 hz1 hz2 v pre.length (bc pre) hs hown str hx ?_ ?_ hbase ?_
  · unfold maxLen; omega
  · omega
  · intro v' w' hown' hgrow _
    refine h v' w' ?_ (hb.grown hgrow hbase fun k hk => (hown.lt k hk).1)
    unfold Owns
    rw [bc_append, List.length_append, ← strCells_bc]
    exact hown'
/-- The bytes of a slot. -/
def enc (s : Sl) : List UInt8 := loB s.2.toNat :: (vb s.1.size ++ s.1.data.toList)
/-- The bytes of slots. -/
def encs : List Sl → List UInt8
  | [] => []
  | s :: r => enc s ++ encs r
theorem encs_append (a b : List Sl) : encs (a ++ b) = encs a ++ encs b := by
  induction a with
  | nil => rfl
  | cons s r ih => simp [encs, ih]
/-- The bytes of a directory's first slots. -/
def pre (xs : List Sl) (j : Nat) : List UInt8 := 100 :: encs (xs.take j)
theorem pre_zero (xs : List Sl) : pre xs 0 = [100] := rfl
theorem pre_next (xs : List Sl) (j : Nat) (h : j < xs.length) : pre xs (j + 1) = (pre xs j ++ [loB xs[j].2.toNat]) ++ (vb xs[j].1.size ++ xs[j].1.data.toList) := by
  unfold pre
  rw [List.take_succ_eq_append_getElem h, encs_append]
  simp [encs, enc]
theorem pre_all (xs : List Sl) (j : Nat) (h : xs.length ≤ j) : pre xs j = 100 :: encs xs := by
  unfold pre
  rw [List.take_of_length_le h]
/-- The bytes of a block. -/
def blockB (d : Bool) (xs : List Sl) (t : ByteArray) : ByteArray := if blockOk d xs t then (if d then accB (100 :: encs xs) else oneB 116 ++ t) else ⟨#[]⟩
theorem slot_bounds {s : Sl} (h : slotOk s = true) : 0 ≤ s.2 ∧ s.2 ≤ 8 ∧ s.1.size ≤ 6 := by
  have h' := of_decide_eq_true h
  rcases h' with h1 | h1
  · omega
  · have := nameOk_size h1.1; omega
theorem okF_each (xs : List Sl) : ∀ (ahead : List Sl), okF ahead xs = true → ∀ s ∈ xs, slotOk s = true := by
  induction xs with
  | nil => intro _ _ s hs; simp at hs
  | cons x r ih =>
    intro ahead h s hs
    simp only [okF, Bool.and_eq_true] at h
    rcases List.mem_cons.1 hs with rfl | h1
    · exact h.1.1
    · exact ih _ h.2 s h1
theorem slots_bounds {xs : List Sl} (h : slotsOk xs = true) : xs.length = 4 ∧ ∀ (j : Nat) (hj : j < xs.length), 0 ≤ xs[j].2 ∧ xs[j].2 ≤ 8 ∧ xs[j].1.size ≤ 6 := by
  simp only [slotsOk, Bool.and_eq_true, decide_eq_true_eq] at h
  exact ⟨h.1, fun j hj => slot_bounds (okF_each xs [] h.2 _ (List.getElem_mem hj))⟩
theorem vb_size {n : Nat} (h : n ≤ 127) : (vb n).length = 1 := by rw [vb, vbF_small _ _ h]; rfl
theorem enc_length {s : Sl} (h : s.1.size ≤ 6) : (enc s).length ≤ 8 := by
  simp only [enc, List.length_cons, List.length_append, vb_size (show s.1.size ≤ 127 by omega)]
  have : s.1.data.toList.length = s.1.size := rfl
  omega
theorem encs_length (xs : List Sl) : (∀ s ∈ xs, s.1.size ≤ 6) → (encs xs).length ≤ xs.length * 8 := by
  induction xs with
  | nil => intro _; simp [encs]
  | cons x r ih =>
    intro h
    have h1 := ih (fun s hs => h s (by simp [hs]))
    have h2 := enc_length (h x (by simp))
    simp only [encs, List.length_append, List.length_cons]
    omega
theorem pre_length {xs : List Sl} (h : slotsOk xs = true) (j : Nat) : (pre xs j).length ≤ 33 := by
  obtain ⟨h4, hb⟩ := slots_bounds h
  have h1 := encs_length (xs.take j) (fun s hs => by
    obtain ⟨i, hi, rfl⟩ := List.getElem_of_mem (List.mem_of_mem_take hs)
    exact (hb i hi).2.2)
  have h2 : (xs.take j).length ≤ 4 := by simp; omega
  simp only [pre, List.length_cons]
  omega
theorem accB_append (a b : List UInt8) : accB a ++ accB b = accB (a ++ b) := by
  unfold accB
  rw [ByteArray.mk_append_mk]
theorem accB_data (s : ByteArray) : accB s.data.toList = s := by
  unfold accB
  rw [show s.data.toList.toArray = s.data from Array.toArray_toList]
theorem accB_toList (l : List UInt8) : (accB l).data.toList = l := rfl
end Go.Proofs.Ytajollmmpdkhbaa.Kit
