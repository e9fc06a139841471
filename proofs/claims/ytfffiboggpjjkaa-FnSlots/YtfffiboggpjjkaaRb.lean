/- Reading a block: the model, and what is known of it. No Go function is spoken of. -/
import Derived.Test.YtfffiboggpjjkaaTxt
namespace Go.Proofs.Ytfffiboggpjjkaa.Kit
open Go.RowKit
theorem rdF_canon (f : Nat) : ∀ (rest pre : List UInt8) (k n m c : Nat), f + k = 5 → pre.length = k → (∀ b ∈ pre, 128 ≤ b.toNat) → n = val pre → rdF f rest k n = some (m, c) → vb m = (pre ++ rest).take c ∧ c ≤ k + rest.length := by
  induction f with
  | zero => intro rest pre k n m c _ _ _ _ h; simp [rdF] at h
  | succ f ih =>
    intro rest pre k n m c hf hk hb hn h
    cases rest with
    | nil => simp [rdF] at h
    | cons b r =>
      rw [rdF] at h
      split at h
      · rename_i hge
        have := ih r (pre ++ [b]) (k + 1) _ m c (by omega) (by simp [hk]) (fun x hx => by
          rcases List.mem_append.1 hx with h1 | h1
          · exact hb x h1
          · simp at h1; subst h1; exact hge) (by rw [val_snoc, hk, hn]) h
        simp only [List.append_assoc, List.singleton_append, List.length_cons] at this ⊢
        exact ⟨this.1, by omega⟩
      · rename_i hlt
        split at h
        · cases h
        · rename_i hno
          simp only [Option.some.injEq, Prod.mk.injEq] at h
          obtain ⟨h1, h2⟩ := h
          subst h2
          have hv : n + b.toNat % 128 * 128 ^ k = val (pre ++ [b]) := by rw [val_snoc, hk, hn]
          refine ⟨?_, by simp⟩
          rw [← h1, hv, (vb_val_iff pre b (by omega) hb (by omega)).2 (by rw [hk]; omega)]
          rw [show k + 1 = pre.length + 1 by omega, List.take_append]
          simp [List.take_of_length_le]
theorem rd_canon {s : ByteArray} {p n c : Nat} (h : rd s p = some (n, c)) : vb n = (s.data.toList.drop p).take c := by
  have := (rdF_canon 5 (s.data.toList.drop p) [] 0 0 n c rfl rfl (by simp) rfl h).1
  simpa using this
theorem rd_small {s : ByteArray} {p n : Nat} {rest : List UInt8} (h : s.data.toList.drop p = loB n :: rest) (hn : n ≤ 127) : rd s p = some (n, 1) := by
  unfold rd
  have e : (loB n).toNat = n := by simp [loB, UInt8.toNat_ofNat']; omega
  rw [h, rdF, if_neg (by omega), e, if_neg (by omega)]
  have : n % 128 = n := by omega
  simp [this]
/-- A short text, and where it ends. -/
def rsO (s : ByteArray) (p : Nat) : Option (ByteArray × Nat) := match rd s p with
  | none => none
  | some (n, c) => if 20000 < n ∨ s.size - (p + c) < n then none else some (s.extract (p + c) (p + c + n), p + c + n)
theorem rsO_shape {s : ByteArray} {p : Nat} (hp : p ≤ s.size) {t : ByteArray} {q : Nat} (h : rsO s p = some (t, q)) : t.size ≤ 20000 ∧ p ≤ q ∧ q ≤ s.size ∧ vb t.size ++ t.data.toList = (s.data.toList.drop p).take (q - p) := by
  unfold rsO at h
  cases hr : rd s p with
  | none => rw [hr] at h; simp at h
  | some nc =>
    obtain ⟨n, c⟩ := nc
    rw [hr] at h
    simp only at h
    split at h
    · cases h
    · rename_i hno
      simp only [Option.some.injEq, Prod.mk.injEq] at h
      obtain ⟨rfl, rfl⟩ := h
      have hc := rd_canon hr
      have hl : s.data.toList.length = s.size := rfl
      have hcl : p + c ≤ s.size := by
        have := (rdF_canon 5 (s.data.toList.drop p) [] 0 0 n c rfl rfl (by simp) rfl hr).2
        rw [List.length_drop, hl] at this
        omega
      have hz : (s.extract (p + c) (p + c + n)).size = n := by rw [ByteArray.size_extract]; omega
      refine ⟨by rw [hz]; omega, by omega, by omega, ?_⟩
      rw [hz, extract_toList, hc, show p + c + n - p = c + n by omega, show p + c + n - (p + c) = n by omega, List.take_add, List.drop_drop]
/-- Slots one behind the other, so many; and where they end. -/
def tk (s : ByteArray) : Nat → Nat → Option (List Sl × Nat)
  | 0, p => some ([], p)
  | n + 1, p => if h : p < s.size then (match rsO s (p + 1) with
      | none => none
      | some (t, q) => (match tk s n q with
          | none => none
          | some (xs, e) => some ((t, ((s[p]).toNat : Int)) :: xs, e))) else none
theorem tk_short {s : ByteArray} {n p : Nat} (h : ¬ p < s.size) : tk s (n + 1) p = none := by rw [tk, dif_neg h]
theorem tk_none {s : ByteArray} {n p : Nat} (h : p < s.size) (hr : rsO s (p + 1) = none) : tk s (n + 1) p = none := by rw [tk, dif_pos h, hr]
theorem tk_some {s : ByteArray} {n p q : Nat} {t : ByteArray} (h : p < s.size) (hr : rsO s (p + 1) = some (t, q)) : tk s (n + 1) p = (tk s n q).map fun x => ((t, ((s[p]).toNat : Int)) :: x.1, x.2) := by
  rw [tk, dif_pos h, hr]
  dsimp only
  cases tk s n q with
  | none => rfl
  | some x => rfl
/-- What is known behind j slots: what is read in the end, and that the bytes so far are those of the slots. -/
def Upto (s : ByteArray) (j p : Nat) (ys : List Sl) : Prop :=
  ys.length = j ∧ p ≤ s.size ∧ tk s 4 1 = (tk s (4 - j) p).map (fun x => (ys ++ x.1, x.2)) ∧ s.data.toList.take p = s.data.toList.take 1 ++ encs ys ∧ (∀ y ∈ ys, y.1.size ≤ 20000)
theorem Upto.start {s : ByteArray} (h : 1 ≤ s.size) : Upto s 0 1 [] := by
  refine ⟨rfl, h, ?_, by simp [encs], by simp⟩
  cases tk s 4 1 <;> simp
theorem Upto.short {s : ByteArray} {j p : Nat} {ys : List Sl} (h : Upto s j p ys) (hj : j < 4) (hp : ¬ p < s.size) : tk s 4 1 = none := by
  obtain ⟨_, _, h3, _⟩ := h
  rw [h3, show 4 - j = (4 - (j + 1)) + 1 by omega, tk_short hp]
  rfl
theorem Upto.none {s : ByteArray} {j p : Nat} {ys : List Sl} (h : Upto s j p ys) (hj : j < 4) (hp : p < s.size) (hr : rsO s (p + 1) = .none) : tk s 4 1 = .none := by
  obtain ⟨_, _, h3, _⟩ := h
  rw [h3, show 4 - j = (4 - (j + 1)) + 1 by omega, tk_none hp hr]
  rfl
theorem Upto.next {s : ByteArray} {j p q : Nat} {t : ByteArray} {ys : List Sl} (h : Upto s j p ys) (hj : j < 4) (hp : p < s.size) (hr : rsO s (p + 1) = some (t, q)) : Upto s (j + 1) q (ys ++ [(t, ((s[p]).toNat : Int))]) := by
  obtain ⟨h1, h2, h3, h4, h5⟩ := h
  obtain ⟨k1, k2, k3, k4⟩ := rsO_shape (by omega) hr
  refine ⟨by simp [h1], k3, ?_, ?_, ?_⟩
  · rw [h3, show 4 - j = (4 - (j + 1)) + 1 by omega, tk_some hp hr]
    cases tk s (4 - (j + 1)) q with
    | none => rfl
    | some x => simp
  · have hp' : p < s.data.toList.length := hp
    have e1 : s.data.toList.take q = s.data.toList.take p ++ ((s.data.toList.drop p).take (q - p)) := by
      conv => lhs; rw [show q = p + (q - p) by omega, List.take_add]
    rw [e1, h4, encs_append]
    have e2 : (s.data.toList.drop p).take (q - p) = s[p] :: (s.data.toList.drop (p + 1)).take (q - (p + 1)) := by
      rw [List.drop_eq_getElem_cons hp', show q - p = (q - (p + 1)) + 1 by omega, List.take_succ_cons]
      rfl
    rw [e2, ← k4]
    simp [encs, enc, loB]
  · intro y hy
    rcases List.mem_append.1 hy with h | h
    · exact h5 y h
    · simp at h; subst h; exact k1
theorem Upto.done {s : ByteArray} {p : Nat} {ys : List Sl} (h : Upto s 4 p ys) : tk s 4 1 = some (ys, p) := by
  obtain ⟨_, _, h3, _⟩ := h
  rw [h3]
  simp [tk]
/-- The bytes are those of the slots just where all is read. -/
theorem Upto.whole {s : ByteArray} {j p : Nat} {ys : List Sl} (h : Upto s j p ys) (h0 : 1 ≤ s.size) (hd : s[0] = 100) : accB (100 :: encs ys) = s ↔ p = s.size := by
  obtain ⟨_, h2, _, h4, _⟩ := h
  have hl : s.data.toList.length = s.size := rfl
  have e1 : s.data.toList.take 1 = [100] := by
    rw [List.take_one, List.head?_eq_getElem?, List.getElem?_eq_getElem (by omega)]
    have : s.data.toList[0]'(by omega) = s[0] := rfl
    rw [this, hd]
    rfl
  rw [e1] at h4
  have e2 : accB (100 :: encs ys) = accB (s.data.toList.take p) := by rw [h4]; rfl
  rw [e2]
  constructor
  · intro h
    have := congrArg ByteArray.size h
    rw [accB_size, List.length_take, hl] at this
    omega
  · intro h
    rw [List.take_of_length_le (by omega), accB_data]
/-- What a text tells: a block, or none. -/
def readR (s : ByteArray) : Option (Bool × List Sl × ByteArray) :=
  if h : 0 < s.size then
    if s[0] = 100 then (match tk s 4 1 with
      | .none => .none
      | some (xs, e) => if e = s.size ∧ slotsOk xs = true then some (true, xs, ⟨#[]⟩) else .none)
    else if s[0] = 116 ∧ s.size ≤ 17 then some (false, [], s.extract 1 s.size) else .none
  else .none
theorem readR_empty {s : ByteArray} (h : s.size = 0) : readR s = .none := by simp [readR, h]
theorem readR_dir {s : ByteArray} (h : 0 < s.size) (hd : s[0] = 100) {xs : List Sl} {e : Nat} (ht : tk s 4 1 = some (xs, e)) : readR s = if e = s.size ∧ slotsOk xs = true then some (true, xs, ⟨#[]⟩) else .none := by
  rw [readR, dif_pos h, if_pos hd, ht]
theorem readR_dirn {s : ByteArray} (h : 0 < s.size) (hd : s[0] = 100) (ht : tk s 4 1 = .none) : readR s = .none := by
  rw [readR, dif_pos h, if_pos hd, ht]
theorem readR_text {s : ByteArray} (h : 0 < s.size) (hd : s[0] ≠ 100) : readR s = if s[0] = 116 ∧ s.size ≤ 17 then some (false, [], s.extract 1 s.size) else .none := by
  rw [readR, dif_pos h, if_neg hd]
def rOk (s : ByteArray) : Bool := (readR s).isSome
def rD (s : ByteArray) : Bool := match readR s with | some x => x.1 | _ => false
def rX (s : ByteArray) : List Sl := match readR s with | some x => x.2.1 | _ => []
def rT (s : ByteArray) : ByteArray := match readR s with | some x => x.2.2 | _ => ⟨#[]⟩
theorem r_none {s : ByteArray} (h : readR s = .none) : rOk s = false ∧ rD s = false ∧ rX s = [] ∧ rT s = ⟨#[]⟩ := by simp [rOk, rD, rX, rT, h]
theorem r_some {s : ByteArray} {d : Bool} {xs : List Sl} {t : ByteArray} (h : readR s = some (d, xs, t)) : rOk s = true ∧ rD s = d ∧ rX s = xs ∧ rT s = t := by simp [rOk, rD, rX, rT, h]
end Go.Proofs.Ytfffiboggpjjkaa.Kit
