/- spec.PartsOf by its contract: the parts of a line, which stand between blanks. -/
import Derived.Test.YthfiaihbpnlbjaaDoorMarks
import Derived.Lib.Fields
namespace Go.Proofs.YthfiaihbpnlbjaaDoor.Kit
open Go.RowKit
/-- A byte that a line may have. -/
def okB (c : UInt8) : Prop := 32 ≤ c.toNat ∧ c.toNat ≤ 126
theorem sp_blank : ∀ c : UInt8, c.toNat = 32 → Lib.isSp c = true := by
  intro c h
  have : c = 32 := UInt8.toNat_inj.1 h
  subst this
  rfl
theorem sp_not {c : UInt8} (h : okB c) (h1 : c.toNat ≠ 32) : Lib.isSp c = false := by
  obtain ⟨h2, h3⟩ := h
  have key : ∀ n < 256, 32 < n → Lib.isSp (UInt8.ofNat n) = false := by decide +kernel
  have := key c.toNat c.toNat_lt (by omega)
  simpa using this
/-- k bytes were gone through, b is where a part may begin, out are the parts so far. -/
def PAt (s : ByteArray) (k b : Nat) (out : List ByteArray) : Prop :=
  (∀ c ∈ s.data.toList.take k, okB c) ∧
  ((k ≤ s.size ∧ b ≤ k ∧ Lib.fields s.data.toList = out.map (·.data.toList) ++ Lib.fieldsGo ((s.data.toList.drop b).take (k - b)) (s.data.toList.drop k)) ∨
   (k = s.size + 1 ∧ Lib.fields s.data.toList = out.map (·.data.toList)))
theorem PAt.start (s : ByteArray) : PAt s 0 0 [] := ⟨by simp, .inl ⟨Nat.zero_le _, Nat.le_refl _, by simp [Lib.fields]⟩⟩
theorem drop_cons (s : ByteArray) (k : Nat) (h : k < s.size) : s.data.toList.drop k = s[k] :: s.data.toList.drop (k + 1) := by
  rw [List.drop_eq_getElem_cons (by simpa using h)]
  rfl
theorem take_ok {s : ByteArray} {k : Nat} (h : ∀ c ∈ s.data.toList.take k, okB c) (hk : k < s.size) (hc : okB s[k]) : ∀ c ∈ s.data.toList.take (k + 1), okB c := by
  rw [take_snoc s k hk]
  intro c hc'
  rcases List.mem_append.1 hc' with h1 | h1
  · exact h c h1
  · simp at h1; subst h1; exact hc
theorem cut_snoc (s : ByteArray) (b k : Nat) (hb : b ≤ k) (hk : k < s.size) : (s.data.toList.drop b).take (k + 1 - b) = (s.data.toList.drop b).take (k - b) ++ [s[k]] := by
  rw [show k + 1 - b = (k - b) + 1 by omega, List.take_succ_eq_append_getElem (by simp; omega)]
  congr 2
  rw [List.getElem_drop]
  have : b + (k - b) = k := by omega
  simp only [this]
  rfl
theorem cut_ne (s : ByteArray) (b k : Nat) (hb : b < k) (hk : k ≤ s.size) : (s.data.toList.drop b).take (k - b) ≠ [] := by
  intro e
  have := congrArg List.length e
  simp at this
  have h2 : s.data.size = s.size := rfl
  omega
theorem cut_list (s : ByteArray) (b k : Nat) : (s.extract b k).data.toList = (s.data.toList.drop b).take (k - b) := Lib.extract_data s b k
theorem PAt.more {s : ByteArray} {k b c : Nat} {out : List ByteArray} (h : PAt s k b out) (hk : k < s.size) (hc : (s[k]).toNat = c) (h1 : 32 < c) (h2 : c ≤ 126) : PAt s (k + 1) b out := by
  have ho : okB s[k] := ⟨by omega, by omega⟩
  refine ⟨take_ok h.1 hk ho, .inl ?_⟩
  rcases h.2 with ⟨h3, h4, h5⟩ | ⟨h3, _⟩
  · refine ⟨by omega, by omega, ?_⟩
    rw [h5, drop_cons s k hk, Lib.fieldsGo_more _ _ _ (sp_not ho (by omega)), cut_snoc s b k h4 hk]
  · omega
theorem PAt.endPart {s : ByteArray} {k b c : Nat} {out : List ByteArray} (h : PAt s k b out) (hk : k < s.size) (hc : (s[k]).toNat = c) (h1 : c = 32) (hb : b < k) : PAt s (k + 1) (k + 1) (out ++ [s.extract b k]) := by
  have ho : okB s[k] := ⟨by omega, by omega⟩
  refine ⟨take_ok h.1 hk ho, .inl ?_⟩
  rcases h.2 with ⟨h3, h4, h5⟩ | ⟨h3, _⟩
  · refine ⟨by omega, by omega, ?_⟩
    rw [h5, drop_cons s k hk, Lib.fieldsGo_end _ _ _ (sp_blank _ (by omega)) (cut_ne s b k hb h3)]
    simp only [Nat.sub_self, List.take_zero, List.map_append, List.map_cons, List.map_nil, cut_list, List.append_assoc, List.singleton_append]
  · omega
theorem PAt.skip {s : ByteArray} {k b c : Nat} {out : List ByteArray} (h : PAt s k b out) (hk : k < s.size) (hc : (s[k]).toNat = c) (h1 : c = 32) (hb : ¬ b < k) : PAt s (k + 1) (k + 1) out := by
  have ho : okB s[k] := ⟨by omega, by omega⟩
  refine ⟨take_ok h.1 hk ho, .inl ?_⟩
  rcases h.2 with ⟨h3, h4, h5⟩ | ⟨h3, _⟩
  · refine ⟨by omega, by omega, ?_⟩
    obtain rfl : b = k := by omega
    rw [h5, drop_cons s b hk]
    simp only [Nat.sub_self, List.take_zero]
    rw [Lib.fieldsGo_sp _ _ (sp_blank _ (by omega))]
  · omega
theorem PAt.last {s : ByteArray} {k b : Nat} {out : List ByteArray} (h : PAt s k b out) (hk : k = s.size) (hb : b < k) : PAt s (k + 1) (k + 1) (out ++ [s.extract b k]) := by
  refine ⟨?_, .inr ⟨by omega, ?_⟩⟩
  · have e1 := take_all s (k + 1) (by omega)
    have e2 := take_all s k (by omega)
    rw [e1, ← e2]; exact h.1
  · rcases h.2 with ⟨h3, h4, h5⟩ | ⟨h3, _⟩
    · have hl : s.data.toList.length = s.size := by simp
      have hne := cut_ne s b k hb h3
      have hne' : ((s.data.toList.drop b).take (k - b)).isEmpty = false := by
        cases h : (s.data.toList.drop b).take (k - b) with
        | nil => exact absurd h hne
        | cons a t => rfl
      rw [h5, List.drop_of_length_le (show s.data.toList.length ≤ k by omega), Lib.fieldsGo, hne']
      simp only [List.map_append, List.map_cons, List.map_nil, cut_list]
      rfl
    · omega
theorem PAt.lastSkip {s : ByteArray} {k b : Nat} {out : List ByteArray} (h : PAt s k b out) (hk : k = s.size) (hb : ¬ b < k) : PAt s (k + 1) (k + 1) out := by
  refine ⟨?_, .inr ⟨by omega, ?_⟩⟩
  · have e1 := take_all s (k + 1) (by omega)
    have e2 := take_all s k (by omega)
    rw [e1, ← e2]; exact h.1
  · rcases h.2 with ⟨h3, h4, h5⟩ | ⟨h3, _⟩
    · obtain rfl : b = k := by omega
      have hl : s.data.toList.length = s.size := by simp
      rw [h5, List.drop_of_length_le (show s.data.toList.length ≤ b by omega)]
      simp [Lib.fieldsGo]
    · omega
/-- What is answered of a line: its parts and true, or none and false. -/
def Ans (s : ByteArray) (l : List ByteArray) (ok : Bool) : Prop :=
  (s.size ≤ 600 ∧ (∀ c ∈ s.data.toList, okB c) ∧ (Lib.fields s.data.toList).length ≤ 10 → ok = true ∧ l.map (·.data.toList) = Lib.fields s.data.toList) ∧
  (¬ (s.size ≤ 600 ∧ (∀ c ∈ s.data.toList, okB c) ∧ (Lib.fields s.data.toList).length ≤ 10) → ok = false ∧ l = [])
theorem ans_ex (s : ByteArray) : ∃ l ok, Ans s l ok ∧ l.length ≤ 10 := by
  by_cases h : s.size ≤ 600 ∧ (∀ c ∈ s.data.toList, okB c) ∧ (Lib.fields s.data.toList).length ≤ 10
  · refine ⟨(Lib.fields s.data.toList).map fun x => ⟨x.toArray⟩, true, ⟨fun _ => ⟨rfl, ?_⟩, fun h' => absurd h h'⟩, by simpa using h.2.2⟩
    simp [List.map_map, Function.comp_def]
  · exact ⟨[], false, ⟨fun h' => absurd h' h, fun _ => ⟨rfl, rfl⟩⟩, by simp⟩
theorem lists_inj {a b : List ByteArray} (h : a.map (·.data.toList) = b.map (·.data.toList)) : a = b := by
  induction a generalizing b with
  | nil => cases b with
    | nil => rfl
    | cons y t => simp at h
  | cons x r ih => cases b with
    | nil => simp at h
    | cons y t =>
      simp only [List.map_cons, List.cons.injEq] at h
      rw [Go.WideShapes.bytes_inj h.1, ih h.2]
theorem get_memP (s : ByteArray) (k : Nat) (hk : k < s.size) : s[k] ∈ s.data.toList := by
  have h2 : k < s.data.toList.length := by simpa using hk
  have : s.data.toList[k] = s[k] := rfl
  rw [← this]
  exact List.getElem_mem h2
theorem ans_bad {s : ByteArray} {l : List ByteArray} {ok : Bool} {k c : Nat} (h : Ans s l ok) (hk : k < s.size) (hc : (s[k]).toNat = c) (hb : ¬ (32 ≤ c ∧ c ≤ 126)) : ok = false ∧ l = [] :=
  h.2 fun hh => hb (by have := hh.2.1 s[k] (get_memP s k hk); unfold okB at this; omega)
theorem ans_long {s : ByteArray} {l : List ByteArray} {ok : Bool} (h : Ans s l ok) (hk : 600 < s.size) : ok = false ∧ l = [] := h.2 fun hh => by omega
theorem ans_many {s : ByteArray} {l : List ByteArray} {ok : Bool} (h : Ans s l ok) (hk : 10 < (Lib.fields s.data.toList).length) : ok = false ∧ l = [] := h.2 fun hh => by omega
theorem PAt.done {s : ByteArray} {k b : Nat} {out : List ByteArray} (h : PAt s k b out) (hk : s.size < k) : (∀ c ∈ s.data.toList, okB c) ∧ Lib.fields s.data.toList = out.map (·.data.toList) := by
  have e1 := take_all s k (by omega)
  rw [← e1]
  refine ⟨h.1, ?_⟩
  rw [e1]
  rcases h.2 with ⟨h3, _⟩ | ⟨_, h4⟩
  · omega
  · exact h4
end Go.Proofs.YthfiaihbpnlbjaaDoor.Kit
