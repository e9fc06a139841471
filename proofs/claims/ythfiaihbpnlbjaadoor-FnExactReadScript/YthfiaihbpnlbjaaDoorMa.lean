/- What a script tells, plainly: no Go function is spoken of. -/
import Derived.Test.YthfiaihbpnlbjaaDoorNv
import Derived.Test.YthfiaihbpnlbjaaDoorPartsI
import Derived.Lib.SplitLaws
namespace Go.Proofs.YthfiaihbpnlbjaaDoor
open Go.RowKit Kit
theorem bytes_ext {a b : ByteArray} (h : a.data.toList = b.data.toList) : a = b := by
  cases a; cases b; simp only [ByteArray.mk.injEq]; exact Array.ext' h
abbrev nl : ByteArray := ⟨#[10]⟩
/-- A text, cut at its ends of lines. -/
def sAll (t : ByteArray) : List ByteArray := Lib.splitB nl 0 (Lib.countB t nl) t
theorem idx_nl (t : ByteArray) : Lib.indexB t nl = Lib.indexByte t.data.toList 10 := Lib.one t nl rfl
theorem sAll_miss {t : ByteArray} (h : Lib.indexB t nl = -1) : sAll t = [t] := Lib.splitB_miss nl 0 _ t h
theorem sAll_hit {t : ByteArray} (i : Nat) (h : Lib.indexB t nl = i) : sAll t = t.extract 0 i :: sAll (t.extract (i + 1) t.size) := by
  unfold sAll
  rw [Lib.countB_hit t nl i (by decide) h, Nat.add_comm, Lib.splitB_hit nl 0 _ t i h]
  rfl
theorem ib_some {l : List UInt8} (i : Nat) (h : l[i]? = some 10) (hn : ∀ k, k < i → l[k]? ≠ some 10) : Lib.indexByte l 10 = i := by
  have h1 := Lib.indexByte_ge l 10
  by_cases h2 : Lib.indexByte l 10 = -1
  · exact absurd h (Lib.indexByte_none h2 i)
  · obtain ⟨o, ho⟩ : ∃ o : Nat, Lib.indexByte l 10 = o := ⟨(Lib.indexByte l 10).toNat, by omega⟩
    obtain ⟨h3, h4⟩ := Lib.indexByte_some ho
    rw [ho]
    rcases Nat.lt_trichotomy o i with h5 | h5 | h5
    · exact absurd h3 (hn o h5)
    · rw [h5]
    · exact absurd h (h4 i h5)
theorem ib_none {l : List UInt8} (hn : ∀ k : Nat, l[k]? ≠ some 10) : Lib.indexByte l 10 = -1 := by
  have h1 := Lib.indexByte_ge l 10
  by_cases h2 : Lib.indexByte l 10 = -1
  · exact h2
  · obtain ⟨o, ho⟩ : ∃ o : Nat, Lib.indexByte l 10 = o := ⟨(Lib.indexByte l 10).toNat, by omega⟩
    exact absurd (Lib.indexByte_some ho).1 (hn o)
theorem cut_get (s : ByteArray) (b k : Nat) : (s.extract b s.size).data.toList[k]? = s.data.toList[b + k]? := by
  rw [cut_list, List.getElem?_take]
  split
  · rw [List.getElem?_drop]
  · rename_i h
    rw [List.getElem?_eq_none]
    simp
    have : s.data.size = s.size := rfl
    omega
/-- Lines have been cut up to i, the last of them begins at b. -/
structure LAt (s : ByteArray) (i b : Nat) (out : List ByteArray) : Prop where
  hi : i ≤ s.size
  hb : b ≤ i
  hn : ∀ k, b ≤ k → k < i → s.data.toList[k]? ≠ some 10
  e : sAll s = out ++ sAll (s.extract b s.size)
  hl : out.length ≤ i
theorem LAt.start (s : ByteArray) : LAt s 0 0 [] := by
  refine ⟨Nat.zero_le _, Nat.le_refl _, fun k h1 h2 => by omega, ?_, Nat.zero_le _⟩
  rw [show s.extract 0 s.size = s from bytes_ext (by rw [cut_list, Nat.sub_zero, List.drop_zero, Lib.size_eq, List.take_length])]
  rfl
theorem LAt.next {s : ByteArray} {i b : Nat} {out : List ByteArray} (h : LAt s i b out) (hi : i < s.size) (hc : (s[i]).toNat ≠ 10) : LAt s (i + 1) b out := by
  refine ⟨hi, by have := h.hb; omega, fun k h1 h2 => ?_, h.e, by have := h.hl; omega⟩
  by_cases e : k = i
  · subst e
    intro e2
    rw [List.getElem?_eq_getElem (by rw [← Lib.size_eq]; exact hi)] at e2
    exact hc (by have := Option.some.inj e2; show (s.data[k]).toNat = 10; rw [show s.data[k] = s.data.toList[k]'(by rw [← Lib.size_eq]; exact hi) from rfl, this]; rfl)
  · exact h.hn k h1 (by omega)
theorem LAt.cut {s : ByteArray} {i b : Nat} {out : List ByteArray} (h : LAt s i b out) (hi : i < s.size) (hc : (s[i]).toNat = 10) : LAt s (i + 1) (i + 1) (out ++ [s.extract b i]) := by
  have hb := h.hb
  refine ⟨hi, Nat.le_refl _, fun k h1 h2 => by omega, ?_, by have := h.hl; rw [List.length_append]; simp; omega⟩
  have e10 : s.data.toList[i]? = some 10 := by
    rw [List.getElem?_eq_getElem (by rw [← Lib.size_eq]; exact hi)]
    congr 1
    exact UInt8.toNat_inj.1 (by rw [← show (s[i]).toNat = (s.data.toList[i]'(by rw [← Lib.size_eq]; exact hi)).toNat from rfl, hc]; rfl)
  have hx : Lib.indexB (s.extract b s.size) nl = ((i - b : Nat) : Int) := by
    rw [idx_nl]
    refine ib_some (i - b) ?_ fun k hk => ?_
    · rw [cut_get, show b + (i - b) = i by omega]
      exact e10
    · rw [cut_get]
      exact h.hn (b + k) (by omega) (by omega)
  rw [h.e, sAll_hit (i - b) hx, List.append_assoc, List.singleton_append]
  have hsz : (s.extract b s.size).size = s.size - b := by simp
  have e1 : (s.extract b s.size).extract 0 (i - b) = s.extract b i := by
    refine bytes_ext ?_
    rw [cut_list, cut_list, cut_list, Nat.sub_zero, List.drop_zero, List.take_take, Nat.min_eq_left (by omega)]
  have e2 : (s.extract b s.size).extract (i - b + 1) (s.extract b s.size).size = s.extract (i + 1) s.size := by
    refine bytes_ext ?_
    rw [hsz, cut_list, cut_list, cut_list, List.drop_take, List.drop_drop, List.take_take, Nat.min_eq_left (by omega), show b + (i - b + 1) = i + 1 by omega, show s.size - b - (i - b + 1) = s.size - (i + 1) by omega]
  rw [e1, e2]
theorem LAt.done {s : ByteArray} {b : Nat} {out : List ByteArray} (h : LAt s s.size b out) : sAll s = out ++ [s.extract b s.size] := by
  rw [h.e, sAll_miss]
  rw [idx_nl]
  refine ib_none fun k => ?_
  rw [cut_get]
  by_cases hk : b + k < s.size
  · exact h.hn _ (by omega) hk
  · rw [List.getElem?_eq_none (by rw [← Lib.size_eq]; omega)]
    exact fun e => by cases e
/-- Without a last line that is empty. -/
def noE (l : List ByteArray) : List ByteArray := if (l.getLast?.map ByteArray.size) = some 0 then l.dropLast else l
def lns (s : ByteArray) : List ByteArray := noE (sAll s)
theorem LAt.lines {s : ByteArray} {b : Nat} {out : List ByteArray} (h : LAt s s.size b out) : lns s = if b < s.size then out ++ [s.extract b s.size] else out := by
  have hs : (s.extract b s.size).size = s.size - b := by simp
  unfold lns noE
  rw [h.done, List.getLast?_append, List.getLast?_singleton]
  simp only [Option.some_or, Option.map_some, hs, List.dropLast_concat]
  by_cases hb : b < s.size
  · rw [if_neg (by simp; omega), if_pos hb]
  · rw [if_pos (by simp; omega), if_neg hb]
/-- The parts of a line, and whether it has any. -/
def plB (s : ByteArray) : Bool := decide (s.size ≤ 600) && s.data.toList.all (fun c => decide (32 ≤ c.toNat) && decide (c.toNat ≤ 126)) && decide ((Lib.fields s.data.toList).length ≤ 10)
def pl (s : ByteArray) : List ByteArray := if plB s = true then (Lib.fields s.data.toList).map fun x => ⟨x.toArray⟩ else []
theorem plB_iff (s : ByteArray) : plB s = true ↔ (s.size ≤ 600 ∧ (∀ c ∈ s.data.toList, okB c) ∧ (Lib.fields s.data.toList).length ≤ 10) := by
  simp only [plB, Bool.and_eq_true, decide_eq_true_eq, List.all_eq_true, okB, and_assoc]
theorem ans_pl (s : ByteArray) : Ans s (pl s) (plB s) := by
  refine ⟨fun h => ?_, fun h => ?_⟩
  · have e := (plB_iff s).2 h
    refine ⟨e, ?_⟩
    rw [pl, if_pos e, List.map_map]
    exact List.map_id _
  · have e : plB s = false := by
      cases hh : plB s
      · rfl
      · exact absurd ((plB_iff s).1 hh) h
    refine ⟨e, ?_⟩
    rw [pl, e]
    rfl
theorem fieldsGo_ne : ∀ (l cur : List UInt8), ∀ x ∈ Lib.fieldsGo cur l, x ≠ []
  | [], cur, x, hx => by
    unfold Lib.fieldsGo at hx
    split at hx
    · simp at hx
    · rename_i h
      rw [List.mem_singleton] at hx
      subst hx
      simpa using h
  | b :: l, cur, x, hx => by
    unfold Lib.fieldsGo at hx
    split at hx
    · split at hx
      · exact fieldsGo_ne l [] x hx
      · rename_i h
        rcases List.mem_cons.1 hx with e | e
        · subst e
          simpa using h
        · exact fieldsGo_ne l [] x e
    · exact fieldsGo_ne l _ x hx
theorem pl_in (s x : ByteArray) (hx : x ∈ pl s) : x.size ≤ 600 ∧ 0 < x.size := by
  unfold pl at hx
  split at hx
  · rename_i h
    obtain ⟨y, hy, rfl⟩ := List.mem_map.1 hx
    have h1 := field_le s.data.toList [] y hy
    have h2 := fieldsGo_ne s.data.toList [] y hy
    have h3 := ((plB_iff s).1 h).1
    have e1 : (⟨y.toArray⟩ : ByteArray).size = y.length := by rw [Lib.size_eq]
    have e2 : s.data.toList.length = s.size := (Lib.size_eq s).symm
    have e3 : 0 < y.length := List.length_pos_iff.2 h2
    simp only [List.length_nil] at h1
    omega
  · cases hx
theorem pl_len (s : ByteArray) : (pl s).length ≤ 10 := by
  unfold pl
  split
  · rename_i h
    rw [List.length_map]
    exact ((plB_iff s).1 h).2.2
  · exact Nat.zero_le _
/-- A number as ReadDecimal reads it. -/
def hdB : List UInt8 → Bool
  | [] => false
  | c :: r => !(decide (c.toNat = 48) && !r.isEmpty)
def rdN (l : List UInt8) : Option Nat := if (l.all (fun c => decide (48 ≤ c.toNat) && decide (c.toNat ≤ 57)) && decide (val10 l ≤ 1000000000) && hdB l) = true then some (val10 l) else none
theorem hdB_iff (l : List UInt8) : hdB l = true ↔ plainHead l := by
  cases l with
  | nil => simp [hdB, plainHead]
  | cons c r =>
    unfold hdB plainHead
    by_cases h1 : c.toNat = 48 <;> cases r <;> simp [h1]
theorem rdN_ok (l : List UInt8) : rdd l (rdN l) := by
  have e : (l.all (fun c => decide (48 ≤ c.toNat) && decide (c.toNat ≤ 57)) && decide (val10 l ≤ 1000000000) && hdB l) = true ↔ ((∀ c ∈ l, dig c) ∧ val10 l ≤ 1000000000 ∧ plainHead l) := by
    simp only [Bool.and_eq_true, decide_eq_true_eq, List.all_eq_true, dig, and_assoc, hdB_iff]
  refine ⟨fun h => by rw [rdN, if_pos (e.2 h)], fun h => by rw [rdN, if_neg (fun k => h (e.1 k))]⟩
abbrev e0 : ByteArray := ⟨#[]⟩
abbrev evd : Evt := (0, e0, e0, 0, e0)
/-- The number of a text, 0 where it tells none. -/
def nuN (t : ByteArray) : Int := (((rdN t.data.toList).getD 0 : Nat) : Int)
def nuB (t : ByteArray) : Bool := (rdN t.data.toList).isSome
theorem nu_val (t : ByteArray) : ddVal (rdN t.data.toList) = .tuple #[.int .i64 (nuN t), .bool (nuB t)] := by
  unfold nuN nuB
  cases rdN t.data.toList <;> rfl
/-- The event of the k-th word, of these parts. -/
def evK (k : Nat) (p : List ByteArray) : Evt × Bool :=
  if k = 3 then ((3, p.getD 1 e0, e0, nuN (p.getD 2 e0), p.getD 3 e0), nuB (p.getD 2 e0))
  else if k = 5 then ((5, p.getD 1 e0, p.getD 2 e0, 0, e0), true)
  else if k = 6 then ((6, e0, e0, nuN (p.getD 1 e0), e0), nuB (p.getD 1 e0))
  else if k < 6 then ((k, p.getD 1 e0, e0, 0, e0), true)
  else ((k, e0, e0, 0, e0), true)
/-- The words, and how many parts a line of each has. -/
def wk : List (ByteArray × Nat) := [(⟨#[109, 97, 107, 101]⟩, 2), (⟨#[100, 105, 114]⟩, 2), (⟨#[119, 114, 105, 116, 101]⟩, 4), (⟨#[114, 101, 109, 111, 118, 101]⟩, 2), (⟨#[109, 111, 118, 101]⟩, 3), (⟨#[98, 97, 99, 107]⟩, 2), (⟨#[102, 108, 117, 115, 104]⟩, 1), (⟨#[102, 97, 108, 108]⟩, 1)]
def evF : List (ByteArray × Nat) → Nat → List ByteArray → Evt × Bool
  | [], _, _ => (evd, false)
  | x :: r, k, p => if p.getD 0 e0 = x.1 ∧ p.length = x.2 then evK k p else evF r (k + 1) p
def evP (p : List ByteArray) : Evt × Bool := evF wk 1 p
def evOk (x : Evt) : Bool := evB x.1 x.2.1 x.2.2.1 x.2.2.2.1 x.2.2.2.2
/-- What a line tells: nothing right, nothing at all, or an event. -/
def lineE (s : ByteArray) : Option (Option Evt) :=
  if plB s = true then
    if pl s = [] then some none
    else if ((pl s).getD 0 e0).data.toList.head? = some 35 then some none
    else if ((evP (pl s)).2 && evOk (evP (pl s)).1) = true then some (some (evP (pl s)).1) else none
  else none
def readS : List ByteArray → Nat → List Evt → List Evt × Int
  | [], _, out => (out, 0)
  | s :: r, k, out => match lineE s with
    | none => ([], (k : Int) + 1)
    | some none => readS r (k + 1) out
    | some (some e) => if out.length = 60 then ([], (k : Int) + 1) else readS r (k + 1) (out ++ [e])
def ansS (s : ByteArray) : List Evt × Int := if s.size ≤ 3000 ∧ (lns s).length ≤ 80 then readS (lns s) 0 [] else ([], -1)
theorem readS_none {ls : List ByteArray} {k : Nat} {out : List Evt} (h : k < ls.length) (hl : lineE ls[k] = none) : readS (ls.drop k) k out = ([], (k : Int) + 1) := by
  rw [List.drop_eq_getElem_cons h]
  simp only [readS, hl]
theorem readS_pass {ls : List ByteArray} {k : Nat} {out : List Evt} (h : k < ls.length) (hl : lineE ls[k] = some none) : readS (ls.drop k) k out = readS (ls.drop (k + 1)) (k + 1) out := by
  rw [List.drop_eq_getElem_cons h]
  simp only [readS, hl]
theorem readS_full {ls : List ByteArray} {k : Nat} {out : List Evt} {e : Evt} (h : k < ls.length) (hl : lineE ls[k] = some (some e)) (ho : out.length = 60) : readS (ls.drop k) k out = ([], (k : Int) + 1) := by
  rw [List.drop_eq_getElem_cons h]
  simp only [readS, hl, ho, if_true]
theorem readS_more {ls : List ByteArray} {k : Nat} {out : List Evt} {e : Evt} (h : k < ls.length) (hl : lineE ls[k] = some (some e)) (ho : out.length ≠ 60) : readS (ls.drop k) k out = readS (ls.drop (k + 1)) (k + 1) (out ++ [e]) := by
  rw [List.drop_eq_getElem_cons h]
  simp only [readS, hl, ho, if_false]
theorem readS_end {ls : List ByteArray} {k : Nat} {out : List Evt} (h : ls.length ≤ k) : readS (ls.drop k) k out = (out, 0) := by
  rw [List.drop_eq_nil_of_le h]
  rfl
end Go.Proofs.YthfiaihbpnlbjaaDoor
