/- Texts of the proof, bundled: Rc, Re0, Re1, Re2. -/
import Derived.Laws.EntriesVeiled
import Derived.Deep.LoopGhost
import Derived.Sort.OwnSortedInts
import Derived.Test.YtljooldjcefkoaaGreatU07
import Derived.Test.YtljooldjcefkoaaGreatU09
/- What can be reached, as plain mathematics. No Go function is spoken of. -/
namespace Go.Proofs.YtljooldjcefkoaaGreat
open Go.RowKit Kit
/-- What can be reached from 1. -/
def Rch (E : Int → Int → Prop) (j : Int) : Prop := ∀ S : Int → Prop, S 1 → (∀ i k, S i → E i k → S k) → S j
theorem Rch.root (E : Int → Int → Prop) : Rch E 1 := fun _ h _ => h
theorem Rch.step {E : Int → Int → Prop} {i k : Int} (h : Rch E i) (e : E i k) : Rch E k := fun S h1 h2 => h2 i k (h S h1 h2) e
def all8 : List Int := [1, 2, 3, 4, 5, 6, 7, 8]
theorem mem_all8 {j : Int} : j ∈ all8 ↔ 1 ≤ j ∧ j ≤ 8 := by
  simp only [all8, List.mem_cons, List.not_mem_nil, or_false]
  omega
/-- Edges lead to 1 .. 8. -/
def InE (E : Int → Int → Prop) : Prop := ∀ i k, E i k → 1 ≤ k ∧ k ≤ 8
theorem Rch.range {E : Int → Int → Prop} (hE : InE E) {j : Int} (h : Rch E j) : 1 ≤ j ∧ j ≤ 8 := h (fun j => 1 ≤ j ∧ j ≤ 8) (by omega) (fun i k _ e => hE i k e)
theorem all8_lt : all8.Pairwise (· < ·) := by decide
theorem pair_le_eq {l m : List Int} (hl : l.Pairwise (· ≤ ·)) (hm : m.Pairwise (· ≤ ·)) (h : l.Perm m) : l = m := h.eq_of_pairwise (fun _ _ _ _ h1 h2 => Int.le_antisymm h1 h2) hl hm
theorem nodup8 {l : List Int} (hn : l.Nodup) (h : ∀ j ∈ l, 1 ≤ j ∧ j ≤ 8) : l.length ≤ 8 := by
  have hp : l.Perm (all8.filter fun j => decide (j ∈ l)) := (List.perm_ext_iff_of_nodup hn ((all8_lt.imp fun h => Int.ne_of_lt h).sublist List.filter_sublist)).2 fun j => by
    rw [List.mem_filter, decide_eq_true_eq, mem_all8]
    exact ⟨fun hj => ⟨h j hj, hj⟩, fun hj => hj.2⟩
  rw [hp.length_eq]
  exact List.length_filter_le _ _
/-- One flag of a list of eight, told by the inode's number. -/
def hasB (h : List Bool) (j : Int) : Bool := h.getD (j - 1).toNat false
structure Sound (E : Int → Int → Prop) (h : List Bool) : Prop where
  n : h.length = 8
  r : ∀ q : Nat, h.getD q false = true → Rch E ((q : Int) + 1)
def Full (E : Int → Int → Prop) (h : List Bool) : Prop := ∀ q : Nat, Rch E ((q : Int) + 1) → h.getD q false = true
/-- A pass over the first i of them under way. -/
structure Pass (E : Int → Int → Prop) (h0 h : List Bool) (i : Nat) : Prop where
  s : Sound E h
  up : ∀ q : Nat, h0.getD q false = true → h.getD q false = true
  e : ∀ a : Nat, a < i → h0.getD a false = true → ∀ k, E ((a : Int) + 1) k → h.getD (k - 1).toNat false = true
/-- In it: the first t of those that inode i + 1 names. -/
structure PassIn (E : Int → Int → Prop) (h0 h : List Bool) (i : Nat) (ks : List Int) (t : Nat) : Prop where
  p : Pass E h0 h i
  m : h.getD i false = true
  k : ∀ k ∈ ks.take t, E ((i : Int) + 1) k → h.getD (k - 1).toNat false = true
theorem getD_set {l : List Bool} {q j : Nat} (hj : j < l.length) : (l.set j true).getD q false = if q = j then true else l.getD q false := by
  rw [List.getD_eq_getElem?_getD, List.getD_eq_getElem?_getD, List.getElem?_set]
  by_cases e : j = q
  · subst e; simp [hj]
  · rw [if_neg e, if_neg (fun h => e h.symm)]
theorem set_up {l : List Bool} {q j : Nat} (hj : j < l.length) (h : l.getD q false = true) : (l.set j true).getD q false = true := by
  rw [getD_set hj]; split <;> simp_all
theorem PassIn.set {E : Int → Int → Prop} {h0 h : List Bool} {i t : Nat} {ks : List Int} (H : PassIn E h0 h i ks t) (ht : t < ks.length) (he : E ((i : Int) + 1) ks[t]) (hr : 1 ≤ ks[t] ∧ ks[t] ≤ 8) : PassIn E h0 (h.set (ks[t] - 1).toNat true) i ks (t + 1) := by
  have hj : (ks[t] - 1).toNat < h.length := by have := H.p.s.n; omega
  refine ⟨⟨⟨by rw [List.length_set]; exact H.p.s.n, fun q hq => ?_⟩, fun q hq => set_up hj (H.p.up q hq), fun a ha h0a k hk => set_up hj (H.p.e a ha h0a k hk)⟩, set_up hj H.m, fun k hk hek => ?_⟩
  · rw [getD_set hj] at hq
    split at hq
    · rename_i e
      have := (H.p.s.r i H.m).step he
      rw [e]
      rwa [show (((ks[t] - 1).toNat : Nat) : Int) + 1 = ks[t] by omega]
    · exact H.p.s.r q hq
  · rw [List.take_succ_eq_append_getElem ht, List.mem_append] at hk
    rcases hk with hk | hk
    · exact set_up hj (H.k k hk hek)
    · rw [List.mem_singleton] at hk
      subst hk
      rw [getD_set hj, if_pos rfl]
theorem PassIn.skip {E : Int → Int → Prop} {h0 h : List Bool} {i t : Nat} {ks : List Int} (H : PassIn E h0 h i ks t) (ht : t < ks.length) (he : ¬ E ((i : Int) + 1) ks[t]) : PassIn E h0 h i ks (t + 1) := by
  refine ⟨H.p, H.m, fun k hk hek => ?_⟩
  rw [List.take_succ_eq_append_getElem ht, List.mem_append] at hk
  rcases hk with hk | hk
  · exact H.k k hk hek
  · rw [List.mem_singleton] at hk
    subst hk
    exact absurd hek he
theorem PassIn.done {E : Int → Int → Prop} {h0 h : List Bool} {i t : Nat} {ks : List Int} (H : PassIn E h0 h i ks t) (ht : ks.length ≤ t) (hk : ∀ k, E ((i : Int) + 1) k → k ∈ ks) : Pass E h0 h (i + 1) := by
  refine ⟨H.p.s, H.p.up, fun a ha h0a k hek => ?_⟩
  by_cases e : a = i
  · subst e
    exact H.k k (by rw [List.take_of_length_le ht]; exact hk k hek) hek
  · exact H.p.e a (by omega) h0a k hek
theorem Pass.skip {E : Int → Int → Prop} {h0 h : List Bool} {i : Nat} (H : Pass E h0 h i) (hf : h.getD i false = false) : Pass E h0 h (i + 1) := by
  refine ⟨H.s, H.up, fun a ha h0a k hek => ?_⟩
  by_cases e : a = i
  · subst e
    rw [H.up a h0a] at hf; cases hf
  · exact H.e a (by omega) h0a k hek
theorem Pass.begin {E : Int → Int → Prop} {h : List Bool} (H : Sound E h) : Pass E h h 0 := ⟨H, fun _ h => h, fun a ha => absurd ha (by omega)⟩
theorem count_le : ∀ {a b : List Bool}, a.length = b.length → (∀ q, a.getD q false = true → b.getD q false = true) → a.count true ≤ b.count true ∧ (a ≠ b → a.count true < b.count true)
  | [], [], _, _ => ⟨Nat.le_refl _, fun h => absurd rfl h⟩
  | x :: r, y :: s, hl, h => by
    have h1 := count_le (a := r) (b := s) (by simpa using hl) (fun q hq => by simpa using h (q + 1) (by simpa using hq))
    have h0 : x = true → y = true := fun e => by simpa using h 0 (by simpa using e)
    cases x <;> cases y <;> simp at h0 ⊢ <;> (try omega) <;> exact h1
/-- The rounds: full, or one more each. -/
structure Rnd (E : Int → Int → Prop) (h : List Bool) (r : Nat) : Prop where
  s : Sound E h
  o : h.getD 0 false = true
  f : Full E h ∨ r + 1 ≤ h.count true
theorem Rnd.begin (E : Int → Int → Prop) : Rnd E [true, false, false, false, false, false, false, false] 0 := by
  refine ⟨⟨rfl, fun q hq => ?_⟩, rfl, .inr (by decide)⟩
  match q, hq with
  | 0, _ => exact Rch.root E
  | 1, h => exact absurd h (by decide)
  | 2, h => exact absurd h (by decide)
  | 3, h => exact absurd h (by decide)
  | 4, h => exact absurd h (by decide)
  | 5, h => exact absurd h (by decide)
  | 6, h => exact absurd h (by decide)
  | 7, h => exact absurd h (by decide)
  | (_ + 8), h => exact absurd h (by simp)
theorem Rnd.next {E : Int → Int → Prop} (hE : InE E) {h0 h : List Bool} {r : Nat} (H : Rnd E h0 r) (P : Pass E h0 h 8) : Rnd E h (r + 1) := by
  refine ⟨P.s, P.up 0 H.o, ?_⟩
  rcases H.f with f | f
  · exact .inl fun q hq => P.up q (f q hq)
  · by_cases e : h0 = h
    · subst e
      refine .inl fun q hq => ?_
      have := hq (fun j => 1 ≤ j ∧ j ≤ 8 ∧ h0.getD (j - 1).toNat false = true) ⟨by omega, by omega, H.o⟩ (fun i k hi hk => ?_)
      · have h2 := this.2.2
        rwa [show ((q : Int) + 1 - 1).toNat = q by omega] at h2
      · have hk8 := hE i k hk
        refine ⟨hk8.1, hk8.2, P.e (i - 1).toNat (by omega) hi.2.2 k ?_⟩
        rwa [show (((i - 1).toNat : Nat) : Int) + 1 = i by omega]
    · have := (count_le (by rw [P.s.n, H.s.n]) P.up).2 e
      exact .inr (by omega)
theorem Rnd.full {E : Int → Int → Prop} {h : List Bool} (H : Rnd E h 8) : Full E h := by
  rcases H.f with f | f
  · exact f
  · have := List.count_le_length (a := true) (l := h)
    have := H.s.n
    omega
/-- Those of the first q that are flagged. -/
def outL (h : List Bool) (q : Nat) : List Int := ((List.range q).filter fun i => h.getD i false).map fun i : Nat => (i : Int) + 1
theorem outL_succ (h : List Bool) (q : Nat) : outL h (q + 1) = outL h q ++ if h.getD q false = true then [(q : Int) + 1] else [] := by
  unfold outL
  rw [List.range_succ, List.filter_append, List.map_append]
  congr 1
  by_cases e : h.getD q false = true
  · rw [if_pos e, List.filter_cons_of_pos (p := fun i => h.getD i false) e]; rfl
  · rw [if_neg e, List.filter_cons_of_neg (p := fun i => h.getD i false) e]; rfl
theorem outL_len (h : List Bool) (q : Nat) : (outL h q).length ≤ q := by
  unfold outL
  rw [List.length_map]
  exact Nat.le_trans (List.length_filter_le _ _) (by simp)
/-- What is reached in k steps at most. -/
def pK (e : Int → Int → Bool) : Nat → Int → Bool
  | 0, j => j == 1
  | k + 1, j => pK e k j || all8.any fun i => pK e k i && e i j
/-- All that can be reached, ascending. -/
def rchL (e : Int → Int → Bool) : List Int := all8.filter (pK e 8)
theorem pK_up {e : Int → Int → Bool} {k : Nat} {j : Int} (h : pK e k j = true) : pK e (k + 1) j = true := by
  rw [pK, h, Bool.true_or]
theorem pK_one (e : Int → Int → Bool) : ∀ k, pK e k 1 = true
  | 0 => rfl
  | k + 1 => pK_up (pK_one e k)
theorem pK_sound {E : Int → Int → Prop} {e : Int → Int → Bool} (he : ∀ i k, e i k = true ↔ E i k) : ∀ k j, pK e k j = true → Rch E j
  | 0, j, h => by
    have : j = 1 := by simpa [pK] using h
    rw [this]
    exact Rch.root E
  | k + 1, j, h => by
    rw [pK, Bool.or_eq_true] at h
    rcases h with h | h
    · exact pK_sound he k j h
    · obtain ⟨i, -, hi⟩ := List.any_eq_true.1 h
      rw [Bool.and_eq_true] at hi
      exact (pK_sound he k i hi.1).step ((he i j).1 hi.2)
theorem pK_full {E : Int → Int → Prop} {e : Int → Int → Bool} (he : ∀ i k, e i k = true ↔ E i k) (hE : InE E) : ∀ k, (∀ j, Rch E j → pK e k j = true) ∨ k + 1 ≤ (all8.map (pK e k)).count true
  | 0 => .inr (by show 1 ≤ (all8.map fun j => j == 1).count true; decide)
  | k + 1 => by
    rcases pK_full he hE k with f | f
    · exact .inl fun j h => pK_up (f j h)
    · by_cases q : all8.map (pK e k) = all8.map (pK e (k + 1))
      · refine .inl fun j hj => pK_up ?_
        have hq := List.map_inj_left.1 q
        exact (hj (fun j => (1 ≤ j ∧ j ≤ 8) ∧ pK e k j = true) ⟨by omega, pK_one e k⟩ (fun i t hi hit => by
          have ht := hE i t hit
          refine ⟨ht, ?_⟩
          rw [hq t (mem_all8.2 ht), pK, Bool.or_eq_true]
          refine .inr (List.any_eq_true.2 ⟨i, mem_all8.2 hi.1, ?_⟩)
          rw [hi.2, (he i t).2 hit]
          rfl)).2
      · have := (count_le (a := all8.map (pK e k)) (b := all8.map (pK e (k + 1))) (by simp) (fun n hn => by
          rw [List.getD_eq_getElem?_getD, List.getElem?_map] at hn ⊢
          cases h : all8[n]? with
          | none => rw [h] at hn; simp at hn
          | some a =>
            rw [h] at hn
            simp only [Option.map_some, Option.getD_some] at hn ⊢
            exact pK_up hn)).2 q
        exact .inr (by omega)
theorem mem_rchL {E : Int → Int → Prop} {e : Int → Int → Bool} (he : ∀ i k, e i k = true ↔ E i k) (hE : InE E) {j : Int} : j ∈ rchL e ↔ Rch E j := by
  unfold rchL
  rw [List.mem_filter, mem_all8]
  refine ⟨fun h => pK_sound he 8 j h.2, fun h => ⟨h.range hE, ?_⟩⟩
  rcases pK_full he hE 8 with f | f
  · exact f j h
  · have := List.count_le_length (a := true) (l := all8.map (pK e 8))
    rw [List.length_map] at this
    have h8 : all8.length = 8 := rfl
    omega
theorem rchL_sub (e : Int → Int → Bool) : List.Sublist (rchL e) all8 := List.filter_sublist
theorem rchL_len (e : Int → Int → Bool) : (rchL e).length ≤ 8 := (rchL_sub e).length_le
theorem rchL_lt (e : Int → Int → Bool) : (rchL e).Pairwise (· < ·) := all8_lt.sublist (rchL_sub e)
theorem sort_rchL {E : Int → Int → Prop} {e : Int → Int → Bool} (he : ∀ i k, e i k = true ↔ E i k) (hE : InE E) {l : List Int} (hn : l.Nodup) (hr : ∀ j ∈ l, Rch E j) (h1 : (1 : Int) ∈ l) (hc : ∀ j ∈ l, ∀ k, E j k → k ∈ l) : l.mergeSort (fun x y => decide (x ≤ y)) = rchL e := by
  have hp : l.Perm (rchL e) := (List.perm_ext_iff_of_nodup hn ((rchL_lt e).imp fun h => Int.ne_of_lt h)).2 fun j => by
    rw [mem_rchL he hE]
    exact ⟨hr j, fun h => h (fun j => j ∈ l) h1 (fun i k hi e => hc i hi k e)⟩
  refine pair_le_eq ?_ ((rchL_lt e).imp fun h => Int.le_of_lt h) ((List.mergeSort_perm l _).trans hp)
  have := List.pairwise_mergeSort (le := fun x y : Int => decide (x ≤ y)) (fun a b c h1 h2 => by simp at *; omega) (fun a b => by simp; omega) l
  exact this.imp fun h => by simpa using h
theorem outL_rchL {E : Int → Int → Prop} {e : Int → Int → Bool} (he : ∀ i k, e i k = true ↔ E i k) (hE : InE E) {h : List Bool} (hs : Sound E h) (hf : Full E h) : outL h 8 = rchL e := by
  have q : all8 = (List.range 8).map fun i : Nat => (i : Int) + 1 := by decide
  unfold outL rchL
  rw [q, List.filter_map]
  congr 1
  apply List.filter_congr
  intro n hn
  have hn8 := List.mem_range.1 hn
  simp only [Function.comp]
  cases h1 : h.getD n false with
  | true =>
    have := (mem_rchL he hE).2 (hs.r n h1)
    exact (List.mem_filter.1 this).2.symm
  | false =>
    cases h2 : pK e 8 ((n : Int) + 1) with
    | false => rfl
    | true => rw [hf n (pK_sound he 8 _ h2)] at h1; cases h1
end Go.Proofs.YtljooldjcefkoaaGreat
/- Edges between inodes; a list that is made by a closure: what stays. No Go function is spoken of, but slices.Contains. -/
namespace Go.Proofs.YtljooldjcefkoaaGreat
open Go.RowKit Kit
/-- A name of directory i leads to k. -/
def edge (is : List Ino) (bs : List Blk) (i k : Int) : Prop := ∃ s ∈ named is bs i, s.2 = k ∧ ¬ kindAt is k = 0
/-- The same, by reckoning. -/
def edgeB (is : List Ino) (bs : List Blk) (i k : Int) : Bool := (named is bs i).any (fun s => decide (s.2 = k)) && decide (¬ kindAt is k = 0)
theorem edge_iff (is : List Ino) (bs : List Blk) (i k : Int) : edgeB is bs i k = true ↔ edge is bs i k := by
  unfold edgeB edge
  rw [Bool.and_eq_true, List.any_eq_true, decide_eq_true_eq]
  exact ⟨fun ⟨⟨s, h1, h2⟩, h3⟩ => ⟨s, h1, of_decide_eq_true h2, h3⟩, fun ⟨s, h1, h2, h3⟩ => ⟨⟨s, h1, decide_eq_true h2⟩, h3⟩⟩
theorem kindAt_in8 {is : List Ino} {bs : List Blk} (h : RD is bs) {k : Int} (hk : ¬ kindAt is k = 0) : 1 ≤ k ∧ k ≤ 8 := by
  cases hb : inB k 1 is.length with
  | false => exact absurd (kindAt_out hb) hk
  | true =>
    have := inB_true hb
    have := h.hi
    omega
theorem edge_in {is : List Ino} {bs : List Blk} (h : RD is bs) : InE (edge is bs) := fun _ _ ⟨_, _, _, hk⟩ => kindAt_in8 h hk
/-- What a list and a call make of it: more at its end, all reached, and of what came all that it leads to. -/
structure Dfs (E : Int → Int → Prop) (l l' : List Int) (i : Int) : Prop where
  pre : ∃ m, l' = l ++ m
  nd : l'.Nodup
  r : ∀ j ∈ l', Rch E j
  me : i ∈ l'
  cl : ∀ j ∈ l', j ∉ l → ∀ k, E j k → k ∈ l'
theorem Dfs.here {E : Int → Int → Prop} {l : List Int} {i : Int} (hn : l.Nodup) (hr : ∀ j ∈ l, Rch E j) (hi : i ∈ l) : Dfs E l l i := ⟨⟨[], by simp⟩, hn, hr, hi, fun _ h h' => absurd h h'⟩
/-- The loop over what i names: the first q are done. -/
structure DfsL (E : Int → Int → Prop) (l c : List Int) (i : Int) (ks : List Int) (q : Nat) : Prop where
  pre : ∃ m, c = l ++ [i] ++ m
  nd : c.Nodup
  r : ∀ j ∈ c, Rch E j
  cl : ∀ j ∈ c, j ∉ l ++ [i] → ∀ k, E j k → k ∈ c
  dn : ∀ k ∈ ks.take q, E i k → k ∈ c
theorem DfsL.begin {E : Int → Int → Prop} {l : List Int} {i : Int} (ks : List Int) (hn : l.Nodup) (hr : ∀ j ∈ l, Rch E j) (hi : Rch E i) (hni : i ∉ l) : DfsL E l (l ++ [i]) i ks 0 := by
  refine ⟨⟨[], by simp⟩, ?_, fun j hj => ?_, fun j h h' => absurd h h', fun k hk => by simp at hk⟩
  · rw [List.nodup_append]
    refine ⟨hn, by simp, fun a ha b hb => ?_⟩
    rw [List.mem_singleton] at hb
    intro e; subst e; subst hb; exact hni ha
  · rcases List.mem_append.1 hj with h | h
    · exact hr j h
    · rw [List.mem_singleton] at h; rw [h]; exact hi
theorem DfsL.skip {E : Int → Int → Prop} {l c : List Int} {i : Int} {ks : List Int} {q : Nat} (h : DfsL E l c i ks q) (hq : q < ks.length) (he : ¬ E i ks[q]) : DfsL E l c i ks (q + 1) :=
  ⟨h.pre, h.nd, h.r, h.cl, fun k hk hek => by
    rw [List.take_succ_eq_append_getElem hq, List.mem_append] at hk
    rcases hk with hk | hk
    · exact h.dn k hk hek
    · rw [List.mem_singleton] at hk; subst hk; exact absurd hek he⟩
theorem DfsL.call {E : Int → Int → Prop} {l c c' : List Int} {i : Int} {ks : List Int} {q : Nat} (h : DfsL E l c i ks q) (hq : q < ks.length) (d : Dfs E c c' ks[q]) : DfsL E l c' i ks (q + 1) := by
  obtain ⟨m, hm⟩ := h.pre
  obtain ⟨m', hm'⟩ := d.pre
  refine ⟨⟨m ++ m', by rw [hm', hm]; simp⟩, d.nd, d.r, fun j hj hn k hk => ?_, fun k hk hek => ?_⟩
  · by_cases e : j ∈ c
    · rw [hm']; exact List.mem_append_left _ (h.cl j e hn k hk)
    · exact d.cl j hj e k hk
  · rw [List.take_succ_eq_append_getElem hq, List.mem_append] at hk
    rcases hk with hk | hk
    · rw [hm']; exact List.mem_append_left _ (h.dn k hk hek)
    · rw [List.mem_singleton] at hk; subst hk; exact d.me
theorem DfsL.done {E : Int → Int → Prop} {l c : List Int} {i : Int} {ks : List Int} {q : Nat} (h : DfsL E l c i ks q) (hq : ks.length ≤ q) (hk : ∀ k, E i k → k ∈ ks) : Dfs E l c i := by
  obtain ⟨m, hm⟩ := h.pre
  refine ⟨⟨[i] ++ m, by rw [hm]; simp⟩, h.nd, h.r, by rw [hm]; simp, fun j hj hn k hek => ?_⟩
  by_cases e : j = i
  · subst e
    exact h.dn k (by rw [List.take_of_length_le hq]; exact hk k hek) hek
  · exact h.cl j hj (by simp [hn, e]) k hek
theorem DfsL.len {E : Int → Int → Prop} (hE : InE E) {l c : List Int} {i : Int} {ks : List Int} {q : Nat} (h : DfsL E l c i ks q) : l.length + 1 ≤ c.length ∧ c.length ≤ 8 := by
  obtain ⟨m, hm⟩ := h.pre
  refine ⟨by rw [hm]; simp, nodup8 h.nd fun j hj => (h.r j hj).range hE⟩
/-- Of old only the list's variable and the list's own block change; the new list lies in the old one's block or in new memory. -/
structure Lv (w w' : World) (lk : Nat) (lv lv' : Value) : Prop where
  c : Chg (fun k => k = lk ∨ lv.ownBlock = some k) w w'
  o : ∀ k, lv'.ownBlock = some k → lv.ownBlock = some k ∨ w.heap.size ≤ k
theorem Lv.refl (w : World) (lk : Nat) (lv : Value) : Lv w w lk lv lv := ⟨Chg.refl _ _, fun _ h => .inl h⟩
theorem Lv.trans {a b c : World} {lk : Nat} {x y z : Value} (h : Lv a b lk x y) (h' : Lv b c lk y z) : Lv a c lk x z := by
  refine ⟨⟨h'.c.os.trans h.c.os, h'.c.tape.trans h.c.tape, h'.c.output.trans h.c.output, Nat.le_trans h.c.size h'.c.size, fun k hk hn => ?_⟩, fun k hk => ?_⟩
  · refine (h'.c.block k (Nat.lt_of_lt_of_le hk h.c.size) fun e => ?_).trans (h.c.block k hk hn)
    rcases e with e | e
    · exact hn (.inl e)
    · rcases h.o k e with e | e
      · exact hn (.inr e)
      · omega
  · rcases h'.o k hk with e | e
    · exact h.o k e
    · exact .inr (Nat.le_trans h.c.size e)
theorem Lv.below {a b c : World} {lk : Nat} {x y : Value} (h : Lv a b lk x y) (hb : Below b.heap.size b c) : Lv a c lk x y := h.trans ⟨Chg.of_below hb, fun _ e => .inl e⟩
/-- What the closure has in sight. -/
structure Cx (w0 : World) (B dk lk gq : Nat) (D F : Array Value) (w : World) (lv : Value) (ol : List Int) : Prop where
  b : Below w0.heap.size w0 w
  d : AtC w dk 35 D
  f : AtC w gq 109 F
  l : AtC w lk 42 #[lv]
  o : ROwns w B 3 lv (ic ol)
/-- How these lie. -/
structure Pl (w0 : World) (B dk lk gq : Nat) : Prop where
  d : dk < B
  l : lk < B
  f : gq < B
  dl : dk ≠ lk
  fl : gq ≠ lk
  l0 : w0.heap.size ≤ lk
theorem Cx.below {w0 w w' : World} {B dk lk gq : Nat} {D F : Array Value} {lv : Value} {ol : List Int} (h : Cx w0 B dk lk gq D F w lv ol) (hb : Below w.heap.size w w') : Cx w0 B dk lk gq D F w' lv ol :=
  ⟨h.b.trans (hb.mono h.b.size), h.d.over hb, h.f.over hb, h.l.over hb, h.o.below hb (Nat.le_refl _)⟩
theorem Cx.lv {w0 w w' : World} {B dk lk gq : Nat} {D F : Array Value} {lv lv' : Value} {ol ol' : List Int} (h : Cx w0 B dk lk gq D F w lv ol) (P : Pl w0 B dk lk gq) (hv : Lv w w' lk lv lv') (hl : AtC w' lk 42 #[lv']) (ho : ROwns w' B 3 lv' (ic ol')) : Cx w0 B dk lk gq D F w' lv' ol' := by
  have hB : ∀ k, lv.ownBlock = some k → B ≤ k := fun k hk => (h.o.lt k hk).1
  have hd := P.d
  have hf := P.f
  have hl1 := P.l
  have hl0 := P.l0
  refine ⟨h.b.trans (hv.c.below h.b.size (fun k hk => ?_)), (hv.c.block dk h.d.lt fun e => ?_).trans h.d, (hv.c.block gq h.f.lt fun e => ?_).trans h.f, hl, ho⟩
  · rcases hk with e | e
    · omega
    · have := hB k e; omega
  · rcases e with e | e
    · exact P.dl e
    · have := hB _ e; omega
  · rcases e with e | e
    · exact P.fl e
    · have := hB _ e; omega
theorem Cx.app {w0 w W w9 : World} {B dk lk gq : Nat} {D F : Array Value} {lv v9 : Value} {ol new : List Int} (h : Cx w0 B dk lk gq D F w lv ol) (P : Pl w0 B dk lk gq) (hb : Below w.heap.size w W) (h9 : ROwns w9 B 3 v9 (ic new)) (G9 : W.grownBy w9 lv.ownBlock) (V9 : ∀ k, v9.ownBlock = some k → lv.ownBlock = some k ∨ W.heap.size ≤ k) :
    AtC w9 lk 42 #[lv] ∧ Lv w (w9.setCell ⟨lk, 0, none⟩ v9) lk lv v9 ∧ Cx w0 B dk lk gq D F (w9.setCell ⟨lk, 0, none⟩ v9) v9 new ∧ AtC w9 dk 35 D := by
  have hl1 := P.l
  have hW := h.below hb
  have A9 : AtC w9 lk 42 #[lv] := hW.l.grown G9 (fun e => by have := (hW.o.lt lk e).1; omega)
  have L9 : Lv W (w9.setCell ⟨lk, 0, none⟩ v9) lk lv v9 := ⟨(Chg.of_grown G9 (fun k hk => .inr hk)).setCell (.inl rfl) _, V9⟩
  have O9 : ROwns (w9.setCell ⟨lk, 0, none⟩ v9) B 3 v9 (ic new) := h9.of_heap fun k hk => heap_setCell_other w9 ⟨lk, 0, none⟩ k _ (by have := (h9.lt k hk).1; show k ≠ lk; omega)
  have hd := P.d
  exact ⟨A9, ((Lv.refl w lk lv).below hb).trans L9, hW.lv P L9 (A9.set 0 v9) O9, hW.d.grown G9 (fun e => by have := (hW.o.lt dk e).1; omega)⟩
theorem hasL_any (v : Value) (xs : List Int) (x : Int) (w : World) (h : RInts w v xs) (hl : xs.length ≤ 1000000) :
    Calls Tryz.prog 79 #[v, .int .i64 x] w fun e w' => e = .returned (.bool (xs.contains x)) ∧ w' = w := by
  obtain ⟨a, cap, rfl, hc⟩ := h
  cases xs with
  | nil => exact Tryz.slices_Contains_int_empty a cap x w
  | cons y r =>
    obtain ⟨g, off, rfl, -, -⟩ := hc 0 (by simp)
    have := Tryz.slices_Contains_int g off (y :: r).length cap (y :: r) x w (Nat.le_refl _) (by omega) (fun j hj => by
      obtain ⟨g', off', e, -, hcell⟩ := hc j hj
      simp only [Option.some.injEq, Addr.mk.injEq, and_true] at e
      obtain ⟨rfl, rfl⟩ := e
      rw [hcell, List.getD_eq_getElem?_getD, List.getElem?_eq_getElem hj]
      rfl)
    rw [List.take_length] at this
    exact this
end Go.Proofs.YtljooldjcefkoaaGreat
/- The closure of impl.Reached by its contract. -/
namespace Go.Proofs.YtljooldjcefkoaaGreat
open Go.RowKit Kit
set_option maxRecDepth 100000 in
set_option maxHeartbeats 6400000 in
theorem reach_any (a1 a2 a3 a4 : Option Addr) (c1 c2 c3 c4 : Nat) (xs ys : List Bool) (is : List Ino) (bs : List Blk) (hR : RD is bs) (w0 : World) (h0 : DR w0 (.slice a1 xs.length c1) (.slice a2 ys.length c2) (.slice a3 is.length c3) (.slice a4 bs.length c4) xs ys is bs) (B dk lk gq : Nat) (hP : Pl w0 B dk lk gq) : ∀ (n : Nat) (i : Int) (l : List Int) (lv : Value) (w : World), 8 ≤ l.length + n → l.Nodup → (∀ j ∈ l, Rch (edge is bs) j) → Rch (edge is bs) i → Cx w0 B dk lk gq #[.slice a1 xs.length c1, .slice a2 ys.length c2, .slice a3 is.length c3, .slice a4 bs.length c4] #[.func (.func 90) #[] #[.pointer (some ⟨lk, 0, none⟩), .pointer (some ⟨dk, 0, none⟩), .pointer (some ⟨gq, 0, none⟩)]] w lv l → B ≤ w.heap.size →
    Calls Tryz.prog 90 #[.int .i64 i, .pointer (some ⟨lk, 0, none⟩), .pointer (some ⟨dk, 0, none⟩), .pointer (some ⟨gq, 0, none⟩)] w fun e w' => e = .returned (.tuple #[]) ∧ ∃ l' lv', Dfs (edge is bs) l l' i ∧ Lv w w' lk lv lv' ∧ Cx w0 B dk lk gq #[.slice a1 xs.length c1, .slice a2 ys.length c2, .slice a3 is.length c3, .slice a4 bs.length c4] #[.func (.func 90) #[] #[.pointer (some ⟨lk, 0, none⟩), .pointer (some ⟨dk, 0, none⟩), .pointer (some ⟨gq, 0, none⟩)]] w' lv' l' := by
  have HE := hide (edge_in hR)
  intro n
  induction n with
  | zero =>
    intro i l lv w hn hnd hr hi hc hB
    have hil : i ∈ l := by
      by_cases e : i ∈ l
      · exact e
      · exact absurd ((DfsL.begin [] hnd hr hi e).len HE.out).2 (by rw [List.length_append]; simp; omega)
    have hlen := nodup8 hnd fun j hj => (hr j hj).range HE.out
    have CH := hide (hasL_any lv l i w hc.o.rints (by omega))
    have hct : l.contains i = true := by simpa using hil
    rw [hct] at CH
    have p0 : w.cell? ⟨lk, 0, none⟩ = some lv := hc.l.cell 0
    have HC := hide hc
    have HF := hide (Dfs.here hnd hr hil)
    clear hct hil hr hi hnd hn hR h0 hP
    obtain ⟨la, lc, rfl, -⟩ := hc.o.form
    clear hc
    go_enter Tryz.func90, Tryz.ntmps90
    go_wp2_with fail
    refine CH.out.mono ?_
    rintro e w1 ⟨rfl, rfl⟩
    go_wp2
    refine bodyPost_ret (v := .tuple #[]) (by simp [results, go_sem]) rfl ⟨rfl, l, _, HF.out, Lv.refl _ _ _, HC.out⟩
  | succ n ih =>
    intro i l lv w hn hnd hr hi hc hB
    have hlen := nodup8 hnd fun j hj => (hr j hj).range HE.out
    have CH := hide (hasL_any lv l i w hc.o.rints (by omega))
    have p0 : w.cell? ⟨lk, 0, none⟩ = some lv := hc.l.cell 0
    have HC := hide hc
    by_cases hil : i ∈ l
    · have hct : l.contains i = true := by simpa using hil
      rw [hct] at CH
      have HF := hide (Dfs.here hnd hr hil)
      clear hct hil hr hi hnd hn hR h0 hP ih
      obtain ⟨la, lc, rfl, -⟩ := hc.o.form
      clear hc
      go_enter Tryz.func90, Tryz.ntmps90
      go_wp2_with fail
      refine CH.out.mono ?_
      rintro e w1 ⟨rfl, rfl⟩
      go_wp2
      refine bodyPost_ret (v := .tuple #[]) (by simp [results, go_sem]) rfl ⟨rfl, l, _, HF.out, Lv.refl _ _ _, HC.out⟩
    have hct : l.contains i = false := by simpa using hil
    rw [hct] at CH
    have HF0 := hide (DfsL.begin ((named is bs i).map (·.2)) hnd hr hi hil)
    have HND : Hid (∀ (W : World), DR W (.slice a1 xs.length c1) (.slice a2 ys.length c2) (.slice a3 is.length c3) (.slice a4 bs.length c4) xs ys is bs → Calls Tryz.prog 88 #[.agg #[.slice a1 xs.length c1, .slice a2 ys.length c2, .slice a3 is.length c3, .slice a4 bs.length c4], .int .i64 i] W fun e w' => ∃ v, e = .returned v ∧ SOwns w' W.heap.size 77 v (named is bs i) ∧ Below W.heap.size W w') := fun W hd => namedI_any i (.slice a1 xs.length c1) (.slice a2 ys.length c2) (.slice a3 is.length c3) (.slice a4 bs.length c4) xs ys is bs W hd hR
    have HNK : Hid (∀ (io : Int) (W : World), DR W (.slice a1 xs.length c1) (.slice a2 ys.length c2) (.slice a3 is.length c3) (.slice a4 bs.length c4) xs ys is bs → Calls Tryz.prog 91 #[.agg #[.slice a1 xs.length c1, .slice a2 ys.length c2, .slice a3 is.length c3, .slice a4 bs.length c4], .int .i64 io] W fun e w' => e = .returned (.bool (decide (¬ kindAt is io = 0))) ∧ Below W.heap.size W w') := fun io W hd => isNode_any io (.slice a1 xs.length c1) (.slice a2 ys.length c2) (.slice a3 is.length c3) (.slice a4 bs.length c4) xs ys is bs W hd hR
    have HEN : Hid (∀ k, edge is bs i k → k ∈ (named is bs i).map (·.2)) := fun k ⟨s, hs, e, _⟩ => by rw [← e]; exact List.mem_map_of_mem hs
    have HRI := hide hi
    have HN8 : Hid ((named is bs i).length ≤ 8) := hR.named8 i
    have H0 := hide h0
    have HP := hide hP
    have HLL : Hid (l.length ≤ 8) := hlen
    have HBW : Hid (B ≤ w.heap.size) := hB
    have HN : Hid (8 ≤ l.length + (n + 1)) := hn
    have IH := hide ih
    obtain ⟨la, lc, rfl, -⟩ := hc.o.form
    have HOC := hide (And.intro hc.o (And.intro hB (And.intro hP.l hc.l.lt)))
    clear hc hct hil hr hi hnd hn hR h0 hP ih hlen hB
    obtain ⟨m, hm⟩ : ∃ m, (ic l).length = m := ⟨_, rfl⟩
    rw [hm] at CH p0 HC HOC ⊢
    have HM := hide hm
    clear hm
    go_enter Tryz.func90, Tryz.ntmps90
    go_wp2_with fail
    refine CH.out.mono ?_
    rintro e w1 ⟨rfl, rfl⟩
    clear CH
    have HAL : Hid (Below w1.heap.size w1 (w1.alloc (.cells #[.int .i64 i] 3)) ∧ ROwns (w1.alloc (.cells #[.int .i64 i] 3)) B 3 (.slice la m lc) (ic l) ∧ (w1.alloc (.cells #[.int .i64 i] 3)).cell? ⟨w1.heap.size, 0, none⟩ = some (.int .i64 i) ∧ B ≤ (w1.alloc (.cells #[.int .i64 i] 3)).heap.size) := ⟨(Below.refl _ w1).alloc (Nat.le_refl _) _, HOC.out.1.alloc _, (AtC.new w1 3 #[.int .i64 i]).cell 0, by have := HOC.out.2.1; simp; omega⟩
    have hdl : ¬ dk = lk := HP.out.dl
    have hdl2 : ¬ lk = dk := fun e => HP.out.dl e.symm
    go_wp2_with (at_builtin; refine wpList_step fun K' hK' => ?_; refine step_append_one _ rfl (.tmp 10) (.tmp 12) 42 rfl B 3 Tryz.u42 _ 8 Tryz.i3 rfl (by decide) (.slice la m lc) (ic l) rfl HAL.out.2.1 HAL.out.2.2.2 w1.heap.size (.int .i64 i) rfl HAL.out.2.2.1 rfl (by rw [ic_length]; have := HLL.out; omega) ?_; intro v9 w9 T9 G9 V9; obtain ⟨la9, lc9, rfl, -⟩ := T9.form; obtain ⟨m9, hm9⟩ : ∃ k, (ic l ++ [Value.int .i64 i]).length = k := ⟨_, rfl⟩; rw [hm9] at T9 V9 ⊢; refine hK' _ _ ?_; clear hm9; have HR9 := hide (HC.out.app (new := l ++ [i]) HP.out HAL.out.1 (by simpa [ic] using T9) G9 V9); clear T9 G9 V9 hK'; have f9 := HR9.out.1.frozen 0; have l9 := HR9.out.1.lt; have k9 : w9.cell? ⟨lk, 0, none⟩ = some (.slice la m lc) := HR9.out.1.cell 0; have z0 : w9.cell? ⟨dk, 0, none⟩ = some (.slice a1 xs.length c1) := HR9.out.2.2.2.cell 0; have z1 : w9.cell? ⟨dk, 1, none⟩ = some (.slice a2 ys.length c2) := HR9.out.2.2.2.cell 1; have z2 : w9.cell? ⟨dk, 2, none⟩ = some (.slice a3 is.length c3) := HR9.out.2.2.2.cell 2; have z3 : w9.cell? ⟨dk, 3, none⟩ = some (.slice a4 bs.length c4) := HR9.out.2.2.2.cell 3)
    obtain ⟨W9, hW9⟩ : ∃ W, w9.setCell ⟨lk, 0, none⟩ (.slice la9 m9 lc9) = W := ⟨_, rfl⟩
    rw [hW9] at HR9 ⊢
    have HX9 := hide (And.intro HR9.out.2.1 HR9.out.2.2.1)
    clear hW9 HR9 f9 l9 k9 z0 z1 z2 z3 HAL p0 HC HOC
    refine (HND.out _ (H0.out.below HX9.out.2.b (Nat.le_refl _))).mono ?_
    rintro e w2 ⟨sv, rfl, S2, B2⟩
    obtain ⟨sa, sc', rfl, -⟩ := S2.form
    have HX2 := hide (And.intro (HX9.out.1.below B2) (HX9.out.2.below B2))
    have HS2 : Hid (∀ wr cv, Lv w2 wr lk (.slice la9 m9 lc9) cv → SOwns wr W9.heap.size 77 (.slice sa (named is bs i).length sc') (named is bs i)) := fun wr cv hv => S2.of_heap fun k hk => hv.c.block k (S2.lt k hk).2 fun e => by
      have h1 := (S2.lt k hk).1
      have h2 := HP.out.l
      have h3 := HX9.out.2.l.lt
      rcases e with e | e
      · omega
      · have := (HX9.out.2.o.lt k e).2; omega
    obtain ⟨NS, hNS⟩ : ∃ X, named is bs i = X := ⟨_, rfl⟩
    rw [hNS] at HS2 HEN HF0 HN8 ⊢
    have HNS := hide hNS
    clear B2 S2 HX9 HND hNS
    go_wp2_with fail
    go_loopw [18] (fun kv wr => ∃ (q : Nat) (c : List Int) (cv : Value), q ≤ NS.length ∧ kv = .int .i64 q ∧ Hid (DfsL (edge is bs) l c i (NS.map (·.2)) q ∧ Lv w2 wr lk (.slice la9 m9 lc9) cv ∧ Cx w0 B dk lk gq #[.slice a1 xs.length c1, .slice a2 ys.length c2, .slice a3 is.length c3, .slice a4 bs.length c4] #[.func (.func 90) #[] #[.pointer (some ⟨lk, 0, none⟩), .pointer (some ⟨dk, 0, none⟩), .pointer (some ⟨gq, 0, none⟩)]] wr cv c)) (fun kv _ => NS.length - (intOf kv).toNat)
    case atStart => exact ⟨0, _, _, Nat.zero_le _, rfl, HF0.out, Lv.refl _ _ _, HX2.out.2⟩
    case round =>
      obtain ⟨q, c, cv, hq, rfl, HL⟩ := hrel
      have q0 : (0 : Int) ≤ (q : Int) := by omega
      by_cases hlt : q < NS.length
      rotate_left
      · have q1 : ¬ ((q : Int) < (NS.length : Int)) := by omega
        go_wp2
        go_end0
        exact ⟨rfl, c, HL.out.1.done (by rw [List.length_map]; omega) HEN.out, cv, HX2.out.1.trans HL.out.2.1, HL.out.2.2⟩
      have q1 : (q : Int) < (NS.length : Int) := by omega
      have q8 : NS.length ≤ 8 := HN8.out
      obtain ⟨gs, cs, es, ks0, ks1, -, -, hgs, -⟩ := (HS2.out wr cv HL.out.2.1).at q hlt
      simp only [Value.slice.injEq, true_and] at es
      obtain ⟨rfl, rfl⟩ := es
      obtain ⟨⟨sn, si⟩, hsn⟩ : ∃ X, NS[q] = X := ⟨_, rfl⟩
      have hsi : (NS.map (·.2))[q]'(by rw [List.length_map]; exact hlt) = si := by rw [List.getElem_map, hsn]
      rw [hsn] at ks0 ks1
      simp only at ks0 ks1
      have hgw : ¬ gs = wr.heap.size := by omega
      have hdw : ¬ dk = wr.heap.size := by have := HL.out.2.2.d.lt; omega
      have hfw : ¬ gq = wr.heap.size := by have := HL.out.2.2.f.lt; omega
      have HL2 : Hid (DfsL (edge is bs) l c i (NS.map (·.2)) q ∧ Lv w2 (wr.alloc (.cells #[.string sn, .int .i64 si] 77)) lk (.slice la9 m9 lc9) cv ∧ Cx w0 B dk lk gq #[.slice a1 xs.length c1, .slice a2 ys.length c2, .slice a3 is.length c3, .slice a4 bs.length c4] #[.func (.func 90) #[] #[.pointer (some ⟨lk, 0, none⟩), .pointer (some ⟨dk, 0, none⟩), .pointer (some ⟨gq, 0, none⟩)]] (wr.alloc (.cells #[.string sn, .int .i64 si] 77)) cv c) := by
        have b := (Below.refl _ wr).alloc (Nat.le_refl _) (.cells #[.string sn, .int .i64 si] 77)
        exact ⟨HL.out.1, HL.out.2.1.below b, HL.out.2.2.below b⟩
      have hbox : AtC (wr.alloc (.cells #[.string sn, .int .i64 si] 77)) wr.heap.size 77 #[.string sn, .int .i64 si] := AtC.new _ _ _
      have HBX := hide hbox
      have z0 : (wr.alloc (.cells #[.string sn, .int .i64 si] 77)).cell? ⟨dk, 0, none⟩ = some (.slice a1 xs.length c1) := HL2.out.2.2.d.cell 0
      have z1 : (wr.alloc (.cells #[.string sn, .int .i64 si] 77)).cell? ⟨dk, 1, none⟩ = some (.slice a2 ys.length c2) := HL2.out.2.2.d.cell 1
      have z2 : (wr.alloc (.cells #[.string sn, .int .i64 si] 77)).cell? ⟨dk, 2, none⟩ = some (.slice a3 is.length c3) := HL2.out.2.2.d.cell 2
      have z3 : (wr.alloc (.cells #[.string sn, .int .i64 si] 77)).cell? ⟨dk, 3, none⟩ = some (.slice a4 bs.length c4) := HL2.out.2.2.d.cell 3
      have CN := hide (HNK.out si (wr.alloc (.cells #[.string sn, .int .i64 si] 77)) (H0.out.below HL2.out.2.2.b (Nat.le_refl _)))
      have hSN : ∃ s ∈ named is bs i, s.2 = si := ⟨NS[q], by rw [HNS.out]; exact List.getElem_mem hlt, by rw [hsn]⟩
      have HSN := hide hSN
      clear hSN hbox hsn HL HF0
      go_wp2_with fail
      refine CN.out.mono ?_
      rintro e w3 ⟨rfl, B3⟩
      have HL3 := hide (And.intro HL2.out.1 (And.intro (HL2.out.2.1.below B3) (HL2.out.2.2.below B3)))
      have p1 : w3.cell? ⟨wr.heap.size, 1, none⟩ = some (.int .i64 si) := (HBX.out.over B3).cell 1
      have g3 : w3.cell? ⟨gq, 0, none⟩ = some (.func (.func 90) #[] #[.pointer (some ⟨lk, 0, none⟩), .pointer (some ⟨dk, 0, none⟩), .pointer (some ⟨gq, 0, none⟩)]) := HL3.out.2.2.f.cell 0
      clear B3 HL2 ks0 ks1 z0 z1 z2 z3 CN HBX
      by_cases hk0 : kindAt is si = 0
      · have hd : decide (¬ kindAt is si = 0) = false := by simp [hk0]
        rw [hd]
        have HS := hide (HL3.out.1.skip (by rw [List.length_map]; exact hlt) (by rw [hsi]; exact fun ⟨_, _, _, h⟩ => h hk0))
        clear hd hk0 p1 g3
        go_wp2
        go_roundw
        case rel => exact ⟨q + 1, c, cv, by omega, by go_num, HS.out, HL3.out.2⟩
        case measure => simp [intOf]; omega
      have hd : decide (¬ kindAt is si = 0) = true := by simp [hk0]
      rw [hd]
      have hed : edge is bs i si := by
        obtain ⟨s, h1, h2⟩ := HSN.out
        exact ⟨s, h1, h2, hk0⟩
      have hlen := HL3.out.1.len HE.out
      have hsz : B ≤ w3.heap.size := Nat.le_trans HBW.out (Nat.le_trans HX2.out.1.c.size HL3.out.2.1.c.size)
      have CI := hide (IH.out si c cv w3 (by have := HN.out; omega) HL3.out.1.nd HL3.out.1.r (HRI.out.step hed) HL3.out.2.2 hsz)
      clear hd hk0 hed hlen hsz
      go_wp2_with fail
      refine CI.out.mono ?_
      rintro e w4 ⟨rfl, l4, lv4, D4, L4, X4⟩
      have HS : Hid (DfsL (edge is bs) l l4 i (NS.map (·.2)) (q + 1)) := HL3.out.1.call (by rw [List.length_map]; exact hlt) (by rw [hsi]; exact D4)
      have HL4 := hide (And.intro (HL3.out.2.1.trans L4) X4)
      clear D4 L4 X4 CI p1 g3
      go_wp2
      go_roundw
      case rel => exact ⟨q + 1, l4, lv4, by omega, by go_num, HS.out, HL4.out⟩
      case measure => simp [intOf]; omega
end Go.Proofs.YtljooldjcefkoaaGreat
/- impl.Reached by its contract. -/
namespace Go.Proofs.YtljooldjcefkoaaGreat
open Go.RowKit Kit
/-- All inodes of a disk that are reached, ascending. -/
def reachL (is : List Ino) (bs : List Blk) : List Int := rchL (edgeB is bs)
theorem sortL_any (v : Value) (xs : List Int) (base : Nat) (w : World) (h : ROwns w base 3 v (ic xs)) (hl : xs.length ≤ 1000000) :
    Calls Tryz.prog 92 #[v] w fun e w' => e = .returned (.tuple #[]) ∧ ROwns w' base 3 v (ic (xs.mergeSort fun x y => decide (x ≤ y))) ∧ w.grownBy w' v.ownBlock := by
  have hm : (xs.mergeSort fun x y => decide (x ≤ y)).length = xs.length := List.length_mergeSort _
  rcases h.2 with ⟨rfl, h0⟩ | ⟨g, cap, cur, rfl, h2, h3, h4, h5, h6, h7⟩
  · have e : xs = [] := List.length_eq_zero_iff.1 (by rw [← ic_length]; exact h0)
    subst e
    refine (Tryz.slices_Sort_int_none none 0 w).mono ?_
    rintro e w' ⟨rfl, rfl⟩
    exact ⟨rfl, by simpa [ic] using ROwns.nil w' base 3, ⟨rfl, rfl, rfl, Nat.le_refl _, fun _ _ _ => rfl⟩⟩
  · rw [ic_length] at h4 h7 ⊢
    have hH : Go.Sort.Holds (Value.int .i64) w g 0 xs.toArray := Go.holds_of_blockI h3 (by rw [Nat.mul_one] at h7; exact h7)
    have hg : g < w.heap.size := (Array.getElem?_eq_some_iff.1 h3).1
    refine (Tryz.slices_Sort_int g 0 cap xs w hH hg (by omega)).mono ?_
    rintro e w' ⟨rfl, n, os, rfl⟩
    refine ⟨rfl, ?_, Go.grownBy_sortedI _⟩
    have := Go.ownsRow_sortedI (n := n) (os := os) (ts := xs.mergeSort fun x y => decide (x ≤ y)) (ss := xs) hm h2 h3 h4 h5 h6
    unfold ROwns
    rw [ic_length, hm]
    exact this
set_option maxRecDepth 100000 in
set_option maxHeartbeats 3200000 in
theorem implReach_any (dx dy iv bv : Value) (xs ys : List Bool) (is : List Ino) (bs : List Blk) (w : World) (h : DR w dx dy iv bv xs ys is bs) (hR : RD is bs) :
    Calls Tryz.prog 69 #[.agg #[dx, dy, iv, bv]] w fun e w' => ∃ v, e = .returned v ∧ ROwns w' w.heap.size 3 v (ic (reachL is bs)) ∧ Below w.heap.size w w' := by
  obtain ⟨a1, c1, a2, c2, a3, c3, a4, c4, rfl, rfl, rfl, rfl⟩ := h.form
  have hmf : ∀ (fn : Fn) (first cap : Array Value) (w : World), (Instr.makeFunc fn first cap).run Tryz.prog w = .ok (.func fn first cap) w := fun _ _ _ _ => rfl
  have h8 := hR.hi
  have CH := hide (fun W => hasI_any 1 (.slice a1 xs.length c1) (.slice a2 ys.length c2) (.slice a4 bs.length c4) a3 c3 W)
  rw [show inB 1 1 8 = true from rfl, ← h8] at CH
  obtain ⟨W, hW⟩ : ∃ W, ((w.alloc (.cells #[.slice a1 xs.length c1, .slice a2 ys.length c2, .slice a3 is.length c3, .slice a4 bs.length c4] 35)).alloc (.cells #[.slice none 0 0] 42)).alloc (.cells #[(.func (.func 90) #[] #[.pointer (some ⟨w.heap.size + 1, 0, none⟩), .pointer (some ⟨w.heap.size, 0, none⟩), .pointer (some ⟨w.heap.size + 1 + 1, 0, none⟩)])] 109) = W := ⟨_, rfl⟩
  have hP : Pl w W.heap.size w.heap.size (w.heap.size + 1) (w.heap.size + 1 + 1) := by
    have : W.heap.size = w.heap.size + 3 := by rw [← hW]; simp
    exact ⟨by omega, by omega, by omega, by omega, by omega, by omega⟩
  have hX : Cx w W.heap.size w.heap.size (w.heap.size + 1) (w.heap.size + 1 + 1) #[.slice a1 xs.length c1, .slice a2 ys.length c2, .slice a3 is.length c3, .slice a4 bs.length c4] #[(.func (.func 90) #[] #[.pointer (some ⟨w.heap.size + 1, 0, none⟩), .pointer (some ⟨w.heap.size, 0, none⟩), .pointer (some ⟨w.heap.size + 1 + 1, 0, none⟩)])] W (.slice none 0 0) [] := by
    rw [← hW]
    have a := AtC.new (w.alloc (.cells #[.slice a1 xs.length c1, .slice a2 ys.length c2, .slice a3 is.length c3, .slice a4 bs.length c4] 35)) 42 #[.slice none 0 0]
    have b := AtC.new ((w.alloc (.cells #[.slice a1 xs.length c1, .slice a2 ys.length c2, .slice a3 is.length c3, .slice a4 bs.length c4] 35)).alloc (.cells #[.slice none 0 0] 42)) 109 #[(.func (.func 90) #[] #[.pointer (some ⟨w.heap.size + 1, 0, none⟩), .pointer (some ⟨w.heap.size, 0, none⟩), .pointer (some ⟨w.heap.size + 1 + 1, 0, none⟩)])]
    rw [World.size_alloc] at a
    rw [World.size_alloc, World.size_alloc] at b
    exact ⟨(((Below.refl _ w).alloc (Nat.le_refl _) _).alloc (by simp) _).alloc (by simp; omega) _, ((AtC.new w 35 _).alloc _).alloc _, b, a.alloc _, ROwns.nil _ _ _⟩
  have CR : Hid (∀ W', Below W.heap.size W W' → Calls Tryz.prog 90 #[.int .i64 1, .pointer (some ⟨w.heap.size + 1, 0, none⟩), .pointer (some ⟨w.heap.size, 0, none⟩), .pointer (some ⟨w.heap.size + 1 + 1, 0, none⟩)] W' fun e w' => e = .returned (.tuple #[]) ∧ ∃ l' lv', Dfs (edge is bs) [] l' 1 ∧ Lv W' w' (w.heap.size + 1) (.slice none 0 0) lv' ∧ Cx w W.heap.size w.heap.size (w.heap.size + 1) (w.heap.size + 1 + 1) #[.slice a1 xs.length c1, .slice a2 ys.length c2, .slice a3 is.length c3, .slice a4 bs.length c4] #[(.func (.func 90) #[] #[.pointer (some ⟨w.heap.size + 1, 0, none⟩), .pointer (some ⟨w.heap.size, 0, none⟩), .pointer (some ⟨w.heap.size + 1 + 1, 0, none⟩)])] w' lv' l') := fun W' hb =>
    reach_any a1 a2 a3 a4 c1 c2 c3 c4 xs ys is bs hR w h W.heap.size w.heap.size (w.heap.size + 1) (w.heap.size + 1 + 1) hP 8 1 [] _ W' (by simp) (by simp) (by simp) (Rch.root _) (hX.below hb) hb.size
  have HX := hide hX
  have HE := hide (edge_in hR)
  have HP := hide hP
  have z0 : W.cell? ⟨w.heap.size, 0, none⟩ = some (.slice a1 xs.length c1) := hX.d.cell 0
  have z1 : W.cell? ⟨w.heap.size, 1, none⟩ = some (.slice a2 ys.length c2) := hX.d.cell 1
  have z2 : W.cell? ⟨w.heap.size, 2, none⟩ = some (.slice a3 is.length c3) := hX.d.cell 2
  have z3 : W.cell? ⟨w.heap.size, 3, none⟩ = some (.slice a4 bs.length c4) := hX.d.cell 3
  have HG0 : Hid (∀ W', Below W.heap.size W W' → W'.cell? ⟨w.heap.size + 1 + 1, 0, none⟩ = some (.func (.func 90) #[] #[.pointer (some ⟨w.heap.size + 1, 0, none⟩), .pointer (some ⟨w.heap.size, 0, none⟩), .pointer (some ⟨w.heap.size + 1 + 1, 0, none⟩)])) := fun W' b => (hX.f.over b).cell 0
  clear h hR hX hP h8
  go_enter Tryz.func69, Tryz.ntmps69
  go_upto_region 4 with fail

  clear hW
  go_wp2_with fail
  refine (CH.out _).mono ?_
  rintro e w1 ⟨rfl, rfl⟩
  have HBA : Hid (Below W.heap.size W (W.alloc (.cells #[.slice a1 xs.length c1, .slice a2 ys.length c2, .slice a3 is.length c3, .slice a4 bs.length c4] 35))) := (Below.refl _ W).alloc (Nat.le_refl _) _
  have g0 := HG0.out _ HBA.out
  have CR1 := hide (CR.out _ HBA.out)
  clear CH CR HG0
  go_wp2_with fail
  refine CR1.out.mono ?_
  rintro e w2 ⟨rfl, l2, lv2, D2, L2, X2⟩
  have hl8 := nodup8 D2.nd fun j hj => (D2.r j hj).range HE.out
  have CS := hide (sortL_any lv2 l2 W.heap.size w2 X2.o (by omega))
  rw [sort_rchL (edge_iff is bs) HE.out D2.nd D2.r D2.me (fun j hj k hk => D2.cl j hj (by simp) k hk)] at CS
  have HX2 := hide X2
  obtain ⟨la, lc, rfl, -⟩ := X2.o.form
  have k0 : w2.cell? ⟨w.heap.size + 1, 0, none⟩ = some (.slice la (ic l2).length lc) := X2.l.cell 0
  obtain ⟨m, hm⟩ : ∃ m, (ic l2).length = m := ⟨_, rfl⟩
  rw [hm] at CS HX2 k0
  clear D2 L2 X2 CR1 g0 hm hl8 z0 z1 z2 z3
  go_wp2_with fail
  refine CS.out.mono ?_
  rintro e w3 ⟨rfl, R3, G3⟩
  have A3 : AtC w3 (w.heap.size + 1) 42 #[.slice la m lc] := HX2.out.l.grown G3 (fun e => by have := (HX2.out.o.lt _ e).1; have := HP.out.l; omega)
  have k3 : w3.cell? ⟨w.heap.size + 1, 0, none⟩ = some (.slice la m lc) := A3.cell 0
  have HF : Hid (ROwns w3 w.heap.size 3 (.slice la m lc) (ic (reachL is bs)) ∧ Below w.heap.size w w3) := by
    have hp := HP.out.d
    refine ⟨R3.base_le (by omega), HX2.out.b.grown G3 HX2.out.b.size (fun k hk => by have := (HX2.out.o.lt k hk).1; omega)⟩
  clear R3 G3 A3 CS k0 HX2
  go_wp2
  go_ret
  exact ⟨_, rfl, HF.out⟩
end Go.Proofs.YtljooldjcefkoaaGreat
