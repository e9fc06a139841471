/- Texts of the proof, bundled: Okd, Tm, Mr, Rg, Rh. -/
import Derived.Deep.RegionHeld3
import Derived.RegionTactic
import Derived.Deep.RegionHeld
import Derived.Test.YtljooldjcefkoaaU04
import Derived.Test.YtljooldjcefkoaaU06
import Derived.Test.YtljooldjcefkoaaU01
/- impl.inodesRight, impl.blocksRight, impl.DiskOk and spec.DiskOk by their contracts. -/
namespace Go.Proofs.Ytljooldjcefkoaa.Kit
open Go.RowKit
theorem all_no {α : Type} {f : α → Bool} {l : List α} {j : Nat} (h : j < l.length) (hf : f l[j] = false) : l.all f = false := by
  rw [List.all_eq_false]
  exact ⟨l[j], List.getElem_mem h, by simp [hf]⟩
theorem all_yes {α : Type} {f : α → Bool} {l : List α} (h : ∀ (j : Nat) (h : j < l.length), f l[j] = true) : l.all f = true := by
  rw [List.all_eq_true]
  intro x hx
  obtain ⟨j, hj, rfl⟩ := List.getElem_of_mem hx
  exact h j hj
end Go.Proofs.Ytljooldjcefkoaa.Kit
namespace Go.Proofs.Ytljooldjcefkoaa
open Go.RowKit Kit
/-- Whether an inode is right; whether all are. -/
def inoOk (x : Ino) : Bool := okL x.1 x.2.1 x.2.2
def inosOk (l : List Ino) : Bool := l.all inoOk
/-- Whether a block is right; whether all are. -/
def blkOk (b : Blk) : Bool := blockOk b.1 b.2.1 b.2.2
def blksOk (l : List Blk) : Bool := l.all blkOk
/-- Whether a disk is right. -/
def diskOk (xs ys : List Bool) (is : List Ino) (bs : List Blk) : Bool := okB xs.length ys.length && (inosOk is && decide (is.length = 8)) && (blksOk bs && decide (bs.length = 16))
set_option maxRecDepth 100000 in
set_option maxHeartbeats 1600000 in
theorem inosRight_any (v : Value) (l : List Ino) (w : World) (hv : R3 KI w v l) (hl : l.length ≤ 1048576) :
    Calls Try.prog 49 #[v] w fun e w' => e = .returned (.bool (inosOk l && decide (l.length = 8))) ∧ Below w.heap.size w w' := by
  obtain ⟨a1, c1, rfl, -, hv'⟩ := hv.ino
  have HA := hide hv'
  clear hv hv'
  go_enter Try.func49, Try.ntmps49
  go_wp2
  go_loopw [7] (fun i wr => ∃ j : Nat, j ≤ l.length ∧ i = .int .i64 j ∧ Hid (∀ (k : Nat) (h : k < l.length), k < j → inoOk l[k] = true) ∧ Below w.heap.size w wr) (fun i _ => l.length - (intOf i).toNat)
  case atStart => exact ⟨0, Nat.zero_le _, rfl, fun _ _ h => absurd h (Nat.not_lt_zero _), Below.refl _ _⟩
  case round =>
    obtain ⟨j, hj, rfl, HS, hb⟩ := hrel
    by_cases hlt : j < l.length
    · obtain ⟨g1, o1, p1, rfl, hg1, m1, m2, m3, hr1⟩ := HA.out j hlt
      have q1 := (hb.cell (p := ⟨g1, o1 + j * 3, none⟩) hg1).trans m1
      have q2 := (hb.cell (p := ⟨g1, o1 + j * 3 + 1, none⟩) hg1).trans m2
      have q3 := (hb.cell (p := ⟨g1, o1 + j * 3 + 2, none⟩) hg1).trans m3
      obtain ⟨x, hx⟩ : ∃ x, l[j] = x := ⟨_, rfl⟩
      obtain ⟨y, s, z⟩ := x
      rw [hx] at q1 q2 hr1
      obtain ⟨pa, pc, rfl⟩ := hr1.form
      simp only at q1 q2 q3 hr1
      have HR : Hid (∀ w', Below w.heap.size w w' → RInts w' (.slice pa z.length pc) z) := fun w' hb => hr1.below hb (Nat.le_refl _)
      have j0 : (0 : Int) ≤ (j : Int) := by omega
      have j1 : (j : Int) < (l.length : Int) := by omega
      have hsz := hb.size
      have HBB := hide hb
      have HX := hide hx
      clear hb m1 m2 m3 hr1 hx
      cases hq : inoOk (y, s, z) with
      | true =>
        have HQ := hide hq
        have hq2 : okL y s z = true := hq
        have HQ2 := hide hq2
        clear hq hq2
        go_wp2_with (go_at_call 69; refine (implOk_anyI _ _ z _ _ (HR.out _ (HBB.out.alloc hsz _))).mono ?_; rw [HQ2.out]; rintro e w1 ⟨rfl, B1⟩; have HB1 := hide ((HBB.out.alloc hsz _).trans (B1.mono (by simp; omega))); clear B1)
        go_roundw
        case rel =>
          refine ⟨j + 1, by omega, by go_num, fun k hk hkj => ?_, HB1.out⟩
          by_cases hkk : k = j
          · subst hkk; rw [HX.out]; exact HQ.out
          · exact HS.out k hk (by omega)
        case measure => simp [intOf]; omega
      | false =>
        have hno : inosOk l = false := all_no hlt (by rw [HX.out]; exact hq)
        have HNO := hide hno
        have hq2 : okL y s z = false := hq
        have HQ2 := hide hq2
        clear hq hq2 hno
        go_wp2_with (go_at_call 69; refine (implOk_anyI _ _ z _ _ (HR.out _ (HBB.out.alloc hsz _))).mono ?_; rw [HQ2.out]; rintro e w1 ⟨rfl, B1⟩; have HB1 := hide ((HBB.out.alloc hsz _).trans (B1.mono (by simp; omega))); clear B1)
        go_ret
        exact ⟨ret_bool (by rw [HNO.out]; rfl), HB1.out⟩
    · have hyes : inosOk l = true := all_yes fun k hk => HS.out k hk (by omega)
      have HY := hide hyes
      have HBB := hide hb
      clear hb hyes
      go_wp2
      go_ret
      exact ⟨ret_bool (by rw [HY.out, Bool.true_and, Bool.eq_iff_iff]; simp; omega), HBB.out⟩
set_option maxRecDepth 100000 in
set_option maxHeartbeats 1600000 in
theorem blksRight_any (v : Value) (l : List Blk) (w : World) (hv : R3 KB w v l) (hl : l.length ≤ 1048576) :
    Calls Try.prog 50 #[v] w fun e w' => e = .returned (.bool (blksOk l && decide (l.length = 16))) ∧ Below w.heap.size w w' := by
  obtain ⟨a1, c1, rfl, -, hv'⟩ := hv.blk
  have HA := hide hv'
  clear hv hv'
  go_enter Try.func50, Try.ntmps50
  go_wp2
  go_loopw [7] (fun i wr => ∃ j : Nat, j ≤ l.length ∧ i = .int .i64 j ∧ Hid (∀ (k : Nat) (h : k < l.length), k < j → blkOk l[k] = true) ∧ Below w.heap.size w wr) (fun i _ => l.length - (intOf i).toNat)
  case atStart => exact ⟨0, Nat.zero_le _, rfl, fun _ _ h => absurd h (Nat.not_lt_zero _), Below.refl _ _⟩
  case round =>
    obtain ⟨j, hj, rfl, HS, hb⟩ := hrel
    by_cases hlt : j < l.length
    · obtain ⟨g1, o1, p1, rfl, hg1, m1, m2, m3, hr1⟩ := HA.out j hlt
      have q1 := (hb.cell (p := ⟨g1, o1 + j * 3, none⟩) hg1).trans m1
      have q2 := (hb.cell (p := ⟨g1, o1 + j * 3 + 1, none⟩) hg1).trans m2
      have q3 := (hb.cell (p := ⟨g1, o1 + j * 3 + 2, none⟩) hg1).trans m3
      obtain ⟨x, hx⟩ : ∃ x, l[j] = x := ⟨_, rfl⟩
      obtain ⟨y, s, z⟩ := x
      rw [hx] at q1 q3 hr1
      obtain ⟨pa, pc, rfl⟩ := hr1.form
      simp only at q1 q2 q3 hr1
      have HR : Hid (∀ w', Below w.heap.size w w' → RSl w' (.slice pa s.length pc) s) := fun w' hb => hr1.below hb (Nat.le_refl _)
      have j0 : (0 : Int) ≤ (j : Int) := by omega
      have j1 : (j : Int) < (l.length : Int) := by omega
      have hsz := hb.size
      have HBB := hide hb
      have HX := hide hx
      clear hb m1 m2 m3 hr1 hx
      cases hq : blkOk (y, s, z) with
      | true =>
        have HQ := hide hq
        have hq2 : blockOk y s z = true := hq
        have HQ2 := hide hq2
        clear hq hq2
        go_wp2_with (go_at_call 70; refine (implOk_anyK _ _ _ s _ (HR.out _ (HBB.out.alloc hsz _))).mono ?_; rw [HQ2.out]; rintro e w1 ⟨rfl, B1⟩; have HB1 := hide ((HBB.out.alloc hsz _).trans (B1.mono (by simp; omega))); clear B1)
        go_roundw
        case rel =>
          refine ⟨j + 1, by omega, by go_num, fun k hk hkj => ?_, HB1.out⟩
          by_cases hkk : k = j
          · subst hkk; rw [HX.out]; exact HQ.out
          · exact HS.out k hk (by omega)
        case measure => simp [intOf]; omega
      | false =>
        have hno : blksOk l = false := all_no hlt (by rw [HX.out]; exact hq)
        have HNO := hide hno
        have hq2 : blockOk y s z = false := hq
        have HQ2 := hide hq2
        clear hq hq2 hno
        go_wp2_with (go_at_call 70; refine (implOk_anyK _ _ _ s _ (HR.out _ (HBB.out.alloc hsz _))).mono ?_; rw [HQ2.out]; rintro e w1 ⟨rfl, B1⟩; have HB1 := hide ((HBB.out.alloc hsz _).trans (B1.mono (by simp; omega))); clear B1)
        go_ret
        exact ⟨ret_bool (by rw [HNO.out]; rfl), HB1.out⟩
    · have hyes : blksOk l = true := all_yes fun k hk => HS.out k hk (by omega)
      have HY := hide hyes
      have HBB := hide hb
      clear hb hyes
      go_wp2
      go_ret
      exact ⟨ret_bool (by rw [HY.out, Bool.true_and, Bool.eq_iff_iff]; simp; omega), HBB.out⟩
end Go.Proofs.Ytljooldjcefkoaa
/- What a disk tells, as plain functions: kinds, pointers, named slots, where a name leads. No Go function is spoken of. -/
namespace Go.Proofs.Ytljooldjcefkoaa
open Go.RowKit Kit
def kindAt (is : List Ino) (i : Int) : Int := if inB i 1 is.length = true then (is.getD (i - 1).toNat (0, 0, [])).1 else 0
def ptrsAt (is : List Ino) (i : Int) : List Int := if inB i 1 is.length = true then (is.getD (i - 1).toNat (0, 0, [])).2.2 else []
/-- The slots that have a name. -/
def nmdS (ss : List Sl) : List Sl := ss.filter fun s => decide (¬ s.1 = ⟨#[]⟩)
def nmd (b : Blk) : List Sl := if b.1 = true then nmdS b.2.1 else []
/-- The named slots of blocks, in order. -/
def nmdP (bs : List Blk) (ps : List Int) : List Sl := ps.flatMap fun p => nmd (blkAt bs p)
/-- The named slots of a directory. -/
def named (is : List Ino) (bs : List Blk) (i : Int) : List Sl := if kindAt is i = 2 then nmdP bs (ptrsAt is i) else []
/-- Where the first slot with a name leads. -/
def findI : List Sl → ByteArray → Int
  | [], _ => 0
  | s :: r, nm => if s.1 = nm then s.2 else findI r nm
theorem findI_append {a b : List Sl} {nm : ByteArray} (h : ∀ s ∈ a, ¬ s.1 = nm) : findI (a ++ b) nm = findI b nm := by
  induction a with
  | nil => rfl
  | cons s r ih =>
    rw [List.cons_append, findI, if_neg (h s (by simp))]
    exact ih fun x hx => h x (by simp [hx])
theorem findI_none {a : List Sl} {nm : ByteArray} (h : ∀ s ∈ a, ¬ s.1 = nm) : findI a nm = 0 := by
  have := findI_append (b := []) h
  rw [List.append_nil] at this
  rw [this]; rfl
theorem size_ne {nm : ByteArray} (h : nm.size ≠ 0) : ¬ nm = ⟨#[]⟩ := fun e => h (by rw [e]; rfl)
theorem ne_size {nm : ByteArray} (h : ¬ nm = ⟨#[]⟩) : nm.size ≠ 0 := fun e => h (by
  obtain ⟨⟨l⟩⟩ := nm
  have : l = [] := List.length_eq_zero_iff.1 e
  subst this
  rfl)
theorem findI_first {ss c : List Sl} {nm : ByteArray} {j : Nat} (hj : j < ss.length) (h : ss[j].1 = nm) (hn : nm.size ≠ 0) (hf : ∀ (i : Nat) (hi : i < j), ¬ (ss[i]'(Nat.lt_trans hi hj)).1 = nm) : findI (nmdS ss ++ c) nm = ss[j].2 := by
  induction ss generalizing j with
  | nil => simp at hj
  | cons s r ih =>
    cases j with
    | zero =>
      have h' : s.1 = nm := h
      have : nmdS (s :: r) = s :: nmdS r := by simp [nmdS, h', size_ne hn]
      rw [this, List.cons_append, findI, if_pos h']
      rfl
    | succ j =>
      have h0 : ¬ s.1 = nm := hf 0 (Nat.succ_pos _)
      have hi := ih (j := j) (by simpa using hj) h (fun i hi => hf (i + 1) (Nat.succ_lt_succ hi))
      by_cases e : s.1 = ⟨#[]⟩
      · have : nmdS (s :: r) = nmdS r := by simp [nmdS, e]
        rw [this]; exact hi
      · have : nmdS (s :: r) = s :: nmdS r := by simp [nmdS, e]
        rw [this, List.cons_append, findI, if_neg h0]; exact hi
theorem mem_nmdS {ss : List Sl} {s : Sl} (h : s ∈ nmdS ss) : s ∈ ss ∧ ¬ s.1 = ⟨#[]⟩ := by
  have := List.mem_filter.1 h
  exact ⟨this.1, by simpa using this.2⟩
theorem nmdS_none {ss : List Sl} {nm : ByteArray} (h : ∀ (i : Nat) (hi : i < ss.length), ¬ ss[i].1 = nm) : ∀ s ∈ nmdS ss, ¬ s.1 = nm := fun s hs => by
  obtain ⟨i, hi, rfl⟩ := List.getElem_of_mem (mem_nmdS hs).1
  exact h i hi
theorem nmdP_take {bs : List Blk} {ps : List Int} {q : Nat} (h : q < ps.length) : nmdP bs (ps.take (q + 1)) = nmdP bs (ps.take q) ++ nmd (blkAt bs ps[q]) := by
  rw [List.take_succ_eq_append_getElem h]
  unfold nmdP
  rw [List.flatMap_append, List.flatMap_cons, List.flatMap_nil, List.append_nil]
theorem nmdP_split {bs : List Blk} {ps : List Int} {q : Nat} (h : q < ps.length) : nmdP bs ps = nmdP bs (ps.take q) ++ (nmd (blkAt bs ps[q]) ++ nmdP bs (ps.drop (q + 1))) := by
  have e : ps = ps.take q ++ ps[q] :: ps.drop (q + 1) := by
    rw [← List.drop_eq_getElem_cons h, List.take_append_drop]
  have : nmdP bs (ps.take q ++ ps[q] :: ps.drop (q + 1)) = nmdP bs (ps.take q) ++ (nmd (blkAt bs ps[q]) ++ nmdP bs (ps.drop (q + 1))) := by
    unfold nmdP
    rw [List.flatMap_append, List.flatMap_cons]
  rw [← e] at this
  exact this
theorem nmdS_take {ss : List Sl} {t : Nat} (h : t < ss.length) : nmdS (ss.take (t + 1)) = nmdS (ss.take t) ++ (if ss[t].1 = ⟨#[]⟩ then [] else [ss[t]]) := by
  rw [List.take_succ_eq_append_getElem h]
  unfold nmdS
  rw [List.filter_append]
  by_cases e : ss[t].1 = ⟨#[]⟩
  · rw [if_pos e, List.filter_cons_of_neg (by simp [e]), List.filter_nil]
  · rw [if_neg e, List.filter_cons_of_pos (by simp [e]), List.filter_nil]
theorem kindAt_in {is : List Ino} {j : Nat} (h : j < is.length) : kindAt is ((j : Int) + 1) = is[j].1 ∧ ptrsAt is ((j : Int) + 1) = is[j].2.2 := by
  have hb : inB ((j : Int) + 1) 1 is.length = true := by simp [inB]; omega
  unfold kindAt ptrsAt
  rw [if_pos hb, if_pos hb, show ((j : Int) + 1 - 1).toNat = j by omega]
  simp [h]
theorem kindAt_out {is : List Ino} {i : Int} (h : inB i 1 is.length = false) : kindAt is i = 0 := by unfold kindAt; rw [h]; rfl
theorem blkAt_no {bs : List Blk} {x : Int} (h : inB x 1 bs.length = false) : blkAt bs x = (false, [], ⟨#[]⟩) := by unfold blkAt; rw [h]; rfl
end Go.Proofs.Ytljooldjcefkoaa
/- A region whose order is drawn, in which several operations make memory, each by itself, and the rest goes in one order: one obligation for each maker, one for the rest, whatever the order. No Go function is spoken of. -/
namespace Go.Proofs.Ytljooldjcefkoaa.Kit
open Go.RowKit
/-- All lists that a list comes to when some are left out. -/
def subs : List Nat → List (List Nat)
  | [] => [[]]
  | x :: r => subs r ++ (subs r).map fun t => x :: t
theorem filter_subs (p : Nat → Bool) (js : List Nat) : js.filter p ∈ subs js := by
  induction js with
  | nil => simp [subs]
  | cons x r ih =>
    rw [subs, List.mem_append]
    by_cases h : p x = true
    · rw [List.filter_cons_of_pos h]
      exact .inr (List.mem_map.2 ⟨_, ih, rfl⟩)
    · rw [List.filter_cons_of_neg h]
      exact .inl ih
/-- Which of n operations are done. -/
def mask (n : Nat) (s : List Nat) : Array Bool := ((List.range n).map fun i => s.contains i).toArray
theorem mask_set (n : Nat) (s : List Nat) (j : Nat) : (mask n s).setIfInBounds j true = mask n (j :: s) := by
  apply Array.ext
  · simp [mask]
  · intro i h1 h2
    simp only [mask, Array.size_setIfInBounds, List.size_toArray, List.length_map, List.length_range] at h1
    rw [Array.getElem_setIfInBounds (by simpa [mask] using h1)]
    simp only [mask, List.getElem_toArray, List.getElem_map, List.getElem_range, List.contains_cons]
    by_cases e : j = i
    · simp [e]
    · have e' : (i == j) = false := by simp; omega
      simp [e, e']
theorem mask_congr (n : Nat) (s s' : List Nat) (h : ∀ i, i ∈ s ↔ i ∈ s') : mask n s = mask n s' := by
  have e : (fun i => s.contains i) = fun i => s'.contains i := by
    funext i
    have := h i
    by_cases hi : i ∈ s
    · simp [hi, this.1 hi]
    · have : ¬ i ∈ s' := fun q => hi (this.2 q)
      simp [hi, this]
  rw [mask, mask, e]
theorem mask_nil (n : Nat) : mask n [] = Array.replicate n false := by
  apply Array.ext
  · simp [mask]
  · intro i h1 h2
    simp [mask]
def upd {α : Type} (x : Nat → α) (j : Nat) (v : α) : Nat → α := fun i => if i = j then v else x i
theorem upd_self {α : Type} (x : Nat → α) (j : Nat) (v : α) : upd x j v j = v := if_pos rfl
theorem upd_ne {α : Type} (x : Nat → α) (j i : Nat) (v : α) (h : i ≠ j) : upd x j v i = x i := if_neg h
/-- Of the makers s that are done: what each made, in blocks of its own from .1 up to .2. -/
structure PI (W0 : World) (s : List Nat) (Post : Nat → Nat → Nat → World → Value → Prop) (x : Nat → Value) (iv : Nat → Nat × Nat) (w : World) : Prop where
  bel : Below W0.heap.size W0 w
  post : ∀ i ∈ s, Post i (iv i).1 (iv i).2 w (x i)
  lo : ∀ i ∈ s, W0.heap.size ≤ (iv i).1 ∧ (iv i).1 ≤ (iv i).2 ∧ (iv i).2 ≤ w.heap.size
  apart : ∀ i ∈ s, ∀ j ∈ s, i ≠ j → (iv i).2 ≤ (iv j).1 ∨ (iv j).2 ≤ (iv i).1
theorem PI.add {W0 : World} {s : List Nat} {Post : Nat → Nat → Nat → World → Value → Prop} {x : Nat → Value} {iv : Nat → Nat × Nat} {w w' : World} {j : Nat} {v : Value} (h : PI W0 s Post x iv w)
    (stable : ∀ i lo hi w w' v, Post i lo hi w v → Below w.heap.size w w' → Post i lo hi w' v) (hj : ¬ j ∈ s) (hb : Below w.heap.size w w') (hp : Post j w.heap.size w'.heap.size w' v) :
    PI W0 (j :: s) Post (upd x j v) (upd iv j (w.heap.size, w'.heap.size)) w' := by
  have hs := h.bel.size
  have hs2 := hb.size
  have ne : ∀ i ∈ s, i ≠ j := fun i hi e => hj (e ▸ hi)
  refine ⟨h.bel.trans (hb.mono hs), fun i hi => ?_, fun i hi => ?_, fun i hi k hk hne => ?_⟩
  · rcases List.mem_cons.1 hi with rfl | hi
    · rw [upd_self, upd_self]; exact hp
    · rw [upd_ne _ _ _ _ (ne i hi), upd_ne _ _ _ _ (ne i hi)]; exact stable _ _ _ _ _ _ (h.post i hi) hb
  · rcases List.mem_cons.1 hi with rfl | hi
    · rw [upd_self]; exact ⟨hs, hs2, Nat.le_refl _⟩
    · rw [upd_ne _ _ _ _ (ne i hi)]; have := h.lo i hi; omega
  · rcases List.mem_cons.1 hi with ei | hi2
    · rcases List.mem_cons.1 hk with ek | hk2
      · exact absurd (ei.trans ek.symm) hne
      · rw [ei, upd_self, upd_ne _ _ _ _ (ne k hk2)]; exact .inr (h.lo k hk2).2.2
    · rcases List.mem_cons.1 hk with ek | hk2
      · rw [ek, upd_self, upd_ne _ _ _ _ (ne i hi2)]; exact .inl (h.lo i hi2).2.2
      · replace hi := hi2
        replace hk := hk2
        rw [upd_ne _ _ _ _ (ne i hi), upd_ne _ _ _ _ (ne k hk)]; exact h.apart i hi k hk hne
theorem PI.of_mem {W0 : World} {s s' : List Nat} {Post : Nat → Nat → Nat → World → Value → Prop} {x : Nat → Value} {iv : Nat → Nat × Nat} {w : World} (h : PI W0 s Post x iv w) (hs : ∀ i ∈ s', i ∈ s) : PI W0 s' Post x iv w :=
  ⟨h.bel, fun i hi => h.post i (hs i hi), fun i hi => h.lo i (hs i hi), fun i hi j hj => h.apart i (hs i hi) j (hs j hj)⟩
/-- What each of t waits for is in t. -/
def closedB (md : Region.Mode) (ops : Array Oper) (t : List Nat) : Bool := t.all fun i => match ops[i]? with | some o => o.after.all fun e => !Region.binds md e || t.contains e.on | none => true
/-- At each state of the makers some are ready, and no other operation is. -/
def makersOk (md : Region.Mode) (ops : Array Oper) (js : List Nat) : Bool :=
  (subs js).all fun t => t == js || !closedB md ops t || (!(Region.ready md ops (mask ops.size t)).isEmpty && (Region.ready md ops (mask ops.size t)).all fun i => js.contains i && !t.contains i)
/-- Behind them the others come in this order. -/
def lineOk (md : Region.Mode) (ops : Array Oper) : List Nat → List Nat → Bool
  | s, [] => (Region.ready md ops (mask ops.size s)).isEmpty
  | s, i :: r => (Region.ready md ops (mask ops.size s) == [i]) && (ops[i]?).isSome && lineOk md ops (i :: s) r
section
variable {P : Program} {ops : Array Oper} {Q : Exit → Act → World → Prop} {md : Region.Mode}
theorem wpAny_line : ∀ (line s : List Nat) (fuel : Nat) (a : Act) (w : World), lineOk md ops s line = true → line.length ≤ fuel → wpList P ops Q (line.filterMap fun i => ops[i]?) a w → wpAny P md ops Q fuel (mask ops.size s) a w
  | [], s, fuel, a, w, h, _, hw => wpAny_done (by simpa [lineOk] using h) (by simpa [wpList] using hw) fuel
  | i :: r, s, 0, a, w, _, hl, _ => by simp at hl
  | i :: r, s, fuel + 1, a, w, h, hl, hw => by
    simp only [lineOk, Bool.and_eq_true, beq_iff_eq] at h
    obtain ⟨⟨h1, h2⟩, h3⟩ := h
    obtain ⟨o, ho⟩ := Option.isSome_iff_exists.1 h2
    have ih := fun a w hw => wpAny_line r (i :: s) fuel a w h3 (by simpa using hl) hw
    refine wpAny_all h1 (by simp) fun j hj => ?_
    obtain rfl : j = i := by simpa using hj
    rw [mask_set]
    have hw' : wpList P ops Q (o :: r.filterMap fun i => ops[i]?) a w := by simpa [ho] using hw
    refine wpOp_mono (fun a w => ih a w) ?_
    unfold wpOp
    rw [ho]
    exact hw'
/-- What an operation that is ready waits for is done. -/
theorem ready_dep {n : Nat} {s : List Nat} {j : Nat} (h : j ∈ Region.ready md ops (mask n s)) {o : Oper} (ho : ops[j]? = some o) {k : Nat} (he : ∃ e ∈ o.after, e.on = k ∧ Region.binds md e = true) : k ∈ s := by
  obtain ⟨-, o', ho', hall⟩ := mem_ready.1 h
  rw [ho] at ho'
  cases ho'
  obtain ⟨e, he1, rfl, he2⟩ := he
  have := hall e he1 he2
  rw [mask] at this
  by_cases hn : e.on < n
  · simpa [Array.getD, hn] using this
  · simp [Array.getD, hn] at this
theorem wpAny_makers (js : List Nat) (fuel : Nat) (act : (Nat → Value) → Act) (W0 : World) (Post : Nat → Nat → Nat → World → Value → Prop) (Inv : List Nat → (Nat → Value) → World → Prop)
    (stable : ∀ i lo hi w w' v, Post i lo hi w v → Below w.heap.size w w' → Post i lo hi w' v) (ok : makersOk md ops js = true)
    (prod : ∀ j ∈ js, ∀ s x iv W, j ∈ Region.ready md ops (mask ops.size s) → ¬ j ∈ s → PI W0 s Post x iv W → Inv s x W → ∀ K : Act → World → Prop, (∀ v W', Below W.heap.size W W' → Post j W.heap.size W'.heap.size W' v → Inv (j :: s) (upd x j v) W' → K (act (upd x j v)) W') → wpOp P ops Q j K (act x) W)
    (rest : ∀ s x iv W f, fuel ≤ f → (∀ i ∈ js, i ∈ s) → PI W0 js Post x iv W → Inv s x W → wpAny P md ops Q f (mask ops.size js) (act x) W) :
    ∀ (m f : Nat) (s : List Nat) (x : Nat → Value) (iv : Nat → Nat × Nat) (W : World), (js.filter fun i => !s.contains i).length ≤ m → fuel ≤ f → (∀ i ∈ s, i ∈ js) → (∀ i ∈ s, ∀ o, ops[i]? = some o → ∀ e ∈ o.after, Region.binds md e = true → e.on ∈ s) → PI W0 s Post x iv W → Inv s x W → wpAny P md ops Q (f + m) (mask ops.size s) (act x) W := by
  intro m
  induction m with
  | zero =>
    intro f s x iv W hc hf hs hcl hp hv
    have hall : ∀ i ∈ js, i ∈ s := fun i hi => by
      by_cases h : i ∈ s
      · exact h
      · have : i ∈ js.filter fun i => !s.contains i := List.mem_filter.2 ⟨hi, by simpa using h⟩
        rw [List.eq_nil_of_length_eq_zero (Nat.le_zero.1 hc)] at this
        cases this
    rw [mask_congr ops.size s js fun i => ⟨hs i, hall i⟩]
    exact rest s x iv W (f + 0) (by omega) hall (hp.of_mem hall) hv
  | succ m ih =>
    intro f s x iv W hc hf hs hcl hp hv
    by_cases hall : ∀ i ∈ js, i ∈ s
    · rw [mask_congr ops.size s js fun i => ⟨hs i, hall i⟩]
      exact rest s x iv W _ (by omega) hall (hp.of_mem hall) hv
    · have hmask : mask ops.size s = mask ops.size (js.filter fun i => s.contains i) := mask_congr _ _ _ fun i => ⟨fun h => List.mem_filter.2 ⟨hs i h, by simpa using h⟩, fun h => by simpa using (List.mem_filter.1 h).2⟩
      have hk := List.all_eq_true.1 ok _ (filter_subs (fun i => s.contains i) js)
      have hne : ((js.filter fun i => s.contains i) == js) = false := by
        apply Bool.eq_false_iff.2
        intro e
        rw [beq_iff_eq] at e
        exact hall fun i hi => by
          rw [← e] at hi
          simpa using (List.mem_filter.1 hi).2
      have hclo : closedB md ops (js.filter fun i => s.contains i) = true := by
        refine List.all_eq_true.2 fun i hi => ?_
        have his : i ∈ s := by simpa using (List.mem_filter.1 hi).2
        cases ho : ops[i]? with
        | none => rfl
        | some o =>
          simp only
          refine Array.all_eq_true_iff_forall_mem.2 fun e he => ?_
          cases hbi : Region.binds md e with
          | false => rfl
          | true =>
            have := hcl i his o ho e he hbi
            simp [this, hs _ this]
      rw [hne, hclo, Bool.false_or, Bool.not_true, Bool.false_or, Bool.and_eq_true] at hk
      obtain ⟨h1, h2⟩ := hk
      rw [← hmask] at h1 h2
      refine wpAny_all rfl (by intro e; rw [e] at h1; simp at h1) fun j hj => ?_
      have hj2 := List.all_eq_true.1 h2 j hj
      simp only [Bool.and_eq_true, List.contains_iff_mem, Bool.not_eq_true'] at hj2
      have hjs : j ∈ js := by simpa using hj2.1
      have hjn : ¬ j ∈ s := fun h => by
        have : j ∈ js.filter fun i => s.contains i := List.mem_filter.2 ⟨hjs, by simpa using h⟩
        have h3 := hj2.2
        simp [hjs, h] at h3
      rw [mask_set]
      refine prod j hjs s x iv W hj hjn hp hv _ fun v W' hb hpo hv' => ih f (j :: s) _ _ W' ?_ hf (fun i hi => (List.mem_cons.1 hi).elim (fun e => e ▸ hjs) (hs i)) (fun i hi o ho e he hbi => List.mem_cons_of_mem _ ((List.mem_cons.1 hi).elim (fun q => by subst q; exact ready_dep hj ho ⟨e, he, rfl, hbi⟩) (fun q => hcl i q o ho e he hbi))) (hp.add stable hjn hb hpo) hv'
      have hlt : (js.filter fun i => !(j :: s).contains i).length < (js.filter fun i => !s.contains i).length := by
        have e : (js.filter fun i => !(j :: s).contains i) = (js.filter fun i => !s.contains i).filter fun i => !(i == j) := by
          rw [List.filter_filter]
          apply List.filter_congr
          intro i _
          by_cases e1 : i = j <;> by_cases e2 : i ∈ s <;> simp [e1, e2]
        rw [e, List.length_filter_lt_length_iff_exists]
        exact ⟨j, List.mem_filter.2 ⟨hjs, by simpa using hjn⟩, by simp⟩
      omega
/-- The region, whatever order is drawn. -/
theorem wp_region_makers {id : Nat} {w : World} {a0 : Act} (hm : P.follows .mixedOrders = true) (js line : List Nat) (act : (Nat → Value) → Act) (x0 : Nat → Value) (ha : a0 = act x0) (Post : Nat → Nat → Nat → World → Value → Prop) (Inv : List Nat → (Nat → Value) → World → Prop)
    (stable : ∀ i lo hi w w' v, Post i lo hi w v → Below w.heap.size w w' → Post i lo hi w' v) (ok : makersOk .any ops js = true) (okl : lineOk .any ops js line = true) (hsz : line.length + js.length = ops.size) (hv : Inv [] x0 w.drew)
    (prod : ∀ j ∈ js, ∀ s x iv W, j ∈ Region.ready .any ops (mask ops.size s) → ¬ j ∈ s → PI w.drew s Post x iv W → Inv s x W → ∀ K : Act → World → Prop, (∀ v W', Below W.heap.size W W' → Post j W.heap.size W'.heap.size W' v → Inv (j :: s) (upd x j v) W' → K (act (upd x j v)) W') → wpOp P ops Q j K (act x) W)
    (rest : ∀ s x iv W, (∀ i ∈ js, i ∈ s) → PI w.drew js Post x iv W → Inv s x W → wpList P ops Q (line.filterMap fun i => ops[i]?) (act x) W) : (Code.region id ops true).wp P Q a0 w := by
  subst ha
  refine wp_region_any hm ?_
  have h := wpAny_makers (P := P) (Q := Q) (md := .any) js line.length act w.drew Post Inv stable ok prod (fun s x iv W f hf hs hp hi => wpAny_line line js f (act x) W okl hf (rest s x iv W hs hp hi)) js.length line.length [] x0 (fun _ => (0, 0)) w.drew (List.length_filter_le _ _) (Nat.le_refl _) (fun i hi => by cases hi) (fun i hi => by cases hi) ⟨Below.refl _ _, (fun i hi => by cases hi), (fun i hi => by cases hi), (fun i hi => by cases hi)⟩ hv
  rw [hsz, mask_nil] at h
  exact h
end
end Go.Proofs.Ytljooldjcefkoaa.Kit
/- A drawn region whose operations only read and make memory, ahead of a line of others: each is told once, by what it yields out of what it waits for. No Go function is spoken of. -/
namespace Go.Proofs.Ytljooldjcefkoaa.Kit
open Go.RowKit
/-- What is done so far: each yielded what is told of it, in an interval of new blocks of its own. -/
structure PX (W0 : World) (s : List Nat) (Po : Nat → Nat → Nat → World → (Nat → Value) → Prop) (x : Nat → Value) (iv : Nat → Nat × Nat) (w : World) : Prop where
  bel : Below W0.heap.size W0 w
  post : ∀ i ∈ s, Po i (iv i).1 (iv i).2 w x
  lo : ∀ i ∈ s, W0.heap.size ≤ (iv i).1 ∧ (iv i).1 ≤ (iv i).2 ∧ (iv i).2 ≤ w.heap.size
  apart : ∀ i ∈ s, ∀ j ∈ s, i ≠ j → (iv i).2 ≤ (iv j).1 ∨ (iv j).2 ≤ (iv i).1
theorem PX.add {W0 : World} {s : List Nat} {Po : Nat → Nat → Nat → World → (Nat → Value) → Prop} {x : Nat → Value} {iv : Nat → Nat × Nat} {w w' : World} {j : Nat} {v : Value} (deps : Nat → List Nat) (h : PX W0 s Po x iv w)
    (stable : ∀ i lo hi w w' x, Po i lo hi w x → Below w.heap.size w w' → Po i lo hi w' x) (cong : ∀ i lo hi w x x', x i = x' i → (∀ k ∈ deps i, x k = x' k) → Po i lo hi w x → Po i lo hi w x')
    (hcl : ∀ i ∈ s, ∀ k ∈ deps i, k ∈ s) (hj : ¬ j ∈ s) (hb : Below w.heap.size w w') (hp : Po j w.heap.size w'.heap.size w' (upd x j v)) :
    PX W0 (j :: s) Po (upd x j v) (upd iv j (w.heap.size, w'.heap.size)) w' := by
  have hs := h.bel.size
  have hs2 := hb.size
  have ne : ∀ i ∈ s, i ≠ j := fun i hi e => hj (e ▸ hi)
  refine ⟨h.bel.trans (hb.mono hs), fun i hi => ?_, fun i hi => ?_, fun i hi k hk hne => ?_⟩
  · rcases List.mem_cons.1 hi with rfl | hi
    · rw [upd_self]; exact hp
    · rw [upd_ne _ _ _ _ (ne i hi)]
      exact cong _ _ _ _ _ _ (upd_ne _ _ _ _ (ne i hi)).symm (fun k hk => (upd_ne _ _ _ _ (ne k (hcl i hi k hk))).symm) (stable _ _ _ _ _ _ (h.post i hi) hb)
  · rcases List.mem_cons.1 hi with rfl | hi
    · rw [upd_self]; exact ⟨hs, hs2, Nat.le_refl _⟩
    · rw [upd_ne _ _ _ _ (ne i hi)]; have := h.lo i hi; omega
  · rcases List.mem_cons.1 hi with ei | hi2
    · rcases List.mem_cons.1 hk with ek | hk2
      · exact absurd (ei.trans ek.symm) hne
      · rw [ei, upd_self, upd_ne _ _ _ _ (ne k hk2)]; exact .inr (h.lo k hk2).2.2
    · rcases List.mem_cons.1 hk with ek | hk2
      · rw [ek, upd_self, upd_ne _ _ _ _ (ne i hi2)]; exact .inl (h.lo i hi2).2.2
      · rw [upd_ne _ _ _ _ (ne i hi2), upd_ne _ _ _ _ (ne k hk2)]; exact h.apart i hi2 k hk2 hne
theorem PX.of_mem {W0 : World} {s s' : List Nat} {Po : Nat → Nat → Nat → World → (Nat → Value) → Prop} {x : Nat → Value} {iv : Nat → Nat × Nat} {w : World} (h : PX W0 s Po x iv w) (hs : ∀ i ∈ s', i ∈ s) : PX W0 s' Po x iv w :=
  ⟨h.bel, fun i hi => h.post i (hs i hi), fun i hi => h.lo i (hs i hi), fun i hi j hj => h.apart i (hs i hi) j (hs j hj)⟩
/-- What each waits for is among its edges. -/
def depsOk (ops : Array Oper) (js : List Nat) (deps : Nat → List Nat) : Bool := js.all fun j => match ops[j]? with | some o => (deps j).all fun k => o.after.any fun e => e.on == k && Region.binds .any e | none => false
section
variable {P : Program} {ops : Array Oper} {Q : Exit → Act → World → Prop}
/-- The region, whatever order is drawn. -/
theorem wp_region_gen {id : Nat} {w : World} {a0 : Act} (hm : P.follows .mixedOrders = true) (js line : List Nat) (deps : Nat → List Nat) (act : (Nat → Value) → Act) (x0 : Nat → Value) (ha : a0 = act x0) (Po : Nat → Nat → Nat → World → (Nat → Value) → Prop)
    (stable : ∀ i lo hi w w' x, Po i lo hi w x → Below w.heap.size w w' → Po i lo hi w' x) (cong : ∀ i lo hi w x x', x i = x' i → (∀ k ∈ deps i, x k = x' k) → Po i lo hi w x → Po i lo hi w x')
    (ok : makersOk .any ops js = true) (okl : lineOk .any ops js line = true) (okd : depsOk ops js deps = true) (hsz : line.length + js.length = ops.size)
    (prod : ∀ j ∈ js, ∀ s x iv W, (∀ k ∈ deps j, k ∈ s) → PX w.drew s Po x iv W → ∀ K : Act → World → Prop, (∀ v W', Below W.heap.size W W' → Po j W.heap.size W'.heap.size W' (upd x j v) → K (act (upd x j v)) W') → wpOp P ops Q j K (act x) W)
    (rest : ∀ x iv W, PX w.drew js Po x iv W → wpList P ops Q (line.filterMap fun i => ops[i]?) (act x) W) : (Code.region id ops true).wp P Q a0 w := by
  have dep : ∀ j ∈ js, ∀ s, j ∈ Region.ready .any ops (mask ops.size s) → ∀ k ∈ deps j, k ∈ s := by
    intro j hj s hr k hk
    have h := List.all_eq_true.1 okd j hj
    cases ho : ops[j]? with
    | none => rw [ho] at h; cases h
    | some o =>
      rw [ho] at h
      simp only [List.all_eq_true, Array.any_eq_true] at h
      obtain ⟨i, hi, h2⟩ := h k hk
      simp only [Bool.and_eq_true, beq_iff_eq] at h2
      exact ready_dep hr ho ⟨o.after[i], Array.getElem_mem hi, h2.1, h2.2⟩
  refine wp_region_makers hm js line act x0 ha (fun _ _ _ _ _ => True) (fun s x W => (∀ i ∈ s, ∀ k ∈ deps i, k ∈ s) ∧ ∃ iv, PX w.drew s Po x iv W) (fun _ _ _ _ _ _ _ _ => trivial) ok okl hsz ⟨(fun i hi => by cases hi), fun _ => (0, 0), ⟨Below.refl _ _, (fun i hi => by cases hi), (fun i hi => by cases hi), (fun i hi => by cases hi)⟩⟩ ?_ ?_
  · intro j hj s x iv W hr hns _ hI K hK
    obtain ⟨hcl, iv2, hp⟩ := hI
    have hd := dep j hj s hr
    refine prod j hj s x iv2 W hd hp K fun v W' hb hpo => hK v W' hb trivial ⟨fun i hi k hk => ?_, _, hp.add deps stable cong hcl hns hb hpo⟩
    rcases List.mem_cons.1 hi with rfl | hi
    · exact List.mem_cons_of_mem _ (hd k hk)
    · exact List.mem_cons_of_mem _ (hcl i hi k hk)
  · intro s x iv W hs _ hI
    obtain ⟨-, iv2, hp⟩ := hI
    exact rest x iv2 W (hp.of_mem hs)
end
end Go.Proofs.Ytljooldjcefkoaa.Kit
namespace Go.Proofs.Ytljooldjcefkoaa.Kit
open Go.RowKit
/-- What is told of one operation's value: out of the interval of its blocks, the world, the value, and the values that it waited for. -/
structure Mk where
  deps : List Nat
  P : Nat → Nat → World → Value → (Nat → Value) → Prop
  st : ∀ lo hi w w' v x, P lo hi w v x → Below w.heap.size w w' → P lo hi w' v x
  cg : ∀ lo hi w v x x', (∀ k ∈ deps, x k = x' k) → P lo hi w v x → P lo hi w v x'
/-- Nothing is told. -/
def Mk.triv : Mk := ⟨[], fun _ _ _ _ _ => True, fun _ _ _ _ _ _ _ _ => trivial, fun _ _ _ _ _ _ _ _ => trivial⟩
/-- The value is known. -/
def Mk.const (deps : List Nat) (C : Value) : Mk := ⟨deps, fun _ _ _ v _ => v = C, fun _ _ _ _ _ _ h _ => h, fun _ _ _ _ _ _ _ h => h⟩
/-- Something is told of the value alone. -/
def Mk.val (deps : List Nat) (R : Nat → Nat → World → Value → Prop) (st : ∀ lo hi w w' v, R lo hi w v → Below w.heap.size w w' → R lo hi w' v) : Mk :=
  ⟨deps, fun lo hi w v _ => R lo hi w v, fun lo hi w w' v _ h hb => st lo hi w w' v h hb, fun _ _ _ _ _ _ _ h => h⟩
/-- Something is told of the value, beside one that it waited for. -/
def Mk.val1 (deps : List Nat) (k : Nat) (hk : k ∈ deps) (R : Nat → Nat → World → Value → Value → Prop) (st : ∀ lo hi w w' u v, R lo hi w u v → Below w.heap.size w w' → R lo hi w' u v) : Mk :=
  ⟨deps, fun lo hi w v x => R lo hi w (x k) v, fun lo hi w w' v x h hb => st lo hi w w' (x k) v h hb, fun lo hi w v x x' e h => by rw [← e k hk]; exact h⟩
/-- The frame with the values of the first operations in their slots. -/
def actOf (a : Act) : List Nat → Nat → (Nat → Value) → Act
  | [], _, _ => a
  | s :: r, i, x => actOf (a.put (some s) (x i)) r (i + 1) x
section
variable {P : Program} {ops : Array Oper} {Q : Exit → Act → World → Prop}
theorem wp_region_mk {id : Nat} {w : World} {a0 : Act} (hm : P.follows .mixedOrders = true) (js line sl : List Nat) (L : Nat → Mk) (x0 : Nat → Value) (ha : a0 = actOf a0 sl 0 x0)
    (ok : makersOk .any ops js = true) (okl : lineOk .any ops js line = true) (okd : depsOk ops js (fun i => (L i).deps) = true) (hsz : line.length + js.length = ops.size)
    (prod : ∀ j ∈ js, ∀ s x iv W, (∀ k ∈ (L j).deps, k ∈ s) → PX w.drew s (fun i lo hi w x => (L i).P lo hi w (x i) x) x iv W → ∀ K : Act → World → Prop, (∀ v W', Below W.heap.size W W' → (L j).P W.heap.size W'.heap.size W' v (upd x j v) → K (actOf a0 sl 0 (upd x j v)) W') → wpOp P ops Q j K (actOf a0 sl 0 x) W)
    (rest : ∀ x iv W, PX w.drew js (fun i lo hi w x => (L i).P lo hi w (x i) x) x iv W → wpList P ops Q (line.filterMap fun i => ops[i]?) (actOf a0 sl 0 x) W) : (Code.region id ops true).wp P Q a0 w :=
  wp_region_gen hm js line (fun i => (L i).deps) (actOf a0 sl 0) x0 ha (fun i lo hi w x => (L i).P lo hi w (x i) x) (fun i lo hi w w' x h hb => (L i).st lo hi w w' (x i) x h hb)
    (fun i lo hi w x x' e1 e2 h => by rw [← e1]; exact (L i).cg lo hi w (x i) x x' e2 h) ok okl okd hsz (fun j hj s x iv W hd hp K hK => prod j hj s x iv W hd hp K fun v W' hb h => hK v W' hb (by rw [upd_self]; exact h)) rest
/-- The same, from the values that lie in the slots. -/
theorem wp_region_mks {id : Nat} {w : World} {a0 : Act} (hm : P.follows .mixedOrders = true) (js line sl : List Nat) (L : Nat → Mk) (ha : a0 = actOf a0 sl 0 (fun i => a0.tmps.getD (sl.getD i 0) undef))
    (ok : makersOk .any ops js = true) (okl : lineOk .any ops js line = true) (okd : depsOk ops js (fun i => (L i).deps) = true) (hsz : line.length + js.length = ops.size)
    (prod : ∀ j ∈ js, ∀ s x iv W, (∀ k ∈ (L j).deps, k ∈ s) → PX w.drew s (fun i lo hi w x => (L i).P lo hi w (x i) x) x iv W → ∀ K : Act → World → Prop, (∀ v W', Below W.heap.size W W' → (L j).P W.heap.size W'.heap.size W' v (upd x j v) → K (actOf a0 sl 0 (upd x j v)) W') → wpOp P ops Q j K (actOf a0 sl 0 x) W)
    (rest : ∀ x iv W, PX w.drew js (fun i lo hi w x => (L i).P lo hi w (x i) x) x iv W → wpList P ops Q (line.filterMap fun i => ops[i]?) (actOf a0 sl 0 x) W) : (Code.region id ops true).wp P Q a0 w :=
  wp_region_mk hm js line sl L _ ha ok okl okd hsz prod rest
/-- The same, with the frame written out. -/
theorem wp_region_frm {id : Nat} {w : World} {a0 : Act} (hm : P.follows .mixedOrders = true) (js line : List Nat) (L : Nat → Mk) (act : (Nat → Value) → Act) (x0 : Nat → Value) (ha : a0 = act x0)
    (ok : makersOk .any ops js = true) (okl : lineOk .any ops js line = true) (okd : depsOk ops js (fun i => (L i).deps) = true) (hsz : line.length + js.length = ops.size)
    (prod : ∀ j ∈ js, ∀ s x iv W, (∀ k ∈ (L j).deps, k ∈ s) → PX w.drew s (fun i lo hi w x => (L i).P lo hi w (x i) x) x iv W → ∀ K : Act → World → Prop, (∀ v W', Below W.heap.size W W' → (L j).P W.heap.size W'.heap.size W' v (upd x j v) → K (act (upd x j v)) W') → wpOp P ops Q j K (act x) W)
    (rest : ∀ x iv W, PX w.drew js (fun i lo hi w x => (L i).P lo hi w (x i) x) x iv W → wpList P ops Q (line.filterMap fun i => ops[i]?) (act x) W) : (Code.region id ops true).wp P Q a0 w :=
  wp_region_gen hm js line (fun i => (L i).deps) act x0 ha (fun i lo hi w x => (L i).P lo hi w (x i) x) (fun i lo hi w w' x h hb => (L i).st lo hi w w' (x i) x h hb)
    (fun i lo hi w x x' e1 e2 h => by rw [← e1]; exact (L i).cg lo hi w (x i) x x' e2 h) ok okl okd hsz (fun j hj s x iv W hd hp K hK => prod j hj s x iv W hd hp K fun v W' hb h => hK v W' hb (by rw [upd_self]; exact h)) rest
end
end Go.Proofs.Ytljooldjcefkoaa.Kit
/- A drawn region whose operations only read and make memory, ahead of others that may come in several orders: each way out is told by its lines. No Go function is spoken of. -/
namespace Go.Proofs.Ytljooldjcefkoaa.Kit
open Go.RowKit
/-- At each state of the makers some are ready, and no other operation is, but at the states that are listed. -/
def makersOk2 (md : Region.Mode) (ops : Array Oper) (js : List Nat) (exits : List (List Nat)) : Bool :=
  (subs js).all fun t => t == js || exits.contains t || !closedB md ops t || (!(Region.ready md ops (mask ops.size t)).isEmpty && (Region.ready md ops (mask ops.size t)).all fun i => js.contains i && !t.contains i)
/-- At a state each that is ready opens one of the lines. -/
def altOk (md : Region.Mode) (ops : Array Oper) (t : List Nat) (lines : List (List Nat)) : Bool :=
  (Region.ready md ops (mask ops.size t)).all (fun j => lines.any fun l => match l with | i :: r => i == j && (ops[i]?).isSome && lineOk md ops (i :: t) r | [] => false) && !(Region.ready md ops (mask ops.size t)).isEmpty
section
variable {P : Program} {ops : Array Oper} {Q : Exit → Act → World → Prop} {md : Region.Mode}
theorem wpAny_alts (t : List Nat) (lines : List (List Nat)) (fuel : Nat) (a : Act) (w : World) (h : altOk md ops t lines = true) (hl : ∀ l ∈ lines, l.length ≤ fuel) (hw : ∀ l ∈ lines, wpList P ops Q (l.filterMap fun i => ops[i]?) a w) : wpAny P md ops Q fuel (mask ops.size t) a w := by
  simp only [altOk, Bool.and_eq_true, List.all_eq_true, List.any_eq_true] at h
  obtain ⟨h1, h2⟩ := h
  cases fuel with
  | zero =>
    exfalso
    cases hr : Region.ready md ops (mask ops.size t) with
    | nil => rw [hr] at h2; simp at h2
    | cons j r =>
      obtain ⟨l, hl1, hl2⟩ := h1 j (by rw [hr]; simp)
      cases l with
      | nil => simp at hl2
      | cons i r => have := hl _ hl1; simp at this
  | succ fuel =>
    refine wpAny_all rfl (by intro e; rw [e] at h2; simp at h2) fun j hj => ?_
    obtain ⟨l, hl1, hl2⟩ := h1 j hj
    cases l with
    | nil => simp at hl2
    | cons i r =>
      simp only [Bool.and_eq_true, beq_iff_eq] at hl2
      obtain ⟨⟨rfl, h3⟩, h4⟩ := hl2
      obtain ⟨o, ho⟩ := Option.isSome_iff_exists.1 h3
      rw [mask_set]
      have hw' : wpList P ops Q (o :: r.filterMap fun i => ops[i]?) a w := by simpa [ho] using hw _ hl1
      refine wpOp_mono (fun a w hq => wpAny_line r (i :: t) fuel a w h4 (by have := hl _ hl1; simpa using this) hq) ?_
      unfold wpOp
      rw [ho]
      exact hw'
theorem wpAny_makers2 (js : List Nat) (exits : List (List Nat)) (fuel : Nat) (act : (Nat → Value) → Act) (Inv : List Nat → (Nat → Value) → World → Prop) (ok : makersOk2 md ops js exits = true)
    (prod : ∀ j ∈ js, ∀ s x W, j ∈ Region.ready md ops (mask ops.size s) → ¬ j ∈ s → Inv s x W → ∀ K : Act → World → Prop, (∀ v W', Inv (j :: s) (upd x j v) W' → K (act (upd x j v)) W') → wpOp P ops Q j K (act x) W)
    (rest : ∀ s x W f, fuel ≤ f → (∀ i ∈ js, i ∈ s) → Inv s x W → wpAny P md ops Q f (mask ops.size js) (act x) W)
    (out : ∀ t ∈ exits, ∀ s x W f, fuel + (js.filter fun i => !t.contains i).length ≤ f → (∀ i, i ∈ s ↔ i ∈ t) → Inv s x W → wpAny P md ops Q f (mask ops.size t) (act x) W) :
    ∀ (m f : Nat) (s : List Nat) (x : Nat → Value) (W : World), (js.filter fun i => !s.contains i).length ≤ m → fuel ≤ f → (∀ i ∈ s, i ∈ js) → (∀ i ∈ s, ∀ o, ops[i]? = some o → ∀ e ∈ o.after, Region.binds md e = true → e.on ∈ s) → Inv s x W → wpAny P md ops Q (f + m) (mask ops.size s) (act x) W := by
  intro m
  induction m with
  | zero =>
    intro f s x W hc hf hs hcl hv
    have hall : ∀ i ∈ js, i ∈ s := fun i hi => by
      by_cases h : i ∈ s
      · exact h
      · have : i ∈ js.filter fun i => !s.contains i := List.mem_filter.2 ⟨hi, by simpa using h⟩
        rw [List.eq_nil_of_length_eq_zero (Nat.le_zero.1 hc)] at this
        cases this
    rw [mask_congr ops.size s js fun i => ⟨hs i, hall i⟩]
    exact rest s x W (f + 0) (by omega) hall hv
  | succ m ih =>
    intro f s x W hc hf hs hcl hv
    by_cases hall : ∀ i ∈ js, i ∈ s
    · rw [mask_congr ops.size s js fun i => ⟨hs i, hall i⟩]
      exact rest s x W _ (by omega) hall hv
    · have hst : ∀ i, i ∈ s ↔ i ∈ js.filter fun i => s.contains i := fun i => ⟨fun h => List.mem_filter.2 ⟨hs i h, by simpa using h⟩, fun h => by simpa using (List.mem_filter.1 h).2⟩
      have hmask : mask ops.size s = mask ops.size (js.filter fun i => s.contains i) := mask_congr _ _ _ hst
      by_cases hex : (js.filter fun i => s.contains i) ∈ exits
      · rw [hmask]
        refine out _ hex s x W _ ?_ hst hv
        have e : (js.filter fun i => !(js.filter fun i => s.contains i).contains i) = js.filter fun i => !s.contains i := by
          apply List.filter_congr
          intro i hi
          by_cases e2 : i ∈ s <;> simp [hi, e2]
        rw [e]
        omega
      have hk := List.all_eq_true.1 ok _ (filter_subs (fun i => s.contains i) js)
      have hne : ((js.filter fun i => s.contains i) == js) = false := by
        apply Bool.eq_false_iff.2
        intro e
        rw [beq_iff_eq] at e
        exact hall fun i hi => by
          rw [← e] at hi
          simpa using (List.mem_filter.1 hi).2
      have hexf : exits.contains (js.filter fun i => s.contains i) = false := by
        apply Bool.eq_false_iff.2
        intro e
        exact hex (by simpa using e)
      have hclo : closedB md ops (js.filter fun i => s.contains i) = true := by
        refine List.all_eq_true.2 fun i hi => ?_
        have his : i ∈ s := by simpa using (List.mem_filter.1 hi).2
        cases ho : ops[i]? with
        | none => rfl
        | some o =>
          simp only
          refine Array.all_eq_true_iff_forall_mem.2 fun e he => ?_
          cases hbi : Region.binds md e with
          | false => rfl
          | true =>
            have := hcl i his o ho e he hbi
            simp [this, hs _ this]
      rw [hne, hexf, hclo, Bool.false_or, Bool.false_or, Bool.not_true, Bool.false_or, Bool.and_eq_true] at hk
      obtain ⟨h1, h2⟩ := hk
      rw [← hmask] at h1 h2
      refine wpAny_all rfl (by intro e; rw [e] at h1; simp at h1) fun j hj => ?_
      have hj2 := List.all_eq_true.1 h2 j hj
      simp only [Bool.and_eq_true, List.contains_iff_mem, Bool.not_eq_true'] at hj2
      have hjs : j ∈ js := by simpa using hj2.1
      have hjn : ¬ j ∈ s := fun h => by
        have : j ∈ js.filter fun i => s.contains i := List.mem_filter.2 ⟨hjs, by simpa using h⟩
        have h3 := hj2.2
        simp [hjs, h] at h3
      rw [mask_set]
      refine prod j hjs s x W hj hjn hv _ fun v W' hv' => ih f (j :: s) _ W' ?_ hf (fun i hi => (List.mem_cons.1 hi).elim (fun e => e ▸ hjs) (hs i)) (fun i hi o ho e he hbi => List.mem_cons_of_mem _ ((List.mem_cons.1 hi).elim (fun q => by subst q; exact ready_dep hj ho ⟨e, he, rfl, hbi⟩) (fun q => hcl i q o ho e he hbi))) hv'
      have hlt : (js.filter fun i => !(j :: s).contains i).length < (js.filter fun i => !s.contains i).length := by
        have e : (js.filter fun i => !(j :: s).contains i) = (js.filter fun i => !s.contains i).filter fun i => !(i == j) := by
          rw [List.filter_filter]
          apply List.filter_congr
          intro i _
          by_cases e1 : i = j <;> by_cases e2 : i ∈ s <;> simp [e1, e2]
        rw [e, List.length_filter_lt_length_iff_exists]
        exact ⟨j, List.mem_filter.2 ⟨hjs, by simpa using hjn⟩, by simp⟩
      omega
/-- The lines of each way out fit in what is left. -/
def altsOk (md : Region.Mode) (ops : Array Oper) (js line : List Nat) (alts : List (List Nat × List (List Nat))) : Bool :=
  alts.all fun q => altOk md ops q.1 q.2 && q.2.all fun l => decide (l.length ≤ line.length + (js.filter fun i => !q.1.contains i).length)
/-- The region, whatever order is drawn, with the frame written out, and ways out ahead of the end. -/
theorem wp_region_alt {id : Nat} {w : World} {a0 : Act} (hm : P.follows .mixedOrders = true) (js line : List Nat) (alts : List (List Nat × List (List Nat))) (L : Nat → Mk) (act : (Nat → Value) → Act) (x0 : Nat → Value) (ha : a0 = act x0)
    (ok : makersOk2 .any ops js (alts.map (·.1)) = true) (okl : lineOk .any ops js line = true) (oka : altsOk .any ops js line alts = true) (okd : depsOk ops js (fun i => (L i).deps) = true) (hsz : line.length + js.length = ops.size)
    (prod : ∀ j ∈ js, ∀ s x iv W, (∀ k ∈ (L j).deps, k ∈ s) → PX w.drew s (fun i lo hi w x => (L i).P lo hi w (x i) x) x iv W → ∀ K : Act → World → Prop, (∀ v W', Below W.heap.size W W' → (L j).P W.heap.size W'.heap.size W' v (upd x j v) → K (act (upd x j v)) W') → wpOp P ops Q j K (act x) W)
    (rest : ∀ x iv W, PX w.drew js (fun i lo hi w x => (L i).P lo hi w (x i) x) x iv W → wpList P ops Q (line.filterMap fun i => ops[i]?) (act x) W)
    (out : ∀ q ∈ alts, ∀ l ∈ q.2, ∀ x iv W, PX w.drew q.1 (fun i lo hi w x => (L i).P lo hi w (x i) x) x iv W → wpList P ops Q (l.filterMap fun i => ops[i]?) (act x) W) : (Code.region id ops true).wp P Q a0 w := by
  have dep : ∀ j ∈ js, ∀ s, j ∈ Region.ready .any ops (mask ops.size s) → ∀ k ∈ (L j).deps, k ∈ s := by
    intro j hj s hr k hk
    have h := List.all_eq_true.1 okd j hj
    cases ho : ops[j]? with
    | none => rw [ho] at h; cases h
    | some o =>
      rw [ho] at h
      simp only [List.all_eq_true, Array.any_eq_true] at h
      obtain ⟨i, hi, h2⟩ := h k hk
      simp only [Bool.and_eq_true, beq_iff_eq] at h2
      exact ready_dep hr ho ⟨o.after[i], Array.getElem_mem hi, h2.1, h2.2⟩
  subst ha
  refine wp_region_any hm ?_
  have h := wpAny_makers2 (P := P) (Q := Q) (md := .any) js (alts.map (·.1)) line.length act (fun s x W => (∀ i ∈ s, ∀ k ∈ (L i).deps, k ∈ s) ∧ ∃ iv, PX w.drew s (fun i lo hi w x => (L i).P lo hi w (x i) x) x iv W) ok ?_ ?_ ?_ js.length line.length [] x0 w.drew (List.length_filter_le _ _) (Nat.le_refl _) (fun i hi => by cases hi) (fun i hi => by cases hi) ⟨(fun i hi => by cases hi), fun _ => (0, 0), ⟨Below.refl _ _, (fun i hi => by cases hi), (fun i hi => by cases hi), (fun i hi => by cases hi)⟩⟩
  · rw [hsz, mask_nil] at h
    exact h
  · intro j hj s x W hr hns hI K hK
    obtain ⟨hcl, iv2, hp⟩ := hI
    have hd := dep j hj s hr
    refine prod j hj s x iv2 W hd hp K fun v W' hb hpo => hK v W' ⟨fun i hi k hk => ?_, _, hp.add (fun i => (L i).deps) (fun i lo hi w w' x h hb => (L i).st lo hi w w' (x i) x h hb) (fun i lo hi w x x' e1 e2 h => by rw [← e1]; exact (L i).cg lo hi w (x i) x x' e2 h) hcl hns hb (by rw [upd_self]; exact hpo)⟩
    rcases List.mem_cons.1 hi with rfl | hi
    · exact List.mem_cons_of_mem _ (hd k hk)
    · exact List.mem_cons_of_mem _ (hcl i hi k hk)
  · intro s x W f hf hs hI
    obtain ⟨-, iv2, hp⟩ := hI
    exact wpAny_line line js f (act x) W okl hf (rest x iv2 W (hp.of_mem hs))
  · intro t ht s x W f hf hst hI
    obtain ⟨-, iv2, hp⟩ := hI
    obtain ⟨q, hq, rfl⟩ := List.mem_map.1 ht
    have h1 := List.all_eq_true.1 oka q hq
    simp only [Bool.and_eq_true, List.all_eq_true, decide_eq_true_eq] at h1
    exact wpAny_alts q.1 q.2 f (act x) W h1.1 (fun l hl => Nat.le_trans (h1.2 l hl) hf) fun l hl => out q hq l hl x iv2 W (hp.of_mem fun i hi => (hst i).2 hi)
end
end Go.Proofs.Ytljooldjcefkoaa.Kit
