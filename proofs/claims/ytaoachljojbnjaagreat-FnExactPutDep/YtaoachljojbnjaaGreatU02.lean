/- Texts of the proof, bundled: Mr, Rg, Shelf, Cp, Cq, Cr, Mz, Dp, Ap, Dz, Cs, Dm, C8, Pa, Li, Ps. -/
import Derived.RegionTactic
import Derived.Deep.RegionHeld
import Derived.Shelf.Small.Bits
import Derived.Shelf.Small.Wraps
import Derived.Shelf.Strconv.Itoa0
import Derived.Shelf.LaysM
import Derived.Shelf.Strconv.Clone
import Derived.Ground.Names2Prog
import Derived.Shelf.Slices.SearchI
import Derived.Test.YtaoachljojbnjaaGreatProg
import Derived.Deep.AppendLies
import Derived.Test.YtaoachljojbnjaaGreatU01
/- A region whose order is drawn, in which several operations make memory, each by itself, and the rest goes in one order: one obligation for each maker, one for the rest, whatever the order. No Go function is spoken of. -/
namespace Go.Proofs.YtaoachljojbnjaaGreat.Kit
open Go.RowKit
/-- All lists that a list comes to when some are left out. -/
def subs : List Nat → List (List Nat)
  | [] => [[]]
  | x :: r => subs r ++ (subs r).map fun t => x :: t
theorem filter_subs (p : Nat → Bool) (js : List Nat) : js.filter p ∈ subs js := by
  induction js with
  | nil => simp [subs]
  | cons x r ih =>
    rw [subs, List.mem_append]
    by_cases h : p x = true
    · rw [List.filter_cons_of_pos h]
      exact .inr (List.mem_map.2 ⟨_, ih, rfl⟩)
    · rw [List.filter_cons_of_neg h]
      exact .inl ih
/-- Which of n operations are done. -/
def mask (n : Nat) (s : List Nat) : Array Bool := ((List.range n).map fun i => s.contains i).toArray
theorem mask_set (n : Nat) (s : List Nat) (j : Nat) : (mask n s).setIfInBounds j true = mask n (j :: s) := by
  apply Array.ext
  · simp [mask]
  · intro i h1 h2
    simp only [mask, Array.size_setIfInBounds, List.size_toArray, List.length_map, List.length_range] at h1
    rw [Array.getElem_setIfInBounds (by simpa [mask] using h1)]
    simp only [mask, List.getElem_toArray, List.getElem_map, List.getElem_range, List.contains_cons]
    by_cases e : j = i
    · simp [e]
    · have e' : (i == j) = false := by simp; omega
      simp [e, e']
theorem mask_congr (n : Nat) (s s' : List Nat) (h : ∀ i, i ∈ s ↔ i ∈ s') : mask n s = mask n s' := by
  have e : (fun i => s.contains i) = fun i => s'.contains i := by
    funext i
    have := h i
    by_cases hi : i ∈ s
    · simp [hi, this.1 hi]
    · have : ¬ i ∈ s' := fun q => hi (this.2 q)
      simp [hi, this]
  rw [mask, mask, e]
theorem mask_nil (n : Nat) : mask n [] = Array.replicate n false := by
  apply Array.ext
  · simp [mask]
  · intro i h1 h2
    simp [mask]
def upd {α : Type} (x : Nat → α) (j : Nat) (v : α) : Nat → α := fun i => if i = j then v else x i
theorem upd_self {α : Type} (x : Nat → α) (j : Nat) (v : α) : upd x j v j = v := if_pos rfl
theorem upd_ne {α : Type} (x : Nat → α) (j i : Nat) (v : α) (h : i ≠ j) : upd x j v i = x i := if_neg h
/-- Of the makers s that are done: what each made, in blocks of its own from .1 up to .2. -/
structure PI (W0 : World) (s : List Nat) (Post : Nat → Nat → Nat → World → Value → Prop) (x : Nat → Value) (iv : Nat → Nat × Nat) (w : World) : Prop where
  bel : Below W0.heap.size W0 w
  post : ∀ i ∈ s, Post i (iv i).1 (iv i).2 w (x i)
  lo : ∀ i ∈ s, W0.heap.size ≤ (iv i).1 ∧ (iv i).1 ≤ (iv i).2 ∧ (iv i).2 ≤ w.heap.size
  apart : ∀ i ∈ s, ∀ j ∈ s, i ≠ j → (iv i).2 ≤ (iv j).1 ∨ (iv j).2 ≤ (iv i).1
theorem PI.add {W0 : World} {s : List Nat} {Post : Nat → Nat → Nat → World → Value → Prop} {x : Nat → Value} {iv : Nat → Nat × Nat} {w w' : World} {j : Nat} {v : Value} (h : PI W0 s Post x iv w)
    (stable : ∀ i lo hi w w' v, Post i lo hi w v → Below w.heap.size w w' → Post i lo hi w' v) (hj : ¬ j ∈ s) (hb : Below w.heap.size w w') (hp : Post j w.heap.size w'.heap.size w' v) :
    PI W0 (j :: s) Post (upd x j v) (upd iv j (w.heap.size, w'.heap.size)) w' := by
  have hs := h.bel.size
  have hs2 := hb.size
  have ne : ∀ i ∈ s, i ≠ j := fun i hi e => hj (e ▸ hi)
  refine ⟨h.bel.trans (hb.mono hs), fun i hi => ?_, fun i hi => ?_, fun i hi k hk hne => ?_⟩
  · rcases List.mem_cons.1 hi with rfl | hi
    · rw [upd_self, upd_self]; exact hp
    · rw [upd_ne _ _ _ _ (ne i hi), upd_ne _ _ _ _ (ne i hi)]; exact stable _ _ _ _ _ _ (h.post i hi) hb
  · rcases List.mem_cons.1 hi with rfl | hi
    · rw [upd_self]; exact ⟨hs, hs2, Nat.le_refl _⟩
    · rw [upd_ne _ _ _ _ (ne i hi)]; have := h.lo i hi; omega
  · rcases List.mem_cons.1 hi with ei | hi2
    · rcases List.mem_cons.1 hk with ek | hk2
      · exact absurd (ei.trans ek.symm) hne
      · rw [ei, upd_self, upd_ne _ _ _ _ (ne k hk2)]; exact .inr (h.lo k hk2).2.2
    · rcases List.mem_cons.1 hk with ek | hk2
      · rw [ek, upd_self, upd_ne _ _ _ _ (ne i hi2)]; exact .inl (h.lo i hi2).2.2
      · replace hi := hi2
        replace hk := hk2
        rw [upd_ne _ _ _ _ (ne i hi), upd_ne _ _ _ _ (ne k hk)]; exact h.apart i hi k hk hne
theorem PI.of_mem {W0 : World} {s s' : List Nat} {Post : Nat → Nat → Nat → World → Value → Prop} {x : Nat → Value} {iv : Nat → Nat × Nat} {w : World} (h : PI W0 s Post x iv w) (hs : ∀ i ∈ s', i ∈ s) : PI W0 s' Post x iv w :=
  ⟨h.bel, fun i hi => h.post i (hs i hi), fun i hi => h.lo i (hs i hi), fun i hi j hj => h.apart i (hs i hi) j (hs j hj)⟩
/-- What each of t waits for is in t. -/
def closedB (md : Region.Mode) (ops : Array Oper) (t : List Nat) : Bool := t.all fun i => match ops[i]? with | some o => o.after.all fun e => !Region.binds md e || t.contains e.on | none => true
/-- At each state of the makers some are ready, and no other operation is. -/
def makersOk (md : Region.Mode) (ops : Array Oper) (js : List Nat) : Bool :=
  (subs js).all fun t => t == js || !closedB md ops t || (!(Region.ready md ops (mask ops.size t)).isEmpty && (Region.ready md ops (mask ops.size t)).all fun i => js.contains i && !t.contains i)
/-- Behind them the others come in this order. -/
def lineOk (md : Region.Mode) (ops : Array Oper) : List Nat → List Nat → Bool
  | s, [] => (Region.ready md ops (mask ops.size s)).isEmpty
  | s, i :: r => (Region.ready md ops (mask ops.size s) == [i]) && (ops[i]?).isSome && lineOk md ops (i :: s) r
section
variable {P : Program} {ops : Array Oper} {Q : Exit → Act → World → Prop} {md : Region.Mode}
theorem wpAny_line : ∀ (line s : List Nat) (fuel : Nat) (a : Act) (w : World), lineOk md ops s line = true → line.length ≤ fuel → wpList P ops Q (line.filterMap fun i => ops[i]?) a w → wpAny P md ops Q fuel (mask ops.size s) a w
  | [], s, fuel, a, w, h, _, hw => wpAny_done (by simpa [lineOk] using h) (by simpa [wpList] using hw) fuel
  | i :: r, s, 0, a, w, _, hl, _ => by simp at hl
  | i :: r, s, fuel + 1, a, w, h, hl, hw => by
    simp only [lineOk, Bool.and_eq_true, beq_iff_eq] at h
    obtain ⟨⟨h1, h2⟩, h3⟩ := h
    obtain ⟨o, ho⟩ := Option.isSome_iff_exists.1 h2
    have ih := fun a w hw => wpAny_line r (i :: s) fuel a w h3 (by simpa using hl) hw
    refine wpAny_all h1 (by simp) fun j hj => ?_
    obtain rfl : j = i := by simpa using hj
    rw [mask_set]
    have hw' : wpList P ops Q (o :: r.filterMap fun i => ops[i]?) a w := by simpa [ho] using hw
    refine wpOp_mono (fun a w => ih a w) ?_
    unfold wpOp
    rw [ho]
    exact hw'
/-- What an operation that is ready waits for is done. -/
theorem ready_dep {n : Nat} {s : List Nat} {j : Nat} (h : j ∈ Region.ready md ops (mask n s)) {o : Oper} (ho : ops[j]? = some o) {k : Nat} (he : ∃ e ∈ o.after, e.on = k ∧ Region.binds md e = true) : k ∈ s := by
  obtain ⟨-, o', ho', hall⟩ := mem_ready.1 h
  rw [ho] at ho'
  cases ho'
  obtain ⟨e, he1, rfl, he2⟩ := he
  have := hall e he1 he2
  rw [mask] at this
  by_cases hn : e.on < n
  · simpa [Array.getD, hn] using this
  · simp [Array.getD, hn] at this
theorem wpAny_makers (js : List Nat) (fuel : Nat) (act : (Nat → Value) → Act) (W0 : World) (Post : Nat → Nat → Nat → World → Value → Prop) (Inv : List Nat → (Nat → Value) → World → Prop)
    (stable : ∀ i lo hi w w' v, Post i lo hi w v → Below w.heap.size w w' → Post i lo hi w' v) (ok : makersOk md ops js = true)
    (prod : ∀ j ∈ js, ∀ s x iv W, j ∈ Region.ready md ops (mask ops.size s) → ¬ j ∈ s → PI W0 s Post x iv W → Inv s x W → ∀ K : Act → World → Prop, (∀ v W', Below W.heap.size W W' → Post j W.heap.size W'.heap.size W' v → Inv (j :: s) (upd x j v) W' → K (act (upd x j v)) W') → wpOp P ops Q j K (act x) W)
    (rest : ∀ s x iv W f, fuel ≤ f → (∀ i ∈ js, i ∈ s) → PI W0 js Post x iv W → Inv s x W → wpAny P md ops Q f (mask ops.size js) (act x) W) :
    ∀ (m f : Nat) (s : List Nat) (x : Nat → Value) (iv : Nat → Nat × Nat) (W : World), (js.filter fun i => !s.contains i).length ≤ m → fuel ≤ f → (∀ i ∈ s, i ∈ js) → (∀ i ∈ s, ∀ o, ops[i]? = some o → ∀ e ∈ o.after, Region.binds md e = true → e.on ∈ s) → PI W0 s Post x iv W → Inv s x W → wpAny P md ops Q (f + m) (mask ops.size s) (act x) W := by
  intro m
  induction m with
  | zero =>
    intro f s x iv W hc hf hs hcl hp hv
    have hall : ∀ i ∈ js, i ∈ s := fun i hi => by
      by_cases h : i ∈ s
      · exact h
      · have : i ∈ js.filter fun i => !s.contains i := List.mem_filter.2 ⟨hi, by simpa using h⟩
        rw [List.eq_nil_of_length_eq_zero (Nat.le_zero.1 hc)] at this
        cases this
    rw [mask_congr ops.size s js fun i => ⟨hs i, hall i⟩]
    exact rest s x iv W (f + 0) (by omega) hall (hp.of_mem hall) hv
  | succ m ih =>
    intro f s x iv W hc hf hs hcl hp hv
    by_cases hall : ∀ i ∈ js, i ∈ s
    · rw [mask_congr ops.size s js fun i => ⟨hs i, hall i⟩]
      exact rest s x iv W _ (by omega) hall (hp.of_mem hall) hv
    · have hmask : mask ops.size s = mask ops.size (js.filter fun i => s.contains i) := mask_congr _ _ _ fun i => ⟨fun h => List.mem_filter.2 ⟨hs i h, by simpa using h⟩, fun h => by simpa using (List.mem_filter.1 h).2⟩
      have hk := List.all_eq_true.1 ok _ (filter_subs (fun i => s.contains i) js)
      have hne : ((js.filter fun i => s.contains i) == js) = false := by
        apply Bool.eq_false_iff.2
        intro e
        rw [beq_iff_eq] at e
        exact hall fun i hi => by
          rw [← e] at hi
          simpa using (List.mem_filter.1 hi).2
      have hclo : closedB md ops (js.filter fun i => s.contains i) = true := by
        refine List.all_eq_true.2 fun i hi => ?_
        have his : i ∈ s := by simpa using (List.mem_filter.1 hi).2
        cases ho : ops[i]? with
        | none => rfl
        | some o =>
          simp only
          refine Array.all_eq_true_iff_forall_mem.2 fun e he => ?_
          cases hbi : Region.binds md e with
          | false => rfl
          | true =>
            have := hcl i his o ho e he hbi
            simp [this, hs _ this]
      rw [hne, hclo, Bool.false_or, Bool.not_true, Bool.false_or, Bool.and_eq_true] at hk
      obtain ⟨h1, h2⟩ := hk
      rw [← hmask] at h1 h2
      refine wpAny_all rfl (by intro e; rw [e] at h1; simp at h1) fun j hj => ?_
      have hj2 := List.all_eq_true.1 h2 j hj
      simp only [Bool.and_eq_true, List.contains_iff_mem, Bool.not_eq_true'] at hj2
      have hjs : j ∈ js := by simpa using hj2.1
      have hjn : ¬ j ∈ s := fun h => by
        have : j ∈ js.filter fun i => s.contains i := List.mem_filter.2 ⟨hjs, by simpa using h⟩
        have h3 := hj2.2
        simp [hjs, h] at h3
      rw [mask_set]
      refine prod j hjs s x iv W hj hjn hp hv _ fun v W' hb hpo hv' => ih f (j :: s) _ _ W' ?_ hf (fun i hi => (List.mem_cons.1 hi).elim (fun e => e ▸ hjs) (hs i)) (fun i hi o ho e he hbi => List.mem_cons_of_mem _ ((List.mem_cons.1 hi).elim (fun q => by subst q; exact ready_dep hj ho ⟨e, he, rfl, hbi⟩) (fun q => hcl i q o ho e he hbi))) (hp.add stable hjn hb hpo) hv'
      have hlt : (js.filter fun i => !(j :: s).contains i).length < (js.filter fun i => !s.contains i).length := by
        have e : (js.filter fun i => !(j :: s).contains i) = (js.filter fun i => !s.contains i).filter fun i => !(i == j) := by
          rw [List.filter_filter]
          apply List.filter_congr
          intro i _
          by_cases e1 : i = j <;> by_cases e2 : i ∈ s <;> simp [e1, e2]
        rw [e, List.length_filter_lt_length_iff_exists]
        exact ⟨j, List.mem_filter.2 ⟨hjs, by simpa using hjn⟩, by simp⟩
      omega
/-- The region, whatever order is drawn. -/
theorem wp_region_makers {id : Nat} {w : World} {a0 : Act} (hm : P.follows .mixedOrders = true) (js line : List Nat) (act : (Nat → Value) → Act) (x0 : Nat → Value) (ha : a0 = act x0) (Post : Nat → Nat → Nat → World → Value → Prop) (Inv : List Nat → (Nat → Value) → World → Prop)
    (stable : ∀ i lo hi w w' v, Post i lo hi w v → Below w.heap.size w w' → Post i lo hi w' v) (ok : makersOk .any ops js = true) (okl : lineOk .any ops js line = true) (hsz : line.length + js.length = ops.size) (hv : Inv [] x0 w.drew)
    (prod : ∀ j ∈ js, ∀ s x iv W, j ∈ Region.ready .any ops (mask ops.size s) → ¬ j ∈ s → PI w.drew s Post x iv W → Inv s x W → ∀ K : Act → World → Prop, (∀ v W', Below W.heap.size W W' → Post j W.heap.size W'.heap.size W' v → Inv (j :: s) (upd x j v) W' → K (act (upd x j v)) W') → wpOp P ops Q j K (act x) W)
    (rest : ∀ s x iv W, (∀ i ∈ js, i ∈ s) → PI w.drew js Post x iv W → Inv s x W → wpList P ops Q (line.filterMap fun i => ops[i]?) (act x) W) : (Code.region id ops true).wp P Q a0 w := by
  subst ha
  refine wp_region_any hm ?_
  have h := wpAny_makers (P := P) (Q := Q) (md := .any) js line.length act w.drew Post Inv stable ok prod (fun s x iv W f hf hs hp hi => wpAny_line line js f (act x) W okl hf (rest s x iv W hs hp hi)) js.length line.length [] x0 (fun _ => (0, 0)) w.drew (List.length_filter_le _ _) (Nat.le_refl _) (fun i hi => by cases hi) (fun i hi => by cases hi) ⟨Below.refl _ _, (fun i hi => by cases hi), (fun i hi => by cases hi), (fun i hi => by cases hi)⟩ hv
  rw [hsz, mask_nil] at h
  exact h
end
end Go.Proofs.YtaoachljojbnjaaGreat.Kit
/- A drawn region whose operations only read and make memory, ahead of a line of others: each is told once, by what it yields out of what it waits for. No Go function is spoken of. -/
namespace Go.Proofs.YtaoachljojbnjaaGreat.Kit
open Go.RowKit
/-- What is done so far: each yielded what is told of it, in an interval of new blocks of its own. -/
structure PX (W0 : World) (s : List Nat) (Po : Nat → Nat → Nat → World → (Nat → Value) → Prop) (x : Nat → Value) (iv : Nat → Nat × Nat) (w : World) : Prop where
  bel : Below W0.heap.size W0 w
  post : ∀ i ∈ s, Po i (iv i).1 (iv i).2 w x
  lo : ∀ i ∈ s, W0.heap.size ≤ (iv i).1 ∧ (iv i).1 ≤ (iv i).2 ∧ (iv i).2 ≤ w.heap.size
  apart : ∀ i ∈ s, ∀ j ∈ s, i ≠ j → (iv i).2 ≤ (iv j).1 ∨ (iv j).2 ≤ (iv i).1
theorem PX.add {W0 : World} {s : List Nat} {Po : Nat → Nat → Nat → World → (Nat → Value) → Prop} {x : Nat → Value} {iv : Nat → Nat × Nat} {w w' : World} {j : Nat} {v : Value} (deps : Nat → List Nat) (h : PX W0 s Po x iv w)
    (stable : ∀ i lo hi w w' x, Po i lo hi w x → Below w.heap.size w w' → Po i lo hi w' x) (cong : ∀ i lo hi w x x', x i = x' i → (∀ k ∈ deps i, x k = x' k) → Po i lo hi w x → Po i lo hi w x')
    (hcl : ∀ i ∈ s, ∀ k ∈ deps i, k ∈ s) (hj : ¬ j ∈ s) (hb : Below w.heap.size w w') (hp : Po j w.heap.size w'.heap.size w' (upd x j v)) :
    PX W0 (j :: s) Po (upd x j v) (upd iv j (w.heap.size, w'.heap.size)) w' := by
  have hs := h.bel.size
  have hs2 := hb.size
  have ne : ∀ i ∈ s, i ≠ j := fun i hi e => hj (e ▸ hi)
  refine ⟨h.bel.trans (hb.mono hs), fun i hi => ?_, fun i hi => ?_, fun i hi k hk hne => ?_⟩
  · rcases List.mem_cons.1 hi with rfl | hi
    · rw [upd_self]; exact hp
    · rw [upd_ne _ _ _ _ (ne i hi)]
      exact cong _ _ _ _ _ _ (upd_ne _ _ _ _ (ne i hi)).symm (fun k hk => (upd_ne _ _ _ _ (ne k (hcl i hi k hk))).symm) (stable _ _ _ _ _ _ (h.post i hi) hb)
  · rcases List.mem_cons.1 hi with rfl | hi
    · rw [upd_self]; exact ⟨hs, hs2, Nat.le_refl _⟩
    · rw [upd_ne _ _ _ _ (ne i hi)]; have := h.lo i hi; omega
  · rcases List.mem_cons.1 hi with ei | hi2
    · rcases List.mem_cons.1 hk with ek | hk2
      · exact absurd (ei.trans ek.symm) hne
      · rw [ei, upd_self, upd_ne _ _ _ _ (ne k hk2)]; exact .inr (h.lo k hk2).2.2
    · rcases List.mem_cons.1 hk with ek | hk2
      · rw [ek, upd_self, upd_ne _ _ _ _ (ne i hi2)]; exact .inl (h.lo i hi2).2.2
      · rw [upd_ne _ _ _ _ (ne i hi2), upd_ne _ _ _ _ (ne k hk2)]; exact h.apart i hi2 k hk2 hne
theorem PX.of_mem {W0 : World} {s s' : List Nat} {Po : Nat → Nat → Nat → World → (Nat → Value) → Prop} {x : Nat → Value} {iv : Nat → Nat × Nat} {w : World} (h : PX W0 s Po x iv w) (hs : ∀ i ∈ s', i ∈ s) : PX W0 s' Po x iv w :=
  ⟨h.bel, fun i hi => h.post i (hs i hi), fun i hi => h.lo i (hs i hi), fun i hi j hj => h.apart i (hs i hi) j (hs j hj)⟩
/-- What each waits for is among its edges. -/
def depsOk (ops : Array Oper) (js : List Nat) (deps : Nat → List Nat) : Bool := js.all fun j => match ops[j]? with | some o => (deps j).all fun k => o.after.any fun e => e.on == k && Region.binds .any e | none => false
section
variable {P : Program} {ops : Array Oper} {Q : Exit → Act → World → Prop}
/-- The region, whatever order is drawn. -/
theorem wp_region_gen {id : Nat} {w : World} {a0 : Act} (hm : P.follows .mixedOrders = true) (js line : List Nat) (deps : Nat → List Nat) (act : (Nat → Value) → Act) (x0 : Nat → Value) (ha : a0 = act x0) (Po : Nat → Nat → Nat → World → (Nat → Value) → Prop)
    (stable : ∀ i lo hi w w' x, Po i lo hi w x → Below w.heap.size w w' → Po i lo hi w' x) (cong : ∀ i lo hi w x x', x i = x' i → (∀ k ∈ deps i, x k = x' k) → Po i lo hi w x → Po i lo hi w x')
    (ok : makersOk .any ops js = true) (okl : lineOk .any ops js line = true) (okd : depsOk ops js deps = true) (hsz : line.length + js.length = ops.size)
    (prod : ∀ j ∈ js, ∀ s x iv W, (∀ k ∈ deps j, k ∈ s) → PX w.drew s Po x iv W → ∀ K : Act → World → Prop, (∀ v W', Below W.heap.size W W' → Po j W.heap.size W'.heap.size W' (upd x j v) → K (act (upd x j v)) W') → wpOp P ops Q j K (act x) W)
    (rest : ∀ x iv W, PX w.drew js Po x iv W → wpList P ops Q (line.filterMap fun i => ops[i]?) (act x) W) : (Code.region id ops true).wp P Q a0 w := by
  have dep : ∀ j ∈ js, ∀ s, j ∈ Region.ready .any ops (mask ops.size s) → ∀ k ∈ deps j, k ∈ s := by
    intro j hj s hr k hk
    have h := List.all_eq_true.1 okd j hj
    cases ho : ops[j]? with
    | none => rw [ho] at h; cases h
    | some o =>
      rw [ho] at h
      simp only [List.all_eq_true, Array.any_eq_true] at h
      obtain ⟨i, hi, h2⟩ := h k hk
      simp only [Bool.and_eq_true, beq_iff_eq] at h2
      exact ready_dep hr ho ⟨o.after[i], Array.getElem_mem hi, h2.1, h2.2⟩
  refine wp_region_makers hm js line act x0 ha (fun _ _ _ _ _ => True) (fun s x W => (∀ i ∈ s, ∀ k ∈ deps i, k ∈ s) ∧ ∃ iv, PX w.drew s Po x iv W) (fun _ _ _ _ _ _ _ _ => trivial) ok okl hsz ⟨(fun i hi => by cases hi), fun _ => (0, 0), ⟨Below.refl _ _, (fun i hi => by cases hi), (fun i hi => by cases hi), (fun i hi => by cases hi)⟩⟩ ?_ ?_
  · intro j hj s x iv W hr hns _ hI K hK
    obtain ⟨hcl, iv2, hp⟩ := hI
    have hd := dep j hj s hr
    refine prod j hj s x iv2 W hd hp K fun v W' hb hpo => hK v W' hb trivial ⟨fun i hi k hk => ?_, _, hp.add deps stable cong hcl hns hb hpo⟩
    rcases List.mem_cons.1 hi with rfl | hi
    · exact List.mem_cons_of_mem _ (hd k hk)
    · exact List.mem_cons_of_mem _ (hcl i hi k hk)
  · intro s x iv W hs _ hI
    obtain ⟨-, iv2, hp⟩ := hI
    exact rest x iv2 W (hp.of_mem hs)
end
end Go.Proofs.YtaoachljojbnjaaGreat.Kit
namespace Go.Proofs.YtaoachljojbnjaaGreat.Kit
open Go.RowKit
/-- What is told of one operation's value: out of the interval of its blocks, the world, the value, and the values that it waited for. -/
structure Mk where
  deps : List Nat
  P : Nat → Nat → World → Value → (Nat → Value) → Prop
  st : ∀ lo hi w w' v x, P lo hi w v x → Below w.heap.size w w' → P lo hi w' v x
  cg : ∀ lo hi w v x x', (∀ k ∈ deps, x k = x' k) → P lo hi w v x → P lo hi w v x'
/-- Nothing is told. -/
def Mk.triv : Mk := ⟨[], fun _ _ _ _ _ => True, fun _ _ _ _ _ _ _ _ => trivial, fun _ _ _ _ _ _ _ _ => trivial⟩
/-- The value is known. -/
def Mk.const (deps : List Nat) (C : Value) : Mk := ⟨deps, fun _ _ _ v _ => v = C, fun _ _ _ _ _ _ h _ => h, fun _ _ _ _ _ _ _ h => h⟩
/-- Something is told of the value alone. -/
def Mk.val (deps : List Nat) (R : Nat → Nat → World → Value → Prop) (st : ∀ lo hi w w' v, R lo hi w v → Below w.heap.size w w' → R lo hi w' v) : Mk :=
  ⟨deps, fun lo hi w v _ => R lo hi w v, fun lo hi w w' v _ h hb => st lo hi w w' v h hb, fun _ _ _ _ _ _ _ h => h⟩
/-- Something is told of the value, beside one that it waited for. -/
def Mk.val1 (deps : List Nat) (k : Nat) (hk : k ∈ deps) (R : Nat → Nat → World → Value → Value → Prop) (st : ∀ lo hi w w' u v, R lo hi w u v → Below w.heap.size w w' → R lo hi w' u v) : Mk :=
  ⟨deps, fun lo hi w v x => R lo hi w (x k) v, fun lo hi w w' v x h hb => st lo hi w w' (x k) v h hb, fun lo hi w v x x' e h => by rw [← e k hk]; exact h⟩
/-- The frame with the values of the first operations in their slots. -/
def actOf (a : Act) : List Nat → Nat → (Nat → Value) → Act
  | [], _, _ => a
  | s :: r, i, x => actOf (a.put (some s) (x i)) r (i + 1) x
section
variable {P : Program} {ops : Array Oper} {Q : Exit → Act → World → Prop}
theorem wp_region_mk {id : Nat} {w : World} {a0 : Act} (hm : P.follows .mixedOrders = true) (js line sl : List Nat) (L : Nat → Mk) (x0 : Nat → Value) (ha : a0 = actOf a0 sl 0 x0)
    (ok : makersOk .any ops js = true) (okl : lineOk .any ops js line = true) (okd : depsOk ops js (fun i => (L i).deps) = true) (hsz : line.length + js.length = ops.size)
    (prod : ∀ j ∈ js, ∀ s x iv W, (∀ k ∈ (L j).deps, k ∈ s) → PX w.drew s (fun i lo hi w x => (L i).P lo hi w (x i) x) x iv W → ∀ K : Act → World → Prop, (∀ v W', Below W.heap.size W W' → (L j).P W.heap.size W'.heap.size W' v (upd x j v) → K (actOf a0 sl 0 (upd x j v)) W') → wpOp P ops Q j K (actOf a0 sl 0 x) W)
    (rest : ∀ x iv W, PX w.drew js (fun i lo hi w x => (L i).P lo hi w (x i) x) x iv W → wpList P ops Q (line.filterMap fun i => ops[i]?) (actOf a0 sl 0 x) W) : (Code.region id ops true).wp P Q a0 w :=
  wp_region_gen hm js line (fun i => (L i).deps) (actOf a0 sl 0) x0 ha (fun i lo hi w x => (L i).P lo hi w (x i) x) (fun i lo hi w w' x h hb => (L i).st lo hi w w' (x i) x h hb)
    (fun i lo hi w x x' e1 e2 h => by rw [← e1]; exact (L i).cg lo hi w (x i) x x' e2 h) ok okl okd hsz (fun j hj s x iv W hd hp K hK => prod j hj s x iv W hd hp K fun v W' hb h => hK v W' hb (by rw [upd_self]; exact h)) rest
/-- The same, from the values that lie in the slots. -/
theorem wp_region_mks {id : Nat} {w : World} {a0 : Act} (hm : P.follows .mixedOrders = true) (js line sl : List Nat) (L : Nat → Mk) (ha : a0 = actOf a0 sl 0 (fun i => a0.tmps.getD (sl.getD i 0) undef))
    (ok : makersOk .any ops js = true) (okl : lineOk .any ops js line = true) (okd : depsOk ops js (fun i => (L i).deps) = true) (hsz : line.length + js.length = ops.size)
    (prod : ∀ j ∈ js, ∀ s x iv W, (∀ k ∈ (L j).deps, k ∈ s) → PX w.drew s (fun i lo hi w x => (L i).P lo hi w (x i) x) x iv W → ∀ K : Act → World → Prop, (∀ v W', Below W.heap.size W W' → (L j).P W.heap.size W'.heap.size W' v (upd x j v) → K (actOf a0 sl 0 (upd x j v)) W') → wpOp P ops Q j K (actOf a0 sl 0 x) W)
    (rest : ∀ x iv W, PX w.drew js (fun i lo hi w x => (L i).P lo hi w (x i) x) x iv W → wpList P ops Q (line.filterMap fun i => ops[i]?) (actOf a0 sl 0 x) W) : (Code.region id ops true).wp P Q a0 w :=
  wp_region_mk hm js line sl L _ ha ok okl okd hsz prod rest
/-- The same, with the frame written out. -/
theorem wp_region_frm {id : Nat} {w : World} {a0 : Act} (hm : P.follows .mixedOrders = true) (js line : List Nat) (L : Nat → Mk) (act : (Nat → Value) → Act) (x0 : Nat → Value) (ha : a0 = act x0)
    (ok : makersOk .any ops js = true) (okl : lineOk .any ops js line = true) (okd : depsOk ops js (fun i => (L i).deps) = true) (hsz : line.length + js.length = ops.size)
    (prod : ∀ j ∈ js, ∀ s x iv W, (∀ k ∈ (L j).deps, k ∈ s) → PX w.drew s (fun i lo hi w x => (L i).P lo hi w (x i) x) x iv W → ∀ K : Act → World → Prop, (∀ v W', Below W.heap.size W W' → (L j).P W.heap.size W'.heap.size W' v (upd x j v) → K (act (upd x j v)) W') → wpOp P ops Q j K (act x) W)
    (rest : ∀ x iv W, PX w.drew js (fun i lo hi w x => (L i).P lo hi w (x i) x) x iv W → wpList P ops Q (line.filterMap fun i => ops[i]?) (act x) W) : (Code.region id ops true).wp P Q a0 w :=
  wp_region_gen hm js line (fun i => (L i).deps) act x0 ha (fun i lo hi w x => (L i).P lo hi w (x i) x) (fun i lo hi w w' x h hb => (L i).st lo hi w w' (x i) x h hb)
    (fun i lo hi w x x' e1 e2 h => by rw [← e1]; exact (L i).cg lo hi w (x i) x x' e2 h) ok okl okd hsz (fun j hj s x iv W hd hp K hK => prod j hj s x iv W hd hp K fun v W' hb h => hK v W' hb (by rw [upd_self]; exact h)) rest
end
end Go.Proofs.YtaoachljojbnjaaGreat.Kit
/- Library contracts laid at this translation by the shelf (its own tool, plain mode). -/
namespace Go.Proofs.YtaoachljojbnjaaGreat
open Go.Shelf
def Tryz.lays128_ren : Go.Shelf.Ren := ⟨fun | 128 => 98 | n => n, fun | 51 => 145 | 3 => 3 | 4 => 4 | 46 => 129 | 5 => 5 | 9 => 9 | n => n, fun | n => n⟩
theorem Tryz.lays128 : Go.Proofs.Lays.n128 Tryz.prog Tryz.lays128_ren := {
  mixed := by kernel_rfl
  f128 := Tryz.func98.trans (congrArg some (by kernel_rfl))
  t3 := Tryz.underlying3
  a3 := Tryz.isAgg3
  z3 := Tryz.sizeOf3
  v3 := Tryz.zeroValue3
  t4 := Tryz.underlying4
  a4 := Tryz.isAgg4
  z4 := Tryz.sizeOf4
  v4 := Tryz.zeroValue4
  t5 := Tryz.underlying5
  a5 := Tryz.isAgg5
  z5 := Tryz.sizeOf5
  v5 := Tryz.zeroValue5
  t9 := Tryz.underlying9
  a9 := Tryz.isAgg9
  z9 := Tryz.sizeOf9
  v9 := Tryz.zeroValue9
  t46 := Tryz.underlying129
  a46 := Tryz.isAgg129
  z46 := Tryz.sizeOf129
  v46 := Tryz.zeroValue129
  t51 := Tryz.underlying145
  a51 := Tryz.isAgg145
  z51 := Tryz.sizeOf145
  v51 := Tryz.zeroValue145 }
theorem Tryz.bits_Len32 (x : Int) (w : World) (h0 : 0 ≤ x) (h1 : x ≤ 4294967295) :
    Calls Tryz.prog 98 #[.int .u32 x] w fun e w' => e = .returned (.int .i64 (Lib.bitLen x.toNat)) ∧ w' = w := Any.bits_Len32 Tryz.lays128 x w h0 h1
def Tryz.lays125_ren : Go.Shelf.Ren := ⟨fun | 125 => 85 | 128 => 98 | 129 => 99 | n => n, fun | 46 => 129 | 3 => 3 | 51 => 145 | 53 => 147 | 4 => 4 | 5 => 5 | 9 => 9 | n => n, fun | n => n⟩
theorem Tryz.lays125 : Go.Proofs.Lays.n125 Tryz.prog Tryz.lays125_ren := {
  mixed := by kernel_rfl
  f125 := Tryz.func85.trans (congrArg some (by kernel_rfl))
  f128 := Tryz.func98.trans (congrArg some (by kernel_rfl))
  f129 := Tryz.func99.trans (congrArg some (by kernel_rfl))
  t3 := Tryz.underlying3
  a3 := Tryz.isAgg3
  z3 := Tryz.sizeOf3
  v3 := Tryz.zeroValue3
  t4 := Tryz.underlying4
  a4 := Tryz.isAgg4
  z4 := Tryz.sizeOf4
  v4 := Tryz.zeroValue4
  t5 := Tryz.underlying5
  a5 := Tryz.isAgg5
  z5 := Tryz.sizeOf5
  v5 := Tryz.zeroValue5
  t9 := Tryz.underlying9
  a9 := Tryz.isAgg9
  z9 := Tryz.sizeOf9
  v9 := Tryz.zeroValue9
  t46 := Tryz.underlying129
  a46 := Tryz.isAgg129
  z46 := Tryz.sizeOf129
  v46 := Tryz.zeroValue129
  t51 := Tryz.underlying145
  a51 := Tryz.isAgg145
  z51 := Tryz.sizeOf145
  v51 := Tryz.zeroValue145
  t53 := Tryz.underlying147
  a53 := Tryz.isAgg147
  z53 := Tryz.sizeOf147
  v53 := Tryz.zeroValue147 }
theorem Tryz.bits_Len (x : Int) (w : World) (h0 : 0 ≤ x) (h1 : x ≤ 18446744073709551615) :
    Calls Tryz.prog 85 #[.int .u64 x] w fun e w' => e = .returned (.int .i64 (Lib.bitLen x.toNat)) ∧ w' = w := Any.bits_Len Tryz.lays125 x w h0 h1
def Tryz.lays215_ren : Go.Shelf.Ren := ⟨fun | 215 => 86 | n => n, fun | 3 => 3 | 4 => 4 | n => n, fun | n => n⟩
theorem Tryz.lays215 : Go.Proofs.Lays.n215 Tryz.prog Tryz.lays215_ren := {
  mixed := by kernel_rfl
  f215 := Tryz.func86.trans (congrArg some (by kernel_rfl))
  t3 := Tryz.underlying3
  a3 := Tryz.isAgg3
  z3 := Tryz.sizeOf3
  v3 := Tryz.zeroValue3
  t4 := Tryz.underlying4
  a4 := Tryz.isAgg4
  z4 := Tryz.sizeOf4
  v4 := Tryz.zeroValue4 }
open Go.RowKit in
theorem Tryz.cmp_isNaN_int (x : Int) (w : World) :
    Calls Tryz.prog 86 #[.int .i64 x] w fun e w' => e = .returned (.bool false) ∧ w' = w := Any.cmp_isNaN_int Tryz.lays215 x w
def Tryz.lays122_ren : Go.Shelf.Ren := ⟨fun | 122 => 75 | 215 => 86 | n => n, fun | 3 => 3 | 4 => 4 | n => n, fun | n => n⟩
theorem Tryz.lays122 : Go.Proofs.Lays.n122 Tryz.prog Tryz.lays122_ren := {
  mixed := by kernel_rfl
  f122 := Tryz.func75.trans (congrArg some (by kernel_rfl))
  f215 := Tryz.func86.trans (congrArg some (by kernel_rfl))
  t3 := Tryz.underlying3
  a3 := Tryz.isAgg3
  z3 := Tryz.sizeOf3
  v3 := Tryz.zeroValue3
  t4 := Tryz.underlying4
  a4 := Tryz.isAgg4
  z4 := Tryz.sizeOf4
  v4 := Tryz.zeroValue4 }
open Go.RowKit in
theorem Tryz.cmp_Compare_int (x y : Int) (w : World) :
    Calls Tryz.prog 75 #[.int .i64 x, .int .i64 y] w fun e w' => e = .returned (.int .i64 (Lib.compareInt x y)) ∧ w' = w := Any.cmp_Compare_int Tryz.lays122 x y w
def Tryz.lays129_ren : Go.Shelf.Ren := ⟨fun | 129 => 99 | n => n, fun | 53 => 147 | 3 => 3 | 4 => 4 | 46 => 129 | 5 => 5 | 9 => 9 | n => n, fun | n => n⟩
theorem Tryz.lays129 : Go.Proofs.Lays.n129 Tryz.prog Tryz.lays129_ren := {
  mixed := by kernel_rfl
  f129 := Tryz.func99.trans (congrArg some (by kernel_rfl))
  t3 := Tryz.underlying3
  a3 := Tryz.isAgg3
  z3 := Tryz.sizeOf3
  v3 := Tryz.zeroValue3
  t4 := Tryz.underlying4
  a4 := Tryz.isAgg4
  z4 := Tryz.sizeOf4
  v4 := Tryz.zeroValue4
  t5 := Tryz.underlying5
  a5 := Tryz.isAgg5
  z5 := Tryz.sizeOf5
  v5 := Tryz.zeroValue5
  t9 := Tryz.underlying9
  a9 := Tryz.isAgg9
  z9 := Tryz.sizeOf9
  v9 := Tryz.zeroValue9
  t46 := Tryz.underlying129
  a46 := Tryz.isAgg129
  z46 := Tryz.sizeOf129
  v46 := Tryz.zeroValue129
  t53 := Tryz.underlying147
  a53 := Tryz.isAgg147
  z53 := Tryz.sizeOf147
  v53 := Tryz.zeroValue147 }
theorem Tryz.bits_Len64 (x : Int) (w : World) (h0 : 0 ≤ x) (h1 : x ≤ 18446744073709551615) :
    Calls Tryz.prog 99 #[.int .u64 x] w fun e w' => e = .returned (.int .i64 (Lib.bitLen x.toNat)) ∧ w' = w := Any.bits_Len64 Tryz.lays129 x w h0 h1
def Tryz.laysM316_ren : Go.Shelf.Ren := ⟨fun | 316 => 82 | n => n, fun | 9 => 9 | 3 => 3 | 4 => 4 | 37 => 121 | 0 => 0 | 127 => 135 | 5 => 5 | n => n, fun | n => n⟩
theorem Tryz.laysM316 : Go.Proofs.LaysM.n316 Tryz.prog Tryz.laysM316_ren := {
  mixed := by kernel_rfl
  f316 := Tryz.func82.trans (congrArg some (by kernel_rfl))
  t0 := Tryz.underlying0
  a0 := Tryz.isAgg0
  z0 := Tryz.sizeOf0
  v0 := Tryz.zeroValue0
  t3 := Tryz.underlying3
  a3 := Tryz.isAgg3
  z3 := Tryz.sizeOf3
  v3 := Tryz.zeroValue3
  t4 := Tryz.underlying4
  a4 := Tryz.isAgg4
  z4 := Tryz.sizeOf4
  v4 := Tryz.zeroValue4
  t9 := Tryz.underlying9
  a9 := Tryz.isAgg9
  z9 := Tryz.sizeOf9
  v9 := Tryz.zeroValue9
  t37 := Tryz.underlying121
  a37 := Tryz.isAgg121
  z37 := Tryz.sizeOf121
  v37 := Tryz.zeroValue121
  t127 := Tryz.underlying135
  a127 := Tryz.isAgg135
  z127 := Tryz.sizeOf135
  v127 := Tryz.zeroValue135
  t5 := Tryz.underlying5
  a5 := Tryz.isAgg5
  z5 := Tryz.sizeOf5
  v5 := Tryz.zeroValue5
  i0 := by kernel_rfl
  i3 := by kernel_rfl
  i4 := by kernel_rfl
  i5 := by kernel_rfl
  i9 := by kernel_rfl
  i37 := by kernel_rfl
  i127 := by kernel_rfl }
open Go.RowKit in
theorem Tryz.stringslite_Clone (s : ByteArray) (w : World) (hlim : s.size ≤ 281474976710656) :
    Calls Tryz.prog 82 #[.string s] w fun e w' => e = .returned (.string s) ∧ Below w.heap.size w w' := Any.stringslite_Clone Tryz.laysM316 s w hlim
def Tryz.laysNm237_ren : Go.Shelf.Ren := ⟨fun | 37 => 86 | n => n, fun | 3 => 3 | 4 => 4 | n => n, fun | n => n⟩
theorem Tryz.laysNm237 : Go.Proofs.Lays2.n37 Tryz.prog Tryz.laysNm237_ren := {
  mixed := by kernel_rfl
  f37 := Tryz.func86.trans (congrArg some (by kernel_rfl))
  t3 := Tryz.underlying3
  a3 := Tryz.isAgg3
  z3 := Tryz.sizeOf3
  v3 := Tryz.zeroValue3
  t4 := Tryz.underlying4
  a4 := Tryz.isAgg4
  z4 := Tryz.sizeOf4
  v4 := Tryz.zeroValue4 }
open Go.RowKit Go.Lib in
theorem Tryz.cmp_isNaN_int2 (x : Int) (w : World) :
    Calls Tryz.prog 86 #[.int .i64 x] w fun e w' => e = .returned (.bool false) ∧ w' = w := Any.cmp_isNaN_int2 Tryz.laysNm237 x w
end Go.Proofs.YtaoachljojbnjaaGreat
/- Copies: impl.newList, strings.Clone, spec.l03Copy, spec.l04Copy by their contracts. -/
namespace Go.Proofs.YtaoachljojbnjaaGreat
open Go.RowKit Kit
set_option maxRecDepth 100000 in
theorem newB_any (v : Value) (xs : List Bool) (w : World) (h : RFl w v xs) (hl : xs.length ≤ 1048576) :
    Calls Tryz.prog 50 #[v] w fun e w' => ∃ u, e = .returned u ∧ ROwns w' w.heap.size 4 u (fc xs) ∧ Below w.heap.size w w' := by
  have HR := hide h
  have HL : Hid (xs.length ≤ 100000000000) := Nat.le_trans hl (by decide)
  clear h hl
  go_enter Tryz.func50, Tryz.ntmps50
  go_wp2_with (at_builtin; refine wpList_append_copy _ rfl _ _ 22 rfl w.heap.size 4 Tryz.underlying22 _ 1 1 Tryz.i4 rfl (by decide) (by decide) _ rfl (World.ownsRow_nil _ _ _ _) (Nat.le_refl _) _ rfl xs.length (fc xs) HR.out.rc (by rw [fc_length, Nat.mul_one]) (fc_one xs) HL.out ?_; intro v' w1 R1 R2 R3)
  have HX : Hid (ROwns w1 w.heap.size 4 v' (fc xs) ∧ Below w.heap.size w w1) := ⟨by unfold ROwns; rw [fc_length]; exact R1, below_of_append (Below.refl _ _) (Nat.le_refl _) R2 (fun k hk => by cases hk)⟩
  clear R1 R2 R3
  go_wp2
  go_ret
  exact ⟨_, rfl, HX.out.1, HX.out.2⟩
set_option maxRecDepth 100000 in
theorem newI_any (v : Value) (xs : List Int) (w : World) (h : RInts w v xs) (hl : xs.length ≤ 1048576) :
    Calls Tryz.prog 71 #[v] w fun e w' => ∃ u, e = .returned u ∧ ROwns w' w.heap.size 3 u (ic xs) ∧ Below w.heap.size w w' := by
  have HR := hide h
  have HL : Hid (xs.length ≤ 100000000000) := Nat.le_trans hl (by decide)
  clear h hl
  go_enter Tryz.func71, Tryz.ntmps71
  go_wp2_with (at_builtin; refine wpList_append_copy _ rfl _ _ 32 rfl w.heap.size 3 Tryz.underlying32 _ 1 8 Tryz.i3 rfl (by decide) (by decide) _ rfl (World.ownsRow_nil _ _ _ _) (Nat.le_refl _) _ rfl xs.length (ic xs) HR.out.rc (by rw [ic_length, Nat.mul_one]) (ic_one xs) HL.out ?_; intro v' w1 R1 R2 R3)
  have HX : Hid (ROwns w1 w.heap.size 3 v' (ic xs) ∧ Below w.heap.size w w1) := ⟨by unfold ROwns; rw [ic_length]; exact R1, below_of_append (Below.refl _ _) (Nat.le_refl _) R2 (fun k hk => by cases hk)⟩
  clear R1 R2 R3
  go_wp2
  go_ret
  exact ⟨_, rfl, HX.out.1, HX.out.2⟩
set_option maxRecDepth 100000 in
theorem newS_any (v : Value) (xs : List Sl) (w : World) (h : RSl w v xs) (hl : xs.length ≤ 1048576) :
    Calls Tryz.prog 83 #[v] w fun e w' => ∃ u, e = .returned u ∧ SOwns w' w.heap.size 126 u xs ∧ Below w.heap.size w w' := by
  have HR := hide h
  have HL : Hid (xs.length ≤ 100000000000) := Nat.le_trans hl (by decide)
  clear h hl
  go_enter Tryz.func83, Tryz.ntmps83
  go_wp2_with (at_builtin; refine wpList_append_copy _ rfl _ _ 107 rfl w.heap.size 126 Tryz.underlying107 _ 2 24 Tryz.i126 rfl (by decide) (by decide) _ rfl (World.ownsRow_nil _ _ _ _) (Nat.le_refl _) _ rfl xs.length (sc xs) HR.out.rc (sc_length xs) (sc_one xs) HL.out ?_; intro v' w1 R1 R2 R3)
  have HX : Hid (SOwns w1 w.heap.size 126 v' xs ∧ Below w.heap.size w w1) := ⟨R1, below_of_append (Below.refl _ _) (Nat.le_refl _) R2 (fun k hk => by cases hk)⟩
  clear R1 R2 R3
  go_wp2
  go_ret
  exact ⟨_, rfl, HX.out.1, HX.out.2⟩
theorem clone_any (s : ByteArray) (w : World) (h : s.size ≤ 281474976710656) :
    Calls Tryz.prog 70 #[.string s] w fun e w' => e = .returned (.string s) ∧ Below w.heap.size w w' := by
  go_enter Tryz.func70, Tryz.ntmps70
  go_wp2_with (go_at_call 82; refine (Tryz.stringslite_Clone _ _ h).mono ?_; rintro e w1 ⟨rfl, hb⟩)
  go_ret
  exact ⟨rfl, hb⟩
end Go.Proofs.YtaoachljojbnjaaGreat
/- Copies of an inode, of a block: spec.l03Copy, spec.l04Copy, impl.newBlock by their contracts. -/
namespace Go.Proofs.YtaoachljojbnjaaGreat.Kit
open Go.RowKit
theorem lit0_at (w : World) (A B : Obj) (e : TypeId) (m : Nat) : (((w.alloc A).alloc B).alloc (.cells #[] e)).ownsRow (w.heap.size + 1 + 1) e m (.slice (some ⟨w.heap.size + 1 + 1, 0, none⟩) 0 0) 0 [] := by
  have := World.ownsRow_lit (base := w.heap.size + 1 + 1) (e := e) (size := m) ((w.alloc A).alloc B) #[] 0 (by simp) (Nat.zero_le _) (by simp)
  simpa using this
theorem alloc3_below (w : World) (A B C : Obj) : Below w.heap.size w (((w.alloc A).alloc B).alloc C) := (((Below.refl _ w).alloc (Nat.le_refl _) _).alloc (by simp) _).alloc (by simp; omega) _
theorem AtC.two3 (w : World) (T1 T2 : TypeId) (cs ds : Array Value) (C : Obj) : AtC (((w.alloc (.cells cs T1)).alloc (.cells ds T2)).alloc C) w.heap.size T1 cs ∧ AtC (((w.alloc (.cells cs T1)).alloc (.cells ds T2)).alloc C) (w.heap.size + 1) T2 ds := by
  refine ⟨((AtC.new w T1 cs).alloc _).alloc _, ?_⟩
  have := (AtC.new (w.alloc (.cells cs T1)) T2 ds).alloc C
  simpa using this
theorem cp_after {w w1 : World} {T e : TypeId} {m n : Nat} {cs Z : Array Value} {ds : List Value} {v' : Value} (R1 : w1.ownsRow (w.heap.size + 1 + 1) e m v' n ds)
    (R2 : (((w.alloc (.cells cs T)).alloc (.cells Z T)).alloc (.cells #[] e)).grownBy w1 (Value.slice (some ⟨w.heap.size + 1 + 1, 0, none⟩) 0 0).ownBlock) :
    ∃ a1 c1, v' = .slice a1 n c1 ∧ Below w.heap.size w w1 ∧ AtC w1 w.heap.size T cs ∧ AtC w1 (w.heap.size + 1) T Z := by
  obtain ⟨k0, k1⟩ := AtC.two3 w T T cs Z (.cells #[] e)
  obtain ⟨a1, c1, e1⟩ : ∃ a1 c1, v' = .slice a1 n c1 := by
    rcases R1.2 with ⟨h1, h0⟩ | ⟨g, cap, cur, h1, -⟩
    · exact ⟨none, 0, by rw [h1, h0]⟩
    · exact ⟨_, _, h1⟩
  exact ⟨a1, c1, e1, below_of_append (alloc3_below w _ _ _) (by simp; omega) R2 (fun k hk => by simp [Value.ownBlock] at hk; omega), k0.grown R2 (by simp [Value.ownBlock]; omega), k1.grown R2 (by simp [Value.ownBlock])⟩
end Go.Proofs.YtaoachljojbnjaaGreat.Kit
namespace Go.Proofs.YtaoachljojbnjaaGreat
open Go.RowKit Kit
set_option maxRecDepth 100000 in
set_option maxHeartbeats 800000 in
theorem copyI_any (k l : Int) (v : Value) (xs : List Int) (w : World) (hv : RInts w v xs) (hl : xs.length ≤ 1048576) :
    Calls Tryz.prog 66 #[.agg #[.int .i64 k, .int .i64 l, v]] w fun e w' => ∃ u, e = .returned (.agg #[.int .i64 k, .int .i64 l, u]) ∧ ROwns w' w.heap.size 3 u (ic xs) ∧ Below w.heap.size w w' := by
  have HV := hide hv
  obtain ⟨a, c, rfl, -⟩ := hv
  have HL : Hid (xs.length ≤ 100000000000) := Nat.le_trans hl (by decide)
  clear hl
  go_enter Tryz.func66, Tryz.ntmps66
  go_wp2_with (at_builtin; refine wpList_append_copy _ rfl _ _ 32 rfl (w.heap.size + 1 + 1) 3 Tryz.underlying32 _ 1 8 Tryz.i3 rfl (by decide) (by decide) (.slice (some ⟨w.heap.size + 1 + 1, 0, none⟩) 0 0) rfl (lit0_at w _ _ 3 1) (by simp) _ rfl xs.length (ic xs) (((HV.out.alloc _).alloc _).alloc _).rc (by rw [ic_length, Nat.mul_one]) (ic_one xs) HL.out ?_; intro v' w1 R1 R2 R3; obtain ⟨a1, c1, rfl, B1, K0, K1⟩ := cp_after R1 R2; have p0 : w1.cell? ⟨w.heap.size, 0, none⟩ = some (.int .i64 k) := K0.cell 0; have p1 : w1.cell? ⟨w.heap.size, 1, none⟩ = some (.int .i64 l) := K0.cell 1; have p2 : w1.cell? ⟨w.heap.size, 2, none⟩ = some (.slice a xs.length c) := K0.cell 2; have y2 := K0.frozen 2; have q0 : w1.cell? ⟨w.heap.size + 1, 0, none⟩ = some (.int .i64 0) := K1.cell 0; have q1 : w1.cell? ⟨w.heap.size + 1, 1, none⟩ = some (.int .i64 0) := K1.cell 1; have q2 : w1.cell? ⟨w.heap.size + 1, 2, none⟩ = some (.slice none 0 0) := K1.cell 2; have z0 := K1.frozen 0; have z1 := K1.frozen 1; have z2 := K1.frozen 2; have HR := hide R1; have HB := hide B1; clear R1 R2 R3 K0 K1 B1)
  have HO : Hid (ROwns w1 (w.heap.size + 1 + 1) 3 (.slice a1 xs.length c1) (ic xs)) := by show ROwns _ _ _ _ _; unfold ROwns; rw [ic_length]; exact HR.out
  refine bodyPost_ret (v := .agg #[.int .i64 k, .int .i64 l, .slice a1 xs.length c1]) (by simp [results, go_sem, q0, q1, q2]) rfl ⟨_, rfl, ?_, ?_⟩
  · exact ((((((HO.out.setCell_other (by omega) _).setCell_other (by omega) _).setCell_other (by omega) _).setCell_other (by omega) _)).base_le (by omega))
  · exact ((((HB.out.setCell (by simp) _).setCell (by simp) _).setCell (by simp) _).setCell (by simp) _)
set_option maxRecDepth 100000 in
set_option maxHeartbeats 800000 in
theorem copyK_any (d : Bool) (t : ByteArray) (v : Value) (xs : List Sl) (w : World) (hv : RSl w v xs) (hl : xs.length ≤ 1048576) :
    Calls Tryz.prog 67 #[.agg #[.bool d, v, .string t]] w fun e w' => ∃ u, e = .returned (.agg #[.bool d, u, .string t]) ∧ SOwns w' w.heap.size 126 u xs ∧ Below w.heap.size w w' := by
  have HV := hide hv
  obtain ⟨a, c, rfl, -⟩ := hv
  have HL : Hid (xs.length ≤ 100000000000) := Nat.le_trans hl (by decide)
  clear hl
  go_enter Tryz.func67, Tryz.ntmps67
  go_wp2_with (at_builtin; refine wpList_append_copy _ rfl _ _ 107 rfl (w.heap.size + 1 + 1) 126 Tryz.underlying107 _ 2 24 Tryz.i126 rfl (by decide) (by decide) (.slice (some ⟨w.heap.size + 1 + 1, 0, none⟩) 0 0) rfl (lit0_at w _ _ 126 2) (by simp) _ rfl xs.length (sc xs) (((HV.out.alloc _).alloc _).alloc _).rc (sc_length xs) (sc_one xs) HL.out ?_; intro v' w1 R1 R2 R3; obtain ⟨a1, c1, rfl, B1, K0, K1⟩ := cp_after R1 R2; have p0 : w1.cell? ⟨w.heap.size, 0, none⟩ = some (.bool d) := K0.cell 0; have p1 : w1.cell? ⟨w.heap.size, 1, none⟩ = some (.slice a xs.length c) := K0.cell 1; have p2 : w1.cell? ⟨w.heap.size, 2, none⟩ = some (.string t) := K0.cell 2; have y2 := K0.frozen 1; have q0 : w1.cell? ⟨w.heap.size + 1, 0, none⟩ = some (.bool false) := K1.cell 0; have q1 : w1.cell? ⟨w.heap.size + 1, 1, none⟩ = some (.slice none 0 0) := K1.cell 1; have q2 : w1.cell? ⟨w.heap.size + 1, 2, none⟩ = some (.string ⟨#[]⟩) := K1.cell 2; have z0 := K1.frozen 0; have z1 := K1.frozen 1; have z2 := K1.frozen 2; have HR := hide R1; have HB := hide B1; clear R1 R2 R3 K0 K1 B1)
  have HO : Hid (SOwns w1 (w.heap.size + 1 + 1) 126 (.slice a1 xs.length c1) xs) := HR.out
  refine bodyPost_ret (v := .agg #[.bool d, .slice a1 xs.length c1, .string t]) (by simp [results, go_sem, q0, q1, q2]) rfl ⟨_, rfl, ?_, ?_⟩
  · exact ((((((HO.out.setCell_low (by omega) _).setCell_low (by omega) _).setCell_low (by omega) _).setCell_low (by omega) _)).base_le (by omega))
  · exact ((((HB.out.setCell (by simp) _).setCell (by simp) _).setCell (by simp) _).setCell (by simp) _)
/-- A block while its names are cloned: its box, the result's block, its slots. -/
structure Nb (w w' : World) (d : Bool) (t : ByteArray) (u : Value) (xs : List Sl) : Prop where
  box : AtC w' w.heap.size 109 #[.bool d, u, .string t]
  res : AtC w' (w.heap.size + 1) 109 #[.bool false, .slice none 0 0, .string ⟨#[]⟩]
  own : SOwns w' (w.heap.size + 1 + 1) 126 u xs
  bel : Below w.heap.size w w'
theorem Nb.below {w w' w1 : World} {d : Bool} {t : ByteArray} {u : Value} {xs : List Sl} (h : Nb w w' d t u xs) (hb : Below w'.heap.size w' w1) : Nb w w1 d t u xs := ⟨h.box.over hb, h.res.over hb, h.own.below hb (Nat.le_refl _), h.bel.trans (hb.mono h.bel.size)⟩
theorem Nb.set {w w' : World} {d : Bool} {t : ByteArray} {g c : Nat} {xs : List Sl} (h : Nb w w' d t (.slice (some ⟨g, 0, none⟩) xs.length c) xs) (j : Nat) (hj : j < xs.length) : Nb w (w'.setCell ⟨g, j * 2, none⟩ (.string xs[j].1)) d t (.slice (some ⟨g, 0, none⟩) xs.length c) xs := by
  have hg := (h.own.lt g rfl).1
  have h2 := (h.own.set_name j hj xs[j].1).1
  have e : xs.set j (xs[j].1, xs[j].2) = xs := by rw [show (xs[j].1, xs[j].2) = xs[j] from rfl, List.set_getElem_self]
  rw [e] at h2
  exact ⟨h.box.other (by omega) _, h.res.other (by omega) _, h2, h.bel.setCell (by show w.heap.size ≤ g; omega) _⟩
set_option maxRecDepth 100000 in
set_option maxHeartbeats 1600000 in
theorem newK_any (d : Bool) (t : ByteArray) (v : Value) (xs : List Sl) (w : World) (hv : RSl w v xs) (hB : bigB 1048576 (d, xs, t)) :
    Calls Tryz.prog 72 #[.agg #[.bool d, v, .string t]] w fun e w' => ∃ u, e = .returned (.agg #[.bool d, u, .string t]) ∧ SOwns w' w.heap.size 126 u xs ∧ Below w.heap.size w w' := by
  have HV := hide hv
  have HB := hide hB
  obtain ⟨a, c, rfl, -⟩ := hv
  have hxl : xs.length ≤ 1048576 := hB.1
  clear hB
  go_enter Tryz.func72, Tryz.ntmps72
  go_wp2_with fail
  refine (clone_any t _ (Nat.le_trans HB.out.2.2 (by decide))).mono ?_
  rintro e w1 ⟨rfl, B1⟩
  obtain ⟨k0, k1⟩ := AtC.two3 w 109 109 #[.bool d, .slice a xs.length c, .string t] #[.bool false, .slice none 0 0, .string ⟨#[]⟩] (.cells #[] 126)
  have K0 : AtC w1 w.heap.size 109 #[.bool d, .slice a xs.length c, .string t] := ((AtC.new w 109 _).alloc _).over B1
  have K1 : AtC w1 (w.heap.size + 1) 109 #[.bool false, .slice none 0 0, .string ⟨#[]⟩] := by
    have := (AtC.new (w.alloc (.cells #[.bool d, .slice a xs.length c, .string t] 109)) 109 #[.bool false, .slice none 0 0, .string ⟨#[]⟩]).over B1
    simpa using this
  have BW : Below w.heap.size w w1 := (((Below.refl _ w).alloc (Nat.le_refl _) _).alloc (by simp) _).trans (B1.mono (by simp; omega))
  have p1 : w1.cell? ⟨w.heap.size, 1, none⟩ = some (.slice a xs.length c) := K0.cell 1
  have p2 : w1.cell? ⟨w.heap.size, 2, none⟩ = some (.string t) := K0.cell 2
  have y2 := K0.frozen 2
  have KS := K0.set 2 (.string t)
  have HK : Hid (AtC (w1.setCell ⟨w.heap.size, 2, none⟩ (.string t)) w.heap.size 109 #[.bool d, .slice a xs.length c, .string t] ∧ AtC (w1.setCell ⟨w.heap.size, 2, none⟩ (.string t)) (w.heap.size + 1) 109 #[.bool false, .slice none 0 0, .string ⟨#[]⟩] ∧ Below w.heap.size w (w1.setCell ⟨w.heap.size, 2, none⟩ (.string t))) := ⟨K0.set 2 (.string t), K1.other (by omega) _, BW.setCell (by simp) _⟩
  have hsz : w.heap.size + 1 + 1 ≤ w1.heap.size := by have := B1.size; simpa using this
  have x1 := HK.out.1
  obtain ⟨W1, hW1⟩ : ∃ W1, w1.setCell ⟨w.heap.size, 2, none⟩ (.string t) = W1 := ⟨_, rfl⟩
  have hsz1 : W1.heap.size = w1.heap.size := by rw [← hW1]; simp
  rw [hW1] at HK x1
  have r1 : W1.cell? ⟨w.heap.size, 1, none⟩ = some (.slice a xs.length c) := x1.cell 1
  clear B1 K0 K1 BW KS k0 k1 x1
  go_wp2_with fail
  refine (newS_any _ xs _ (HV.out.below HK.out.2.2 (Nat.le_refl _)) HB.out.1).mono ?_
  rintro e w2 ⟨u, rfl, O2, B2⟩
  obtain ⟨a2, c2, rfl⟩ := O2.rsl.form
  have ND : Nb w (w2.setCell ⟨w.heap.size, 1, none⟩ (.slice a2 xs.length c2)) d t (.slice a2 xs.length c2) xs := by
    have O3 : SOwns w2 (w.heap.size + 1 + 1) 126 (.slice a2 xs.length c2) xs := O2.base_le (by omega)
    exact ⟨(HK.out.1.over B2).set 1 _, (HK.out.2.1.over B2).other (by omega) _, O3.setCell_low (by omega) _, (HK.out.2.2.trans (B2.mono HK.out.2.2.size)).setCell (by simp) _⟩
  have x2 := HK.out.1.over B2
  have s1 : w2.cell? ⟨w.heap.size, 1, none⟩ = some (.slice a xs.length c) := x2.cell 1
  have f1 := x2.frozen 1
  obtain ⟨W2, hW2⟩ : ∃ W2, w2.setCell ⟨w.heap.size, 1, none⟩ (.slice a2 xs.length c2) = W2 := ⟨_, rfl⟩
  rw [hW2] at ND
  have HN := hide ND
  have t1 : W2.cell? ⟨w.heap.size, 1, none⟩ = some (.slice a2 xs.length c2) := ND.box.cell 1
  clear x2 O2 B2 ND HK r1 p1 p2 y2 hW1 hsz1 hsz
  go_wp2
  go_loopw [16] (fun i wr => ∃ j : Nat, j ≤ xs.length ∧ i = .int .i64 j ∧ Hid (Nb w wr d t (.slice a2 xs.length c2) xs)) (fun i _ => xs.length - (intOf i).toNat)
  case atStart => exact ⟨0, Nat.zero_le _, rfl, HN.out⟩
  case round =>
    obtain ⟨j, hj, rfl, HR⟩ := hrel
    by_cases hlt : j < xs.length
    · obtain ⟨g, c3, e3, m1, m2, m3, m4, m5, -⟩ := HR.out.own.at j hlt
      simp only [Value.slice.injEq] at e3
      obtain ⟨rfl, -, rfl⟩ := e3
      have HZ : Hid (∀ w6, Below (wr.alloc (.cells #[.string xs[j].1, .int .i64 xs[j].2] 126)).heap.size (wr.alloc (.cells #[.string xs[j].1, .int .i64 xs[j].2] 126)) w6 → Nb w w6 d t (.slice (some ⟨g, 0, none⟩) xs.length c2) xs ∧ Nb w (w6.setCell ⟨g, j * 2, none⟩ (.string xs[j].1)) d t (.slice (some ⟨g, 0, none⟩) xs.length c2) xs ∧ AtC w6 wr.heap.size 126 #[.string xs[j].1, .int .i64 xs[j].2] ∧ AtC (w6.setCell ⟨g, j * 2, none⟩ (.string xs[j].1)) wr.heap.size 126 #[.string xs[j].1, .int .i64 xs[j].2]) := fun w6 b6 =>
        have n6 := (HR.out.below ((Below.refl _ wr).alloc (Nat.le_refl _) _)).below b6
        have a6 := (AtC.new wr 126 #[.string xs[j].1, .int .i64 xs[j].2]).over b6
        ⟨n6, n6.set j hlt, a6, a6.other (by omega) _⟩
      have HSZ : Hid (xs[j].1.size ≤ 281474976710656) := Nat.le_trans (HB.out.2.1 j hlt) (by decide)
      obtain ⟨nm, hnm⟩ : ∃ nm, xs[j].1 = nm := ⟨_, rfl⟩
      obtain ⟨z, hz⟩ : ∃ z, xs[j].2 = z := ⟨_, rfl⟩
      rw [hnm] at m1 HZ HSZ
      rw [hz] at m2 HZ
      have HS : Hid (∀ w6, Below (wr.alloc (.cells #[.string nm, .int .i64 z] 126)).heap.size (wr.alloc (.cells #[.string nm, .int .i64 z] 126)) w6 → (w6.cell? ⟨w.heap.size, 1, none⟩ = some (.slice (some ⟨g, 0, none⟩) xs.length c2) ∧ w6.cell? ⟨wr.heap.size, 0, none⟩ = some (.string nm)) ∧ ((w6.setCell ⟨g, j * 2, none⟩ (.string nm)).cell? ⟨w.heap.size, 1, none⟩ = some (.slice (some ⟨g, 0, none⟩) xs.length c2) ∧ (w6.setCell ⟨g, j * 2, none⟩ (.string nm)).cell? ⟨wr.heap.size, 0, none⟩ = some (.string nm)) ∧ w6.cell? ⟨g, j * 2, none⟩ = some (.string nm) ∧ w6.frozen? ⟨g, j * 2, none⟩ = false) := fun w6 b6 => by
        obtain ⟨h1, h2, h3, h4⟩ := HZ.out w6 b6
        obtain ⟨g', c', e', n1, n2, n3, -⟩ := h1.own.at j hlt
        simp only [Value.slice.injEq, Option.some.injEq, Addr.mk.injEq] at e'
        obtain ⟨⟨rfl, -, -⟩, -, -⟩ := e'
        rw [hnm] at n1
        exact ⟨⟨h1.box.cell 1, h3.cell 0⟩, ⟨h2.box.cell 1, h4.cell 0⟩, n1, n3 _⟩
      have b1 : wr.cell? ⟨w.heap.size, 1, none⟩ = some (.slice (some ⟨g, 0, none⟩) xs.length c2) := HR.out.box.cell 1
      have j0 : (0 : Int) ≤ (j : Int) := by omega
      have j1 : (j : Int) < (xs.length : Int) := by omega
      have hbx := HR.out.box.lt
      clear hnm hz m3 HR HV HB t1
      go_wp2_with fail
      go_region_held3 (fun w' => w'.cell? ⟨w.heap.size, 1, none⟩ = some (.slice (some ⟨g, 0, none⟩) xs.length c2) ∧ w'.cell? ⟨wr.heap.size, 0, none⟩ = some (.string nm)) (first | exact (HS.out _ (Below.refl _ _).drew).1 | exact (HS.out _ (of_drew B6)).1 | exact (HS.out _ (of_drew B6)).2.1) ((go_at_call 70; refine (clone_any nm _ HSZ.out).mono ?_; rintro e w6 ⟨rfl, B6⟩; obtain ⟨-, -, n1, n2⟩ := HS.out _ (of_drew B6)))
      have HN6 := hide (HZ.out _ (of_drew B6)).2.1
      clear B6 n1 n2
      go_wp2
      go_roundw
      case rel => exact ⟨j + 1, by omega, by go_num, HN6.out⟩
      case measure => simp [intOf]; omega
    · have q0 : wr.cell? ⟨w.heap.size, 0, none⟩ = some (.bool d) := HR.out.box.cell 0
      have q1 : wr.cell? ⟨w.heap.size, 1, none⟩ = some (.slice a2 xs.length c2) := HR.out.box.cell 1
      have q2 : wr.cell? ⟨w.heap.size, 2, none⟩ = some (.string t) := HR.out.box.cell 2
      have r0 : wr.cell? ⟨w.heap.size + 1, 0, none⟩ = some (.bool false) := HR.out.res.cell 0
      have r1 : wr.cell? ⟨w.heap.size + 1, 1, none⟩ = some (.slice none 0 0) := HR.out.res.cell 1
      have r2 : wr.cell? ⟨w.heap.size + 1, 2, none⟩ = some (.string ⟨#[]⟩) := HR.out.res.cell 2
      have z0 := HR.out.res.frozen 0
      have z1 := HR.out.res.frozen 1
      have z2 := HR.out.res.frozen 2
      clear t1
      go_wp2
      refine bodyPost_ret (v := .agg #[.bool d, .slice a2 xs.length c2, .string t]) (by simp [results, go_sem, r0, r1, r2]) rfl ⟨_, rfl, ?_, ?_⟩
      · exact (((HR.out.own.setCell_low (by omega) _).setCell_low (by omega) _).setCell_low (by omega) _).base_le (by omega)
      · exact ((HR.out.bel.setCell (by simp) _).setCell (by simp) _).setCell (by simp) _
end Go.Proofs.YtaoachljojbnjaaGreat
/- A copy of bits: spec.l05Copy by its contract. -/
namespace Go.Proofs.YtaoachljojbnjaaGreat.Kit
open Go.RowKit
/-- A new list without any. -/
def MkE (T : TypeId) : Mk := .val [] (fun lo hi w v => v = .slice (some ⟨lo, 0, none⟩) 0 0 ∧ hi = lo + 1 ∧ AtC w lo T #[]) (fun _ _ _ _ _ h hb => ⟨h.1, h.2.1, h.2.2.over hb⟩)
/-- A copy of flags, appended to a new list without any (the k-th operation's). -/
def MkC (k j : Nat) (xs : List Bool) (B : Nat) : Mk := .val1 [k, j] k (by simp) (fun lo hi w u v => ∃ a c, v = .slice a xs.length c ∧ ROwns w B 4 v (fc xs) ∧ ∀ i, v.ownBlock = some i → (lo ≤ i ∧ i < hi) ∨ u.ownBlock = some i)
  (fun _ _ _ _ _ _ h hb => by obtain ⟨a, c, h1, h2, h3⟩ := h; exact ⟨a, c, h1, h2.below hb (Nat.le_refl _), h3⟩)
theorem AtC.empty {w : World} {g : Nat} {T : TypeId} (h : AtC w g T #[]) (B : Nat) (hB : B ≤ g) (m : Nat) : w.ownsRow B T m (.slice (some ⟨g, 0, none⟩) 0 0) 0 [] :=
  ⟨by simp, .inr ⟨g, 0, #[], rfl, hB, h, Nat.le_refl _, Nat.zero_le _, by simp, by simp⟩⟩
end Go.Proofs.YtaoachljojbnjaaGreat.Kit
namespace Go.Proofs.YtaoachljojbnjaaGreat
open Go.RowKit Kit
set_option maxRecDepth 100000 in
set_option maxHeartbeats 1600000 in
theorem copyB_any (u v : Value) (xs ys : List Bool) (w : World) (hu : RFl w u xs) (hv : RFl w v ys) (hx : xs.length ≤ 1048576) (hy : ys.length ≤ 1048576) :
    Calls Tryz.prog 65 #[.agg #[u, v]] w fun e w' => ∃ u' v', e = .returned (.agg #[u', v']) ∧ Two w' w.heap.size u' v' xs ys ∧ Below w.heap.size w w' := by
  have HU := hide hu
  have HV := hide hv
  obtain ⟨a1, c1, rfl, -⟩ := hu
  obtain ⟨a2, c2, rfl, -⟩ := hv
  have HX : Hid (xs.length ≤ 100000000000) := Nat.le_trans hx (by decide)
  have HY : Hid (ys.length ≤ 100000000000) := Nat.le_trans hy (by decide)
  clear hx hy
  go_enter Tryz.func65, Tryz.ntmps65
  go_wp2_with fail
  have HC : Hid (∀ W, Below ((w.alloc (.cells #[.slice a1 xs.length c1, .slice a2 ys.length c2] 37)).alloc (.cells #[.slice none 0 0, .slice none 0 0] 37)).drew.heap.size ((w.alloc (.cells #[.slice a1 xs.length c1, .slice a2 ys.length c2] 37)).alloc (.cells #[.slice none 0 0, .slice none 0 0] 37)).drew W → AtC W w.heap.size 37 #[.slice a1 xs.length c1, .slice a2 ys.length c2] ∧ AtC W (w.heap.size + 1) 37 #[.slice none 0 0, .slice none 0 0] ∧ Below w.heap.size w W ∧ w.heap.size + 1 + 1 ≤ W.heap.size) := fun W b => by
    have b2 := of_drew b
    have k1 := (AtC.new (w.alloc (.cells #[.slice a1 xs.length c1, .slice a2 ys.length c2] 37)) 37 #[.slice none 0 0, .slice none 0 0]).over b2
    have sz := b2.size
    simp at k1 sz
    exact ⟨((AtC.new w 37 _).alloc _).over b2, k1, (((Below.refl _ w).alloc (Nat.le_refl _) _).alloc (by simp) _).trans (b2.mono (by simp; omega)), sz⟩
  refine wp_region_mks (by kernel_rfl) [0, 1, 2, 3, 4, 5, 6, 7] [8, 9] [3, 4, 5, 6, 7, 8, 9, 10] (fun i => match i with | 0 => MkE 4 | 1 => .const [] (.pointer (some ⟨w.heap.size, 0, none⟩)) | 2 => .const [1] (.slice a1 xs.length c1) | 3 => MkC 0 2 xs (w.heap.size + 1 + 1) | 4 => MkE 4 | 5 => .const [] (.pointer (some ⟨w.heap.size, 1, none⟩)) | 6 => .const [5] (.slice a2 ys.length c2) | 7 => MkC 4 6 ys (w.heap.size + 1 + 1) | _ => .triv) (by kernel_rfl) (by kernel_rfl) (by kernel_rfl) (by kernel_rfl) rfl ?_ ?_
  · intro j hj s x iv W hd hp K hK
    simp only [List.mem_cons, List.not_mem_nil, or_false] at hj
    rcases hj with rfl | rfl | rfl | rfl | rfl | rfl | rfl | rfl
    · refine wpOp_step (o := _) rfl fun K' hK' => ?_
      have HK := hide (fun v W' h1 h2 => hK' _ _ (hK v W' h1 h2))
      clear hK hK' hp hd
      simp only [actOf]
      go_simp
      have F := HK.out (.slice (some ⟨W.heap.size, 0, none⟩) 0 0) (W.alloc (.cells #[] 4)) ((Below.refl _ W).alloc (Nat.le_refl _) _) ⟨rfl, by simp, AtC.new W 4 _⟩
      simp [go_sem, actOf, upd] at F
      exact F
    · refine wpOp_step (o := _) rfl fun K' hK' => ?_
      have HK := hide (fun v W' h1 h2 => hK' _ _ (hK v W' h1 h2))
      clear hK hK' hp hd
      simp only [actOf]
      go_simp
      have F := HK.out (.pointer (some ⟨w.heap.size, 0, none⟩)) W (Below.refl _ _) rfl
      simp [go_sem, actOf, upd] at F
      exact F
    · refine wpOp_step (o := _) rfl fun K' hK' => ?_
      have HK := hide (fun v W' h1 h2 => hK' _ _ (hK v W' h1 h2))
      have e1 : x 1 = .pointer (some ⟨w.heap.size, 0, none⟩) := hp.post 1 (hd 1 (show 1 ∈ [1] from by decide))
      have q0 : W.cell? ⟨w.heap.size, 0, none⟩ = some (.slice a1 xs.length c1) := (HC.out W hp.bel).1.cell 0
      clear hK hK' hp hd
      simp only [actOf]
      go_simp
      have F := HK.out (.slice a1 xs.length c1) W (Below.refl _ _) rfl
      simp [go_sem, actOf, upd, e1] at F
      exact F
    · refine wpOp_step (o := _) rfl fun K' hK' => ?_
      have HK := hide (fun v W' h1 h2 => hK' _ _ (hK v W' h1 h2))
      have e0 : x 0 = .slice (some ⟨(iv 0).1, 0, none⟩) 0 0 ∧ (iv 0).2 = (iv 0).1 + 1 ∧ AtC W (iv 0).1 4 #[] := hp.post 0 (hd 0 (show 0 ∈ [0, 2] from by decide))
      have e2 : x 2 = .slice a1 xs.length c1 := hp.post 2 (hd 2 (show 2 ∈ [0, 2] from by decide))
      have bl := HC.out W hp.bel
      have l0 := (hp.lo 0 (hd 0 (show 0 ∈ [0, 2] from by decide))).1
      simp [World.drew] at l0
      clear hK hK' hp hd
      obtain ⟨f0, -, A0⟩ := e0
      simp only [actOf, Act.put, List.setIfInBounds_toArray, List.set_cons_succ, List.set_cons_zero, Nat.reduceAdd, List.getElem_toArray, List.getElem_cons_succ, List.getElem_cons_zero]
      refine step_append_copy0 (a := ⟨_, []⟩) W rfl (.tmp 3) (.tmp 5) 22 rfl (w.heap.size + 1 + 1) 4 Tryz.underlying22 _ 1 1 Tryz.i4 rfl (by decide) (by decide) (some ⟨(iv 0).1, 0, none⟩) (by exact f0) (A0.empty _ (by omega) 1) bl.2.2.2 (.slice a1 xs.length c1) (by exact e2) xs.length (fc xs) (HU.out.below bl.2.2.1 (Nat.le_refl _)).rc (by rw [fc_length, Nat.mul_one]) (fc_one xs) HX.out ?_
      intro v' w' R1 R2 R3
      have O1 : ROwns w' (w.heap.size + 1 + 1) 4 v' (fc xs) := by unfold ROwns; rw [fc_length]; exact R1
      obtain ⟨a3, c3, e3⟩ := O1.rfl.form
      have F := HK.out v' w' R2 ⟨a3, c3, e3, O1, fun i hi => R3.elim (fun e => .inr (by rw [upd_ne _ _ _ _ (by decide), f0]; rw [hi] at e; exact e.symm)) (fun e => .inl ⟨by rw [hi] at e; cases e; exact Nat.le_refl _, (O1.lt i hi).2⟩)⟩
      simp [go_sem, actOf, upd] at F
      simp only [Act.put, List.setIfInBounds_toArray, List.set_cons_succ, List.set_cons_zero]
      exact F
    · refine wpOp_step (o := _) rfl fun K' hK' => ?_
      have HK := hide (fun v W' h1 h2 => hK' _ _ (hK v W' h1 h2))
      clear hK hK' hp hd
      simp only [actOf]
      go_simp
      have F := HK.out (.slice (some ⟨W.heap.size, 0, none⟩) 0 0) (W.alloc (.cells #[] 4)) ((Below.refl _ W).alloc (Nat.le_refl _) _) ⟨rfl, by simp, AtC.new W 4 _⟩
      simp [go_sem, actOf, upd] at F
      exact F
    · refine wpOp_step (o := _) rfl fun K' hK' => ?_
      have HK := hide (fun v W' h1 h2 => hK' _ _ (hK v W' h1 h2))
      clear hK hK' hp hd
      simp only [actOf]
      go_simp
      have F := HK.out (.pointer (some ⟨w.heap.size, 1, none⟩)) W (Below.refl _ _) rfl
      simp [go_sem, actOf, upd] at F
      exact F
    · refine wpOp_step (o := _) rfl fun K' hK' => ?_
      have HK := hide (fun v W' h1 h2 => hK' _ _ (hK v W' h1 h2))
      have e5 : x 5 = .pointer (some ⟨w.heap.size, 1, none⟩) := hp.post 5 (hd 5 (show 5 ∈ [5] from by decide))
      have q0 : W.cell? ⟨w.heap.size, 1, none⟩ = some (.slice a2 ys.length c2) := (HC.out W hp.bel).1.cell 1
      clear hK hK' hp hd
      simp only [actOf]
      go_simp
      have F := HK.out (.slice a2 ys.length c2) W (Below.refl _ _) rfl
      simp [go_sem, actOf, upd, e5] at F
      exact F
    · refine wpOp_step (o := _) rfl fun K' hK' => ?_
      have HK := hide (fun v W' h1 h2 => hK' _ _ (hK v W' h1 h2))
      have e4 : x 4 = .slice (some ⟨(iv 4).1, 0, none⟩) 0 0 ∧ (iv 4).2 = (iv 4).1 + 1 ∧ AtC W (iv 4).1 4 #[] := hp.post 4 (hd 4 (show 4 ∈ [4, 6] from by decide))
      have e6 : x 6 = .slice a2 ys.length c2 := hp.post 6 (hd 6 (show 6 ∈ [4, 6] from by decide))
      have bl := HC.out W hp.bel
      have l0 := (hp.lo 4 (hd 4 (show 4 ∈ [4, 6] from by decide))).1
      simp [World.drew] at l0
      clear hK hK' hp hd
      obtain ⟨f0, -, A0⟩ := e4
      simp only [actOf, Act.put, List.setIfInBounds_toArray, List.set_cons_succ, List.set_cons_zero, Nat.reduceAdd, List.getElem_toArray, List.getElem_cons_succ, List.getElem_cons_zero]
      refine step_append_copy0 (a := ⟨_, []⟩) W rfl (.tmp 7) (.tmp 9) 22 rfl (w.heap.size + 1 + 1) 4 Tryz.underlying22 _ 1 1 Tryz.i4 rfl (by decide) (by decide) (some ⟨(iv 4).1, 0, none⟩) (by exact f0) (A0.empty _ (by omega) 1) bl.2.2.2 (.slice a2 ys.length c2) (by exact e6) ys.length (fc ys) (HV.out.below bl.2.2.1 (Nat.le_refl _)).rc (by rw [fc_length, Nat.mul_one]) (fc_one ys) HY.out ?_
      intro v' w' R1 R2 R3
      have O1 : ROwns w' (w.heap.size + 1 + 1) 4 v' (fc ys) := by unfold ROwns; rw [fc_length]; exact R1
      obtain ⟨a3, c3, e3⟩ := O1.rfl.form
      have F := HK.out v' w' R2 ⟨a3, c3, e3, O1, fun i hi => R3.elim (fun e => .inr (by rw [upd_ne _ _ _ _ (by decide), f0]; rw [hi] at e; exact e.symm)) (fun e => .inl ⟨by rw [hi] at e; cases e; exact Nat.le_refl _, (O1.lt i hi).2⟩)⟩
      simp [go_sem, actOf, upd] at F
      simp only [Act.put, List.setIfInBounds_toArray, List.set_cons_succ, List.set_cons_zero]
      exact F
  · intro x iv W hp
    obtain ⟨a3, c3, e3, O3, own3⟩ := hp.post 3 (by decide)
    obtain ⟨a7, c7, e7, O7, own7⟩ := hp.post 7 (by decide)
    obtain ⟨f0, z0, -⟩ := hp.post 0 (by decide)
    obtain ⟨f4, z4, -⟩ := hp.post 4 (by decide)
    have p04 := hp.apart 0 (by decide) 4 (by decide) (by decide)
    have p07 := hp.apart 0 (by decide) 7 (by decide) (by decide)
    have p34 := hp.apart 3 (by decide) 4 (by decide) (by decide)
    have p37 := hp.apart 3 (by decide) 7 (by decide) (by decide)
    have l3 := (hp.lo 3 (by decide)).2.1
    have l7 := (hp.lo 7 (by decide)).2.1
    have hne : ∀ k, (x 3).ownBlock = some k → (x 7).ownBlock ≠ some k := fun k h1 h2 => by
      have q3 := own3 k h1
      have q7 := own7 k h2
      rw [f0] at q3
      rw [f4] at q7
      simp only [Value.ownBlock, Option.some.injEq] at q3 q7
      omega
    obtain ⟨k0, k1, bel, -⟩ := HC.out W hp.bel
    rw [e3] at O3 hne
    rw [e7] at O7 hne
    have HT : Hid (Two W (w.heap.size + 1 + 1) (.slice a3 xs.length c3) (.slice a7 ys.length c7) xs ys ∧ Below w.heap.size w W) := ⟨⟨O3, O7, hne⟩, bel⟩
    have r0 : W.cell? ⟨w.heap.size + 1, 0, none⟩ = some (.slice none 0 0) := k1.cell 0
    have r1 : W.cell? ⟨w.heap.size + 1, 1, none⟩ = some (.slice none 0 0) := k1.cell 1
    have z5 := k1.frozen 0
    have z6 := k1.frozen 1
    clear hp own3 own7 O3 O7 hne k0 k1 bel f0 f4 z0 z4 p04 p07 p34 p37 l3 l7
    simp only [actOf, e3, e7]
    go_wp2_with fail
    rw [List.filterMap_nil]
    go_wp2
    refine bodyPost_ret (v := .agg #[.slice a3 xs.length c3, .slice a7 ys.length c7]) (by simp [results, go_sem, r0, r1]) rfl ⟨_, _, rfl, ?_, ?_⟩
    · exact ((HT.out.1.set_other (by omega) _).set_other (by omega) _).base_le (by omega)
    · exact (HT.out.2.setCell (by simp) _).setCell (by simp) _
end Go.Proofs.YtaoachljojbnjaaGreat
/- A memory while those that lean are appended to it. No Go function is spoken of. -/
namespace Go.Proofs.YtaoachljojbnjaaGreat.Kit
open Go.RowKit
/-- The cells of no memory. -/
def noM : Array Value := #[.slice none 0 0, .slice none 0 0, .slice none 0 0, .slice none 0 0, .slice none 0 0, .slice none 0 0, .int .i64 0]
theorem MO.soP {w : World} {S : Nat → Prop} {u v iv bv dv pv : Value} {m : MD} (h : MO w S u v iv bv dv pv m) : ∀ k, pv.ownBlock = some k → S k := by
  obtain ⟨S1, S2, S3, ts, h1, h2, h3, h4, h5, h6, h7⟩ := h
  exact fun k hk => h7 k (.inr (.inr (h4.so k hk)))
/-- One that leans is appended. -/
theorem MO.appD {w : World} {S : Nat → Prop} {u v iv bv dv pv : Value} {m : MD} (h : MO w S u v iv bv dv pv m) :
    ∃ ts, NOwns w 48 11 pv ts ∧ ts.length = m.ds.length ∧ ∀ (w1 w2 : World) (pv' : Value) (t' : Row) (x' : Dp), Below w.heap.size w w1 → KDep.O w1 t' x' → (∀ k, (KDep.p t').ownBlock = some k → w.heap.size ≤ k) →
      NOwns w2 48 11 pv' (ts ++ [t']) → w1.grownBy w2 pv.ownBlock → (∀ k, pv'.ownBlock = some k → pv.ownBlock = some k ∨ w1.heap.size ≤ k) → MO w2 (fun k => S k ∨ w.heap.size ≤ k) u v iv bv dv pv' { m with ds := m.ds ++ [x'] } := by
  obtain ⟨S1, S2, S3, ts, h1, h2, h3, h4, h5, h6, h7⟩ := h.bound
  refine ⟨ts, h4.row, h4.len, fun w1 w2 pv' t' x' hb hO hn hr hg hv => ?_⟩
  have hsz := hb.size
  have hlow : ∀ q, S1 q ∨ S2 q ∨ S3 q → q < w.heap.size := fun q hq => (h7 q hq).2
  have hSS : ∀ q, S1 q ∨ S2 q ∨ S3 q → S q := fun q hq => (h7 q hq).1
  have hoth : ∀ k, k < w.heap.size → pv.ownBlock ≠ some k → w2.heap[k]? = w.heap[k]? := fun k hk hne => (hg.block k (by omega) (fun e => hne e.symm)).trans (hb.block k hk)
  refine ⟨S1, S2, _, _, h1.of_heap fun k hk hlt => hoth k hlt (fun e => (h5 k hk).2 (h4.so k e)), h2.of_heap fun k hk => hoth k (h2.lt k hk).2 (fun e => h6 k (h3 k hk) (h4.so k e)), h3, h4.append hb hO hn hr hg hv, fun k hk => ⟨(h5 k hk).1, fun e => ?_⟩, fun k hk e => ?_, fun k hk => ?_⟩
  · rcases e with e | e
    · exact (h5 k hk).2 e.1
    · have := hlow k (.inl hk); omega
  · rcases e with e | e
    · exact h6 k hk e.1
    · have := hlow k (.inr (.inl hk)); omega
  · rcases hk with hk | hk | hk | hk
    · exact .inl (hSS k (.inl hk))
    · exact .inl (hSS k (.inr (.inl hk)))
    · exact .inl (hSS k (.inr (.inr hk.1)))
    · exact .inr hk
/-- A memory while it is copied: the argument's box, the result's block, the variable's block b, its parts. -/
structure Mz (w w' : World) (A : Array Value) (b : Nat) (u v iv bv dv pv : Value) (m : MD) : Prop where
  arg : AtC w' w.heap.size 44 A
  res : AtC w' (w.heap.size + 1) 44 noM
  box : AtC w' b 44 #[u, v, iv, bv, dv, pv, .int .i64 m.nx]
  own : MO w' (fun k => w.heap.size + 1 < k ∧ k ≠ b) u v iv bv dv pv m
  bel : Below w.heap.size w w'
  hb : w.heap.size + 1 < b
namespace Mz
variable {w w' w1 : World} {A : Array Value} {b : Nat} {u v iv bv dv pv : Value} {m : MD}
theorem below (h : Mz w w' A b u v iv bv dv pv m) (hb : Below w'.heap.size w' w1) : Mz w w1 A b u v iv bv dv pv m :=
  ⟨h.arg.over hb, h.res.over hb, h.box.over hb, h.own.below hb (Nat.le_refl _), h.bel.trans (hb.mono h.bel.size), h.hb⟩
theorem app (h : Mz w w' A b u v iv bv dv pv m) : ∃ ts, NOwns w' 48 11 pv ts ∧ ts.length = m.ds.length ∧ ∀ (w1 w2 : World) (pv' : Value) (t' : Row) (x' : Dp), Below w'.heap.size w' w1 → KDep.O w1 t' x' → (∀ k, (KDep.p t').ownBlock = some k → w'.heap.size ≤ k) →
    NOwns w2 48 11 pv' (ts ++ [t']) → w1.grownBy w2 pv.ownBlock → (∀ k, pv'.ownBlock = some k → pv.ownBlock = some k ∨ w1.heap.size ≤ k) →
    AtC w2 b 44 #[u, v, iv, bv, dv, pv, .int .i64 m.nx] ∧ Mz w (w2.setCell ⟨b, 5, none⟩ pv') A b u v iv bv dv pv' { m with ds := m.ds ++ [x'] } := by
  obtain ⟨ts, h1, h2, h3⟩ := h.own.appD
  refine ⟨ts, h1, h2, fun w1 w2 pv' t' x' hb hO hn hr hg hv => ?_⟩
  have hso := h.own.soP
  have hbs := h.box.lt
  have hsz := h.bel.size
  have hsz1 := hb.size
  have hr0 := h.res.lt
  have ha0 := h.arg.lt
  have e0 : AtC w2 w.heap.size 44 A := (hg.block _ (by omega) (fun e => by have := hso _ e.symm; omega)).trans (h.arg.over hb)
  have e1 : AtC w2 (w.heap.size + 1) 44 noM := (hg.block _ (by omega) (fun e => by have := hso _ e.symm; omega)).trans (h.res.over hb)
  have e2 : AtC w2 b 44 #[u, v, iv, bv, dv, pv, .int .i64 m.nx] := (hg.block _ (by omega) (fun e => by have := hso _ e.symm; omega)).trans (h.box.over hb)
  have d := h3 w1 w2 pv' t' x' hb hO hn hr hg hv
  have b2 : Below w.heap.size w w2 := (h.bel.trans (hb.mono hsz)).grown hg (by omega) (fun k hk => by have := hso k hk; omega)
  have hbb := h.hb
  refine ⟨e2, ⟨e0.other (by omega) _, e1.other (by omega) _, e2.set 5 pv', ?_, b2.setCell (by show w.heap.size ≤ b; omega) _, h.hb⟩⟩
  have d2 := d.mono (S' := fun k => w.heap.size + 1 < k ∧ k ≠ b) fun k hk => hk.elim id (fun e => ⟨by omega, by omega⟩)
  exact d2.of_heap fun k hk _ => heap_setCell_other w2 ⟨b, 5, none⟩ k pv' (by show k ≠ b; omega)
end Mz
/-- A copied disk. -/
def MkD (k : Nat) (xs ys : List Bool) (is : List Ino) (bs : List Blk) : Mk := .val [k] (fun lo hi w v => ∃ a1 c1 a2 c2 a3 c3 a4 c4, v = .agg #[.slice a1 xs.length c1, .slice a2 ys.length c2, .slice a3 is.length c3, .slice a4 bs.length c4] ∧ DO w (fun q => lo ≤ q ∧ q < hi) (.slice a1 xs.length c1) (.slice a2 ys.length c2) (.slice a3 is.length c3) (.slice a4 bs.length c4) xs ys is bs)
  (fun _ _ _ _ _ h hb => by obtain ⟨a1, c1, a2, c2, a3, c3, a4, c4, h1, h2⟩ := h; exact ⟨a1, c1, a2, c2, a3, c3, a4, c4, h1, h2.below hb (Nat.le_refl _)⟩)
/-- A new variable. -/
def MkW (T : TypeId) (Z : Array Value) : Mk := .val [] (fun lo hi w v => v = .pointer (some ⟨lo, 0, none⟩) ∧ hi = lo + 1 ∧ AtC w lo T Z) (fun _ _ _ _ _ h hb => ⟨h.1, h.2.1, h.2.2.over hb⟩)
/-- A memory of a disk, flags and a number, without those that lean. -/
def MkM3 (k l q n1 n2 n3 n4 n5 : Nat) (nx : Int) : Mk := ⟨[k, l, q], fun _ _ _ v x => ∃ a1 c1 a2 c2 a3 c3 a4 c4 a5 c5, x k = .agg #[.slice a1 n1 c1, .slice a2 n2 c2, .slice a3 n3 c3, .slice a4 n4 c4] ∧ x l = .slice a5 n5 c5 ∧ v = .agg #[.slice a1 n1 c1, .slice a2 n2 c2, .slice a3 n3 c3, .slice a4 n4 c4, .slice a5 n5 c5, .slice none 0 0, .int .i64 nx], fun _ _ _ _ _ _ h _ => h, fun _ _ _ _ x x' e h => by
  obtain ⟨a1, c1, a2, c2, a3, c3, a4, c4, a5, c5, h1, h2, h3⟩ := h
  exact ⟨a1, c1, a2, c2, a3, c3, a4, c4, a5, c5, by rw [← e k (by simp), h1], by rw [← e l (by simp), h2], h3⟩⟩
/-- The variable is stored, without those that lean. -/
theorem mz_stored {w W : World} {A : Array Value} {b lo hi : Nat} {u v iv bv dv : Value} {m : MD} (hA : AtC W w.heap.size 44 A) (hR : AtC W (w.heap.size + 1) 44 noM) (hb : AtC W b 44 noM) (hd : DO W (fun q => lo ≤ q ∧ q < hi) u v iv bv m.xs m.ys m.is m.bs) (hf : ROwns W (w.heap.size + 1 + 1) 4 dv (fc m.fs))
    (hsep : ∀ k, dv.ownBlock = some k → (k < lo ∨ hi ≤ k) ∧ k ≠ b) (hlo : w.heap.size + 1 < lo) (hbs : b < lo ∨ hi ≤ b) (bel : Below w.heap.size w W) (hbb : w.heap.size + 1 < b) (hds : m.ds = []) :
    Mz w (((((((W.setCell ⟨b, 0, none⟩ u).setCell ⟨b, 1, none⟩ v).setCell ⟨b, 2, none⟩ iv).setCell ⟨b, 3, none⟩ bv).setCell ⟨b, 4, none⟩ dv).setCell ⟨b, 5, none⟩ (.slice none 0 0)).setCell ⟨b, 6, none⟩ (.int .i64 m.nx)) A b u v iv bv dv (.slice none 0 0) m := by
  have hoth : ∀ k, k ≠ b → (((((((W.setCell ⟨b, 0, none⟩ u).setCell ⟨b, 1, none⟩ v).setCell ⟨b, 2, none⟩ iv).setCell ⟨b, 3, none⟩ bv).setCell ⟨b, 4, none⟩ dv).setCell ⟨b, 5, none⟩ (.slice none 0 0)).setCell ⟨b, 6, none⟩ (.int .i64 m.nx)).heap[k]? = W.heap[k]? := fun k hk =>
    ((((((heap_setCell_other _ ⟨b, 6, none⟩ k _ hk).trans (heap_setCell_other _ ⟨b, 5, none⟩ k _ hk)).trans (heap_setCell_other _ ⟨b, 4, none⟩ k _ hk)).trans (heap_setCell_other _ ⟨b, 3, none⟩ k _ hk)).trans (heap_setCell_other _ ⟨b, 2, none⟩ k _ hk)).trans (heap_setCell_other _ ⟨b, 1, none⟩ k _ hk)).trans (heap_setCell_other _ ⟨b, 0, none⟩ k _ hk)
  refine ⟨(hoth _ (by omega)).trans hA, (hoth _ (by omega)).trans hR, ((((((hb.set 0 u).set 1 v).set 2 iv).set 3 bv).set 4 dv).set 5 (.slice none 0 0)).set 6 (.int .i64 m.nx), ?_, ((((((bel.setCell (by show w.heap.size ≤ b; omega) _).setCell (by show w.heap.size ≤ b; omega) _).setCell (by show w.heap.size ≤ b; omega) _).setCell (by show w.heap.size ≤ b; omega) _).setCell (by show w.heap.size ≤ b; omega) _).setCell (by show w.heap.size ≤ b; omega) _).setCell (by show w.heap.size ≤ b; omega) _, hbb⟩
  refine ⟨_, fun k => dv.ownBlock = some k, fun _ => False, [], hd.of_heap fun k hk _ => hoth k (by omega), (hf.of_heap fun k hk => hoth k (hsep k hk).2).base_le (Nat.zero_le _), fun k hk => hk, by rw [hds]; exact GN.nil _ _, fun k hk => ⟨fun e => by have := hsep k e; omega, id⟩, fun k hk e => e, fun k hk => ?_⟩
  rcases hk with hk | hk | hk
  · exact ⟨by omega, by omega⟩
  · exact ⟨by have := hf.lt k hk; omega, (hsep k hk).2⟩
  · exact hk.elim
end Go.Proofs.YtaoachljojbnjaaGreat.Kit
/- A disk of memory of its own, into which an inode or a block is put. No Go function is spoken of. -/
namespace Go.Proofs.YtaoachljojbnjaaGreat.Kit
open Go.RowKit
theorem TOwns.of_at {w : World} {e : TypeId} {g : Nat} {cs : Array Value} {ts : List V3} (h : AtC w g e cs) (hc : cs.toList = f3 ts) (hm : ts.length ≤ maxLen) : TOwns w e (.slice (some ⟨g, 0, none⟩) ts.length ts.length) ts := by
  have hs : cs.size = ts.length * 3 := by rw [← Array.length_toList, hc, f3_length]
  refine ⟨by rw [f3_length], .inr ⟨g, ts.length, cs, rfl, Nat.zero_le _, h, Nat.le_refl _, hm, hs, ?_⟩⟩
  rw [hc, List.take_of_length_le (by rw [f3_length]; exact Nat.le_refl _)]
/-- As many of one kind, in one block, without memory of their own. -/
theorem GO.of_at {α : Type} {K : Kd α} {w : World} {g n : Nat} {cs : Array Value} {z : V3} {x : α} (h : AtC w g K.T cs) (hc : cs.toList = f3 (List.replicate n z)) (hm : n ≤ maxLen) (hO : K.O w z x) (hz : (K.p z).ownBlock = none) :
    GO K w (fun k => k = g) (.slice (some ⟨g, 0, none⟩) n n) (List.replicate n z) (List.replicate n x) := by
  refine ⟨by simp, ?_, fun j hj hj' => ?_, fun i j hi hj _ k e => ?_, fun j hj k e => ?_, fun k e => ?_, fun j hj k e => ?_⟩
  · have := TOwns.of_at (ts := List.replicate n z) h hc (by simpa using hm)
    simpa using this
  · simp only [List.getElem_replicate]
    exact hO
  · simp only [List.getElem_replicate] at e
    rw [hz] at e; cases e
  · simp only [List.getElem_replicate] at e
    rw [hz] at e; cases e
  · simpa [Value.ownBlock] using e.symm
  · simp only [List.getElem_replicate] at e
    rw [hz] at e; cases e
theorem DO.two {w : World} {S : Nat → Prop} {u v iv bv : Value} {xs ys : List Bool} {is : List Ino} {bs : List Blk} (h : DO w S u v iv bv xs ys is bs) : Two w 0 u v xs ys := by
  obtain ⟨S1, S2, S3, ti, tb, h1, -⟩ := h
  exact h1
/-- The cells of an inode's place, and that they may be written. -/
theorem DO.atI {w : World} {S : Nat → Prop} {u v iv bv : Value} {xs ys : List Bool} {is : List Ino} {bs : List Blk} (h : DO w S u v iv bv xs ys is bs) {g n cap : Nat} (hv : iv = .slice (some ⟨g, 0, none⟩) n cap) (j : Nat) (hj : j < is.length) :
    (∃ a b p, w.cell? ⟨g, j * 3, none⟩ = some (.int .i64 a) ∧ w.cell? ⟨g, j * 3 + 1, none⟩ = some (.int .i64 b) ∧ w.cell? ⟨g, j * 3 + 2, none⟩ = some p ∧ a = is[j].1 ∧ b = is[j].2.1 ∧ RInts w p is[j].2.2) ∧ (∀ k, w.frozen? ⟨g, k, none⟩ = false) ∧ g < w.heap.size ∧ n = is.length ∧ S g := by
  obtain ⟨S1, S2, S3, ti, tb, h1, -, hi, -, -, -, hU⟩ := h
  have hl := hi.len
  obtain ⟨g', c', e', k1, k2, k3, k4, k5, -⟩ := hi.row.at j (by omega)
  rw [hv] at e'
  simp only [Value.slice.injEq, Option.some.injEq, Addr.mk.injEq] at e'
  obtain ⟨⟨rfl, -⟩, hn, -⟩ := e'
  obtain ⟨i1, i2, i3⟩ := hi.inn j (by omega) hj
  exact ⟨⟨_, _, _, by rw [k1, i1], by rw [k2, i2], k3, rfl, rfl, i3.rints⟩, k4, k5, by omega, hU _ (.inr (.inl (hi.so _ (by rw [hv]; rfl))))⟩
theorem DO.atB {w : World} {S : Nat → Prop} {u v iv bv : Value} {xs ys : List Bool} {is : List Ino} {bs : List Blk} (h : DO w S u v iv bv xs ys is bs) {g n cap : Nat} (hv : bv = .slice (some ⟨g, 0, none⟩) n cap) (j : Nat) (hj : j < bs.length) :
    (∃ a p t, w.cell? ⟨g, j * 3, none⟩ = some (.bool a) ∧ w.cell? ⟨g, j * 3 + 1, none⟩ = some p ∧ w.cell? ⟨g, j * 3 + 2, none⟩ = some (.string t) ∧ a = bs[j].1 ∧ t = bs[j].2.2 ∧ RSl w p bs[j].2.1) ∧ (∀ k, w.frozen? ⟨g, k, none⟩ = false) ∧ g < w.heap.size ∧ n = bs.length ∧ S g := by
  obtain ⟨S1, S2, S3, ti, tb, h1, -, -, hi, -, -, hU⟩ := h
  have hl := hi.len
  obtain ⟨g', c', e', k1, k2, k3, k4, k5, -⟩ := hi.row.at j (by omega)
  rw [hv] at e'
  simp only [Value.slice.injEq, Option.some.injEq, Addr.mk.injEq] at e'
  obtain ⟨⟨rfl, -⟩, hn, -⟩ := e'
  obtain ⟨i1, i2, i3⟩ := hi.inn j (by omega) hj
  exact ⟨⟨_, _, _, by rw [k1, i1], k2, by rw [k3, i3], rfl, rfl, i2.rsl⟩, k4, k5, by omega, hU _ (.inr (.inr (hi.so _ (by rw [hv]; rfl))))⟩
/-- An inode of new memory is put in its place. -/
theorem DO.putI {w w1 : World} {S : Nat → Prop} {u v iv bv : Value} {xs ys : List Bool} {is : List Ino} {bs : List Blk} (h : DO w S u v iv bv xs ys is bs) {g n cap : Nat} (hv : iv = .slice (some ⟨g, 0, none⟩) n cap) (j : Nat) (hj : j < is.length) (t' : V3) (x' : Ino)
    (hb : Below w.heap.size w w1) (hO : KI.O w1 t' x') (hn : ∀ k, t'.2.2.ownBlock = some k → w.heap.size ≤ k) :
    DO (((w1.setCell ⟨g, j * 3, none⟩ t'.1).setCell ⟨g, j * 3 + 1, none⟩ t'.2.1).setCell ⟨g, j * 3 + 2, none⟩ t'.2.2) (fun k => S k ∨ w.heap.size ≤ k) u v iv bv xs ys (is.set j x') bs := by
  obtain ⟨S1, S2, S3, ti, tb, h1, hs1, hi, hk, d1, d2, hU⟩ := h
  have hg : g < w.heap.size := hi.row.lt g (by rw [hv]; rfl)
  have hg2 : S2 g := hi.so g (by rw [hv]; rfl)
  have hoth : ∀ k, k < w.heap.size → k ≠ g → (((w1.setCell ⟨g, j * 3, none⟩ t'.1).setCell ⟨g, j * 3 + 1, none⟩ t'.2.1).setCell ⟨g, j * 3 + 2, none⟩ t'.2.2).heap[k]? = w.heap[k]? := fun k hk1 hk =>
    (((heap_setCell_other _ ⟨g, j * 3 + 2, none⟩ k _ (by simpa using hk)).trans (heap_setCell_other _ ⟨g, j * 3 + 1, none⟩ k _ (by simpa using hk))).trans (heap_setCell_other _ ⟨g, j * 3, none⟩ k _ (by simpa using hk))).trans (hb.block k hk1)
  have h12 : ∀ m, (u.ownBlock = some m ∨ v.ownBlock = some m) → m < w.heap.size := fun m hm => hm.elim (fun e => (h1.a.lt m e).2) (fun e => (h1.b.lt m e).2)
  have hi2 := hi.bound.put hv j (by rw [hi.len]; exact hj) t' x' hb hO hn (S' := fun k => (S2 k ∧ k < w.heap.size) ∨ w.heap.size ≤ k) (fun k hk => .inl hk) (fun k hk => .inr hk)
  refine ⟨fun k => u.ownBlock = some k ∨ v.ownBlock = some k, _, fun k => S3 k ∧ k < w.heap.size, _, tb, ⟨h1.a.of_heap fun k hk => hoth k (h12 k (.inl hk)) (fun e => (d1 k (hs1 k (.inl hk))).1 (e ▸ hg2)), h1.b.of_heap fun k hk => hoth k (h12 k (.inr hk)) (fun e => (d1 k (hs1 k (.inr hk))).1 (e ▸ hg2)), h1.ne⟩, fun k hk => hk, hi2, hk.bound.of_heap fun k hk hlt => hoth k hlt (fun e => d2 g hg2 (e ▸ hk.1)), fun k hk => ⟨fun e => ?_, fun e => (d1 k (hs1 k hk)).2 e.1⟩, fun k hk e => ?_, fun k hk => ?_⟩
  · rcases e with e | e
    · exact (d1 k (hs1 k hk)).1 e.1
    · have := h12 k hk; omega
  · rcases hk with hk | hk
    · exact d2 k hk.1 e.1
    · have := e.2; omega
  · rcases hk with hk | (hk | hk) | hk
    · exact .inl (hU k (.inl (hs1 k hk)))
    · exact .inl (hU k (.inr (.inl hk.1)))
    · exact .inr hk
    · exact .inl (hU k (.inr (.inr hk.1)))
/-- A block of new memory is put in its place. -/
theorem DO.putB {w w1 : World} {S : Nat → Prop} {u v iv bv : Value} {xs ys : List Bool} {is : List Ino} {bs : List Blk} (h : DO w S u v iv bv xs ys is bs) {g n cap : Nat} (hv : bv = .slice (some ⟨g, 0, none⟩) n cap) (j : Nat) (hj : j < bs.length) (t' : V3) (x' : Blk)
    (hb : Below w.heap.size w w1) (hO : KB.O w1 t' x') (hn : ∀ k, t'.2.1.ownBlock = some k → w.heap.size ≤ k) :
    DO (((w1.setCell ⟨g, j * 3, none⟩ t'.1).setCell ⟨g, j * 3 + 1, none⟩ t'.2.1).setCell ⟨g, j * 3 + 2, none⟩ t'.2.2) (fun k => S k ∨ w.heap.size ≤ k) u v iv bv xs ys is (bs.set j x') := by
  obtain ⟨S1, S2, S3, ti, tb, h1, hs1, hi, hk, d1, d2, hU⟩ := h
  have hg : g < w.heap.size := hk.row.lt g (by rw [hv]; rfl)
  have hg3 : S3 g := hk.so g (by rw [hv]; rfl)
  have hoth : ∀ k, k < w.heap.size → k ≠ g → (((w1.setCell ⟨g, j * 3, none⟩ t'.1).setCell ⟨g, j * 3 + 1, none⟩ t'.2.1).setCell ⟨g, j * 3 + 2, none⟩ t'.2.2).heap[k]? = w.heap[k]? := fun k hk1 hk =>
    (((heap_setCell_other _ ⟨g, j * 3 + 2, none⟩ k _ (by simpa using hk)).trans (heap_setCell_other _ ⟨g, j * 3 + 1, none⟩ k _ (by simpa using hk))).trans (heap_setCell_other _ ⟨g, j * 3, none⟩ k _ (by simpa using hk))).trans (hb.block k hk1)
  have h12 : ∀ m, (u.ownBlock = some m ∨ v.ownBlock = some m) → m < w.heap.size := fun m hm => hm.elim (fun e => (h1.a.lt m e).2) (fun e => (h1.b.lt m e).2)
  have hk2 := hk.bound.put hv j (by rw [hk.len]; exact hj) t' x' hb hO hn (S' := fun k => (S3 k ∧ k < w.heap.size) ∨ w.heap.size ≤ k) (fun k hk => .inl hk) (fun k hk => .inr hk)
  refine ⟨fun k => u.ownBlock = some k ∨ v.ownBlock = some k, fun k => S2 k ∧ k < w.heap.size, _, ti, _, ⟨h1.a.of_heap fun k hk => hoth k (h12 k (.inl hk)) (fun e => (d1 k (hs1 k (.inl hk))).2 (e ▸ hg3)), h1.b.of_heap fun k hk => hoth k (h12 k (.inr hk)) (fun e => (d1 k (hs1 k (.inr hk))).2 (e ▸ hg3)), h1.ne⟩, fun k hk => hk, hi.bound.of_heap fun k hk hlt => hoth k hlt (fun e => d2 k hk.1 (e.symm ▸ hg3)), hk2, fun k hk => ⟨fun e => (d1 k (hs1 k hk)).1 e.1, fun e => ?_⟩, fun k hk e => ?_, fun k hk => ?_⟩
  · rcases e with e | e
    · exact (d1 k (hs1 k hk)).2 e.1
    · have := h12 k hk; omega
  · rcases e with e | e
    · exact d2 k hk.1 e.1
    · have := hk.2; omega
  · rcases hk with hk | hk | (hk | hk)
    · exact .inl (hU k (.inl (hs1 k hk)))
    · exact .inl (hU k (.inr (.inl hk.1)))
    · exact .inl (hU k (.inr (.inr hk.1)))
    · exact .inr hk
end Go.Proofs.YtaoachljojbnjaaGreat.Kit
/- 'xs = append(xs, x)' of inodes or blocks: the step's law, and what it makes of a list and of a disk of memory of their own. No Go function is spoken of. -/
namespace Go.Proofs.YtaoachljojbnjaaGreat.Kit
open Go.RowKit
theorem step_append_three {P : Program} (W : World) {ops : Array Oper} {o : Oper} {a : Act} {K : Act → World → Prop} {Q : Exit → Act → World → Prop} {E : Prop} (hgd : o.guard = none) (s x : Operand) (t : TypeId)
    (ho : o.op = .call { callee := .builtin .append, args := #[s, x], argTypes := #[t, t] }) (e : TypeId) (ht : P.underlying t = some (.slice e)) (z : Value) (bytes : Nat)
    (hi : (P.info? e).map (fun i => (i.zero, i.size, i.bytes)) = some (some z, 3, bytes)) (hzc : z.cells.size = 3) (hby : bytes ≤ 64) (v : Value) (ts : List V3) (hs : a.eval s = v) (hown : TOwns W e v ts)
    (g : Nat) (y : V3) (hx : a.eval x = .slice (some ⟨g, 0, none⟩) 1 1) (hc : W.cell? ⟨g, 0, none⟩ = some y.1 ∧ W.cell? ⟨g, 1, none⟩ = some y.2.1 ∧ W.cell? ⟨g, 2, none⟩ = some y.2.2) (h1 : y.1.oneCell' = true ∧ y.2.1.oneCell' = true ∧ y.2.2.oneCell' = true) (hl : ts.length ≤ 1000000000000)
    (h : ∀ v' w', TOwns w' e v' (ts ++ [y]) → W.grownBy w' v.ownBlock → (∀ k, v'.ownBlock = some k → v.ownBlock = some k ∨ W.heap.size ≤ k) → K (a.put o.dst v') w') :
    if Region.wanted o (yielded ops a.tmps) = true then Oper.wp P o a W K Q else E := by
  obtain ⟨i0, hi, hz0, hz1, hz2⟩ := info_parts hi
  have hown2 : W.ownsRow 0 e 3 v ts.length (f3 ts) := hown
  refine step_append_lies _ hgd s x t ho 0 e i0 z 3 bytes ht hi hz0 hz1 hz2 hzc (by decide) v ts.length (f3 ts) hs hown2 ⟨g, 0, none⟩ 1 1 (f3 [y]) hx rfl ?_ ?_ (by decide) ?_ ?_ (Nat.zero_le _) W.heap.size rfl ?_
  · intro j u hj
    match j, hj with
    | 0, hj => simp [f3] at hj; subst hj; simpa [Addr.add] using hc.1
    | 1, hj => simp [f3] at hj; subst hj; simpa [Addr.add] using hc.2.1
    | 2, hj => simp [f3] at hj; subst hj; simpa [Addr.add] using hc.2.2
    | j + 3, hj => simp [f3] at hj
  · intro u hu
    simp only [f3, List.mem_cons, List.not_mem_nil, or_false] at hu
    rcases hu with rfl | rfl | rfl
    · exact h1.1
    · exact h1.2.1
    · exact h1.2.2
  · unfold maxLen; omega
  · have : (ts.length + 1) * bytes ≤ 1000000000001 * 64 := Nat.mul_le_mul (by omega) hby
    omega
  · intro g' cap w' hown' hgrow hat _
    refine h _ w' ?_ hgrow fun k hk => ?_
    · unfold TOwns
      rw [List.length_append, f3_append]
      exact hown'
    · simp only [Value.ownBlock, Option.some.injEq] at hk
      subst hk
      rcases hat with hat | hat
      · exact .inl hat
      · exact .inr (by omega)
theorem GO.append {α : Type} {K : Kd α} {w w1 w2 : World} {S : Nat → Prop} {v v' : Value} {ts : List V3} {xs : List α} {t' : V3} {x' : α} (h : GO K w S v ts xs) (hb : Below w.heap.size w w1) (hO : K.O w1 t' x') (hn : ∀ k, (K.p t').ownBlock = some k → w.heap.size ≤ k)
    (hr : TOwns w2 K.T v' (ts ++ [t'])) (hg : w1.grownBy w2 v.ownBlock) (hv : ∀ k, v'.ownBlock = some k → v.ownBlock = some k ∨ w1.heap.size ≤ k) : GO K w2 (fun k => (S k ∧ k < w.heap.size) ∨ w.heap.size ≤ k) v' (ts ++ [t']) (xs ++ [x']) := by
  have hl := h.len
  have hsz := hb.size
  have hlt : ∀ (i : Nat) (hi : i < ts.length) (k : Nat), (K.p ts[i]).ownBlock = some k → k < w.heap.size := fun i hi k hk => K.lt (h.inn i hi (by omega)) k hk
  have hlt' : ∀ k, (K.p t').ownBlock = some k → k < w1.heap.size := fun k hk => K.lt hO k hk
  have hvl : ∀ k, v.ownBlock = some k → k < w.heap.size := h.row.lt
  have at_l : ∀ (i : Nat) (hi : i < (ts ++ [t']).length), (∃ h' : i < ts.length, (ts ++ [t'])[i] = ts[i]) ∨ (i = ts.length ∧ (ts ++ [t'])[i] = t') := fun i hi => by
    by_cases e : i < ts.length
    · exact .inl ⟨e, List.getElem_append_left e⟩
    · have e2 : i = ts.length := by simp at hi; omega
      refine .inr ⟨e2, ?_⟩
      subst e2
      simp
  refine ⟨by simp [hl], hr, fun i hi hi' => ?_, fun i j hi hj hne k e1 e2 => ?_, fun i hi k e1 e2 => ?_, fun k e => ?_, fun i hi k e => ?_⟩
  · rcases at_l i hi with ⟨h', e⟩ | ⟨rfl, e⟩
    · rw [e, List.getElem_append_left (by omega)]
      exact K.heap (h.inn i h' (by omega)) fun k hk => (hg.block k (by have := hlt i h' k hk; omega) (fun e => h.out i h' k hk e.symm)).trans (hb.block k (hlt i h' k hk))
    · have e2 : (xs ++ [x'])[ts.length] = x' := by simp [hl]
      rw [e, e2]
      exact K.heap hO fun k hk => hg.block k (hlt' k hk) (fun e => by have := hvl k e.symm; have := hn k hk; omega)
  · rcases at_l i hi with ⟨h1, q1⟩ | ⟨q0, q1⟩ <;> rcases at_l j hj with ⟨h2, q2⟩ | ⟨q3, q2⟩ <;> rw [q1] at e1 <;> rw [q2] at e2
    · exact h.sep i j h1 h2 hne k e1 e2
    · have := hlt i h1 k e1; have := hn k e2; omega
    · have := hlt j h2 k e2; have := hn k e1; omega
    · omega
  · rcases at_l i hi with ⟨h1, q1⟩ | ⟨q0, q1⟩ <;> rw [q1] at e1
    · rcases hv k e2 with q | q
      · exact h.out i h1 k e1 q
      · have := hlt i h1 k e1; omega
    · rcases hv k e2 with q | q
      · have := hvl k q; have := hn k e1; omega
      · have := hlt' k e1; omega
  · rcases hv k e with q | q
    · exact .inl ⟨h.so k q, hvl k q⟩
    · exact .inr (by omega)
  · rcases at_l i hi with ⟨h1, q1⟩ | ⟨q0, q1⟩ <;> rw [q1] at e
    · exact .inl ⟨h.si i h1 k e, hlt i h1 k e⟩
    · exact .inr (hn k e)
/-- An inode of new memory is appended. -/
theorem DO.appI {w : World} {S : Nat → Prop} {u v iv bv : Value} {xs ys : List Bool} {is : List Ino} {bs : List Blk} (h : DO w S u v iv bv xs ys is bs) :
    ∃ ti, TOwns w 105 iv ti ∧ ti.length = is.length ∧ ∀ (w1 w2 : World) (iv' : Value) (t' : V3) (x' : Ino), Below w.heap.size w w1 → KI.O w1 t' x' → (∀ k, t'.2.2.ownBlock = some k → w.heap.size ≤ k) →
      TOwns w2 105 iv' (ti ++ [t']) → w1.grownBy w2 iv.ownBlock → (∀ k, iv'.ownBlock = some k → iv.ownBlock = some k ∨ w1.heap.size ≤ k) → DO w2 (fun k => S k ∨ w.heap.size ≤ k) u v iv' bv xs ys (is ++ [x']) bs := by
  obtain ⟨S1, S2, S3, ti, tb, h1, hs1, hi, hk, d1, d2, hU⟩ := h
  refine ⟨ti, hi.row, hi.len, fun w1 w2 iv' t' x' hb hO hn hr hg hv => ?_⟩
  have hsz := hb.size
  have h12 : ∀ m, (u.ownBlock = some m ∨ v.ownBlock = some m) → m < w.heap.size := fun m hm => hm.elim (fun e => (h1.a.lt m e).2) (fun e => (h1.b.lt m e).2)
  have hoth : ∀ k, k < w.heap.size → iv.ownBlock ≠ some k → w2.heap[k]? = w.heap[k]? := fun k hk hne => (hg.block k (by omega) (fun e => hne e.symm)).trans (hb.block k hk)
  refine ⟨fun k => u.ownBlock = some k ∨ v.ownBlock = some k, _, fun k => S3 k ∧ k < w.heap.size, _, tb, ⟨h1.a.of_heap fun k hk => hoth k (h12 k (.inl hk)) (fun e => (d1 k (hs1 k (.inl hk))).1 (hi.so k e)), h1.b.of_heap fun k hk => hoth k (h12 k (.inr hk)) (fun e => (d1 k (hs1 k (.inr hk))).1 (hi.so k e)), h1.ne⟩, fun k hk => hk, hi.append hb hO hn hr hg hv, hk.bound.of_heap fun k hk hlt => hoth k hlt (fun e => d2 k (hi.so k e) hk.1), fun k hk => ⟨fun e => ?_, fun e => (d1 k (hs1 k hk)).2 e.1⟩, fun k hk e => ?_, fun k hk => ?_⟩
  · rcases e with e | e
    · exact (d1 k (hs1 k hk)).1 e.1
    · have := h12 k hk; omega
  · rcases hk with hk | hk
    · exact d2 k hk.1 e.1
    · have := e.2; omega
  · rcases hk with hk | (hk | hk) | hk
    · exact .inl (hU k (.inl (hs1 k hk)))
    · exact .inl (hU k (.inr (.inl hk.1)))
    · exact .inr hk
    · exact .inl (hU k (.inr (.inr hk.1)))
/-- Blocks of new memory come in the place of none. -/
theorem DO.setB {w w1 : World} {S S' : Nat → Prop} {u v iv bv bv' : Value} {xs ys : List Bool} {is : List Ino} {bs bs' : List Blk} (h : DO w S u v iv bv xs ys is bs) (hb : Below w.heap.size w w1) {tb' : List V3} (hk' : GO KB w1 S' bv' tb' bs') (hs' : ∀ k, S' k → w.heap.size ≤ k) :
    DO w1 (fun k => S k ∨ w.heap.size ≤ k) u v iv bv' xs ys is bs' := by
  obtain ⟨S1, S2, S3, ti, tb, h1, hs1, hi, hk, d1, d2, hU⟩ := h
  have h12 : ∀ m, (u.ownBlock = some m ∨ v.ownBlock = some m) → m < w.heap.size := fun m hm => hm.elim (fun e => (h1.a.lt m e).2) (fun e => (h1.b.lt m e).2)
  refine ⟨fun k => u.ownBlock = some k ∨ v.ownBlock = some k, fun k => S2 k ∧ k < w.heap.size, S', ti, tb', h1.below hb (Nat.le_refl _), fun k hk => hk, hi.bound.below hb (Nat.le_refl _), hk', fun k hk => ⟨fun e => (d1 k (hs1 k hk)).1 e.1, fun e => ?_⟩, fun k hk e => ?_, fun k hk => ?_⟩
  · have := h12 k hk; have := hs' k e; omega
  · have := hk.2; have := hs' k e; omega
  · rcases hk with hk | hk | hk
    · exact .inl (hU k (.inl (hs1 k hk)))
    · exact .inl (hU k (.inr (.inl hk.1)))
    · exact .inr (hs' k hk)
end Go.Proofs.YtaoachljojbnjaaGreat.Kit
/- A disk while it is copied: its variable, its parts, what is appended to them. No Go function is spoken of. -/
namespace Go.Proofs.YtaoachljojbnjaaGreat.Kit
open Go.RowKit
theorem DO.appB {w : World} {S : Nat → Prop} {u v iv bv : Value} {xs ys : List Bool} {is : List Ino} {bs : List Blk} (h : DO w S u v iv bv xs ys is bs) :
    ∃ tb, TOwns w 109 bv tb ∧ tb.length = bs.length ∧ ∀ (w1 w2 : World) (bv' : Value) (t' : V3) (x' : Blk), Below w.heap.size w w1 → KB.O w1 t' x' → (∀ k, t'.2.1.ownBlock = some k → w.heap.size ≤ k) →
      TOwns w2 109 bv' (tb ++ [t']) → w1.grownBy w2 bv.ownBlock → (∀ k, bv'.ownBlock = some k → bv.ownBlock = some k ∨ w1.heap.size ≤ k) → DO w2 (fun k => S k ∨ w.heap.size ≤ k) u v iv bv' xs ys is (bs ++ [x']) := by
  obtain ⟨S1, S2, S3, ti, tb, h1, hs1, hi, hk, d1, d2, hU⟩ := h
  refine ⟨tb, hk.row, hk.len, fun w1 w2 bv' t' x' hb hO hn hr hg hv => ?_⟩
  have hsz := hb.size
  have h12 : ∀ m, (u.ownBlock = some m ∨ v.ownBlock = some m) → m < w.heap.size := fun m hm => hm.elim (fun e => (h1.a.lt m e).2) (fun e => (h1.b.lt m e).2)
  have hoth : ∀ k, k < w.heap.size → bv.ownBlock ≠ some k → w2.heap[k]? = w.heap[k]? := fun k hk hne => (hg.block k (by omega) (fun e => hne e.symm)).trans (hb.block k hk)
  refine ⟨fun k => u.ownBlock = some k ∨ v.ownBlock = some k, fun k => S2 k ∧ k < w.heap.size, _, ti, _, ⟨h1.a.of_heap fun m hm => hoth m (h12 m (.inl hm)) (fun e => (d1 m (hs1 m (.inl hm))).2 (hk.so m e)), h1.b.of_heap fun m hm => hoth m (h12 m (.inr hm)) (fun e => (d1 m (hs1 m (.inr hm))).2 (hk.so m e)), h1.ne⟩, fun k hk => hk, hi.bound.of_heap fun m hm hlt => hoth m hlt (fun e => d2 m hm.1 (hk.so m e)), hk.append hb hO hn hr hg hv, fun m hm => ⟨fun e => (d1 m (hs1 m hm)).1 e.1, fun e => ?_⟩, fun m hm e => ?_, fun m hm => ?_⟩
  · rcases e with e | e
    · exact (d1 m (hs1 m hm)).2 e.1
    · have := h12 m hm; omega
  · rcases e with e | e
    · exact d2 m hm.1 e.1
    · have := hm.2; omega
  · rcases hm with hm | hm | (hm | hm)
    · exact .inl (hU m (.inl (hs1 m hm)))
    · exact .inl (hU m (.inr (.inl hm.1)))
    · exact .inl (hU m (.inr (.inr hm.1)))
    · exact .inr hm
theorem DO.soI {w : World} {S : Nat → Prop} {u v iv bv : Value} {xs ys : List Bool} {is : List Ino} {bs : List Blk} (h : DO w S u v iv bv xs ys is bs) : ∀ k, (iv.ownBlock = some k ∨ bv.ownBlock = some k) → S k := by
  obtain ⟨S1, S2, S3, ti, tb, a1, a2, a3, a4, a5, a6, a7⟩ := h
  exact fun k hk => hk.elim (fun e => a7 k (.inr (.inl (a3.so k e)))) (fun e => a7 k (.inr (.inr (a4.so k e))))
/-- Bits of new memory, without inodes and blocks. -/
theorem DO.bits {w : World} {B : Nat} {u v : Value} {xs ys : List Bool} (h : Two w B u v xs ys) : DO w (fun k => B ≤ k) u v (.slice none 0 0) (.slice none 0 0) xs ys [] [] := by
  refine ⟨fun k => B ≤ k, fun _ => False, fun _ => False, [], [], h.base_le (Nat.zero_le _), fun k hk => hk.elim (fun e => (h.a.lt k e).1) (fun e => (h.b.lt k e).1), ?_, ?_, fun k hk => ⟨id, id⟩, fun k hk => hk.elim, fun k hk => hk.elim id (fun e => e.elim (fun e => e.elim) (fun e => e.elim))⟩
  · exact ⟨rfl, TOwns.nil _ _, fun j hj => by simp at hj, fun i j hi => by simp at hi, fun j hj => by simp at hj, (fun k e => by cases e), fun j hj => by simp at hj⟩
  · exact ⟨rfl, TOwns.nil _ _, fun j hj => by simp at hj, fun i j hi => by simp at hi, fun j hj => by simp at hj, (fun k e => by cases e), fun j hj => by simp at hj⟩
/-- The cells of no disk. -/
def noD : Array Value := #[.slice none 0 0, .slice none 0 0, .slice none 0 0, .slice none 0 0]
/-- A disk while it is copied: the argument's box at the first new block, the result's at the second, the variable's block b, its parts. -/
structure Dz (w w' : World) (A : Array Value) (b : Nat) (u v iv bv : Value) (xs ys : List Bool) (is : List Ino) (bs : List Blk) : Prop where
  arg : AtC w' w.heap.size 41 A
  res : AtC w' (w.heap.size + 1) 41 noD
  box : AtC w' b 41 #[u, v, iv, bv]
  dsk : DO w' (fun k => w.heap.size + 1 < k ∧ k ≠ b) u v iv bv xs ys is bs
  bel : Below w.heap.size w w'
  hb : w.heap.size + 1 < b
namespace Dz
variable {w w' w1 : World} {A : Array Value} {b : Nat} {u v iv bv : Value} {xs ys : List Bool} {is : List Ino} {bs : List Blk}
theorem below (h : Dz w w' A b u v iv bv xs ys is bs) (hb : Below w'.heap.size w' w1) : Dz w w1 A b u v iv bv xs ys is bs :=
  ⟨h.arg.over hb, h.res.over hb, h.box.over hb, h.dsk.below hb (Nat.le_refl _), h.bel.trans (hb.mono h.bel.size), h.hb⟩
theorem drew (h : Dz w w' A b u v iv bv xs ys is bs) : Dz w w'.drew A b u v iv bv xs ys is bs := h.below (Below.refl _ _).drew
theorem alloc (h : Dz w w' A b u v iv bv xs ys is bs) (o : Obj) : Dz w (w'.alloc o) A b u v iv bv xs ys is bs := h.below ((Below.refl _ _).alloc (Nat.le_refl _) o)
/-- A new block that is nobody's yet may be written. -/
theorem other (h : Dz w w' A b u v iv bv xs ys is bs) {B j : Nat} (hB : w.heap.size + 1 < B) (hb : B ≠ b) (hn : ∀ k, k = B → ¬ (w.heap.size + 1 < k ∧ k ≠ b ∧ k < w1.heap.size)) (x : Value) (hw : Below w1.heap.size w1 w') (h1 : Dz w w1 A b u v iv bv xs ys is bs) : Dz w (w'.setCell ⟨B, j, none⟩ x) A b u v iv bv xs ys is bs := by
  have hlt : w1.heap.size ≤ B := by
    rcases Nat.lt_or_ge B w1.heap.size with e | e
    · exact absurd ⟨hB, hb, e⟩ (hn B rfl)
    · exact e
  have hbb := h1.box.lt
  have hrr := h1.res.lt
  refine ⟨h.arg.other (by omega) _, h.res.other (by omega) _, h.box.other (by omega) _, ?_, h.bel.setCell (by show w.heap.size ≤ B; omega) _, h.hb⟩
  exact h1.dsk.of_heap fun k hk hkl => (heap_setCell_other w' ⟨B, j, none⟩ k x (by show k ≠ B; omega)).trans (hw.block k hkl)
/-- An inode is appended, and the list is stored. -/
theorem appI (h : Dz w w' A b u v iv bv xs ys is bs) : ∃ ti, TOwns w' 105 iv ti ∧ ti.length = is.length ∧ ∀ (w1 w2 : World) (iv' : Value) (t' : V3) (x' : Ino), Below w'.heap.size w' w1 → KI.O w1 t' x' → (∀ k, t'.2.2.ownBlock = some k → w'.heap.size ≤ k) →
    TOwns w2 105 iv' (ti ++ [t']) → w1.grownBy w2 iv.ownBlock → (∀ k, iv'.ownBlock = some k → iv.ownBlock = some k ∨ w1.heap.size ≤ k) →
    AtC w2 b 41 #[u, v, iv, bv] ∧ Dz w (w2.setCell ⟨b, 2, none⟩ iv') A b u v iv' bv xs ys (is ++ [x']) bs := by
  obtain ⟨ti, h1, h2, h3⟩ := h.dsk.appI
  refine ⟨ti, h1, h2, fun w1 w2 iv' t' x' hb hO hn hr hg hv => ?_⟩
  have hso := fun k (hk : iv.ownBlock = some k) => h.dsk.soI k (.inl hk)
  have hbs := h.box.lt
  have hsz := h.bel.size
  have hsz1 := hb.size
  have hr0 := h.res.lt
  have ha0 := h.arg.lt
  have e0 : AtC w2 w.heap.size 41 A := (hg.block _ (by omega) (fun e => by have := hso _ e.symm; omega)).trans (h.arg.over hb)
  have e1 : AtC w2 (w.heap.size + 1) 41 noD := (hg.block _ (by omega) (fun e => by have := hso _ e.symm; omega)).trans (h.res.over hb)
  have e2 : AtC w2 b 41 #[u, v, iv, bv] := (hg.block _ (by omega) (fun e => by have := hso _ e.symm; omega)).trans (h.box.over hb)
  have d := h3 w1 w2 iv' t' x' hb hO hn hr hg hv
  have b2 : Below w.heap.size w w2 := (h.bel.trans (hb.mono hsz)).grown hg (by omega) (fun k hk => by have := hso k hk; omega)
  have hbb := h.hb
  refine ⟨e2, ⟨e0.other (by omega) _, e1.other (by omega) _, e2.set 2 iv', ?_, b2.setCell (by show w.heap.size ≤ b; omega) _, h.hb⟩⟩
  have d2 := d.mono (S' := fun k => w.heap.size + 1 < k ∧ k ≠ b) fun k hk => hk.elim id (fun e => ⟨by omega, by omega⟩)
  exact d2.of_heap fun k hk _ => heap_setCell_other w2 ⟨b, 2, none⟩ k iv' (by show k ≠ b; omega)
/-- A block is appended, and the list is stored. -/
theorem appB (h : Dz w w' A b u v iv bv xs ys is bs) : ∃ tb, TOwns w' 109 bv tb ∧ tb.length = bs.length ∧ ∀ (w1 w2 : World) (bv' : Value) (t' : V3) (x' : Blk), Below w'.heap.size w' w1 → KB.O w1 t' x' → (∀ k, t'.2.1.ownBlock = some k → w'.heap.size ≤ k) →
    TOwns w2 109 bv' (tb ++ [t']) → w1.grownBy w2 bv.ownBlock → (∀ k, bv'.ownBlock = some k → bv.ownBlock = some k ∨ w1.heap.size ≤ k) →
    AtC w2 b 41 #[u, v, iv, bv] ∧ Dz w (w2.setCell ⟨b, 3, none⟩ bv') A b u v iv bv' xs ys is (bs ++ [x']) := by
  obtain ⟨ti, h1, h2, h3⟩ := h.dsk.appB
  refine ⟨ti, h1, h2, fun w1 w2 iv' t' x' hb hO hn hr hg hv => ?_⟩
  have hso := fun k (hk : bv.ownBlock = some k) => h.dsk.soI k (.inr hk)
  have hbs := h.box.lt
  have hsz := h.bel.size
  have hsz1 := hb.size
  have hr0 := h.res.lt
  have ha0 := h.arg.lt
  have e0 : AtC w2 w.heap.size 41 A := (hg.block _ (by omega) (fun e => by have := hso _ e.symm; omega)).trans (h.arg.over hb)
  have e1 : AtC w2 (w.heap.size + 1) 41 noD := (hg.block _ (by omega) (fun e => by have := hso _ e.symm; omega)).trans (h.res.over hb)
  have e2 : AtC w2 b 41 #[u, v, iv, bv] := (hg.block _ (by omega) (fun e => by have := hso _ e.symm; omega)).trans (h.box.over hb)
  have d := h3 w1 w2 iv' t' x' hb hO hn hr hg hv
  have b2 : Below w.heap.size w w2 := (h.bel.trans (hb.mono hsz)).grown hg (by omega) (fun k hk => by have := hso k hk; omega)
  have hbb := h.hb
  refine ⟨e2, ⟨e0.other (by omega) _, e1.other (by omega) _, e2.set 3 iv', ?_, b2.setCell (by show w.heap.size ≤ b; omega) _, h.hb⟩⟩
  have d2 := d.mono (S' := fun k => w.heap.size + 1 < k ∧ k ≠ b) fun k hk => hk.elim id (fun e => ⟨by omega, by omega⟩)
  exact d2.of_heap fun k hk _ => heap_setCell_other w2 ⟨b, 3, none⟩ k iv' (by show k ≠ b; omega)
end Dz
/-- The bits are copied; the variable is laid. -/
theorem dz_start {w w1 : World} {A : Array Value} {u v : Value} {xs ys : List Bool} (B1 : Below ((w.alloc (.cells A 41)).alloc (.cells noD 41)).heap.size ((w.alloc (.cells A 41)).alloc (.cells noD 41)) w1) (T1 : Two w1 ((w.alloc (.cells A 41)).alloc (.cells noD 41)).heap.size u v xs ys) :
    Dz w (w1.alloc (.cells #[u, v, .slice none 0 0, .slice none 0 0] 41)) A w1.heap.size u v (.slice none 0 0) (.slice none 0 0) xs ys [] [] := by
  have hsz := B1.size
  simp at hsz
  have k1 := (AtC.new (w.alloc (.cells A 41)) 41 noD).over B1
  simp at k1
  refine ⟨(((AtC.new w 41 A).alloc _).over B1).alloc _, k1.alloc _, AtC.new w1 41 _, ?_, ((((Below.refl _ w).alloc (Nat.le_refl _) _).alloc (by simp) _).trans (B1.mono (by simp; omega))).alloc (by omega) _, by omega⟩
  have T2 : Two w1 (w.heap.size + 1 + 1) u v xs ys := T1.base_le (by simp)
  obtain ⟨S1, S2, S3, ti, tb, h1, h2, h3, h4, h5, h6, h7⟩ := DO.bits T2
  have hlt : ∀ k, (u.ownBlock = some k ∨ v.ownBlock = some k) → w.heap.size + 1 < k ∧ k ≠ w1.heap.size := fun k hk => hk.elim (fun e => by have := T2.a.lt k e; omega) (fun e => by have := T2.b.lt k e; omega)
  exact ⟨fun k => u.ownBlock = some k ∨ v.ownBlock = some k, fun _ => False, fun _ => False, [], [], (T2.base_le (Nat.zero_le _)).alloc _, fun k hk => hk, ⟨rfl, TOwns.nil _ _, fun j hj => by simp at hj, fun i j hi => by simp at hi, fun j hj => by simp at hj, (fun k e => by cases e), fun j hj => by simp at hj⟩, ⟨rfl, TOwns.nil _ _, fun j hj => by simp at hj, fun i j hi => by simp at hi, fun j hj => by simp at hj, (fun k e => by cases e), fun j hj => by simp at hj⟩, fun k hk => ⟨id, id⟩, fun k hk => hk.elim, fun k hk => hk.elim (hlt k) (fun e => e.elim (fun e => e.elim) (fun e => e.elim))⟩
/-- A copied inode. -/
def MkI (k : Nat) (y s : Int) (z : List Int) : Mk := .val [k] (fun lo hi w v => ∃ u, v = .agg #[.int .i64 y, .int .i64 s, u] ∧ ROwns w lo 3 u (ic z) ∧ ∀ i, u.ownBlock = some i → i < hi)
  (fun _ _ _ _ _ h hb => by obtain ⟨u, h1, h2, h3⟩ := h; exact ⟨u, h1, h2.below hb (Nat.le_refl _), h3⟩)
/-- The list of one inode, the k-th value. -/
def MkI1 (k : Nat) (y s : Int) : Mk := .val1 [k] k (by simp) (fun lo hi w u v => v = .slice (some ⟨lo, 0, none⟩) 1 1 ∧ hi = lo + 1 ∧ ∃ p, u = .agg #[.int .i64 y, .int .i64 s, p] ∧ AtC w lo 105 #[.int .i64 y, .int .i64 s, p])
  (fun _ _ _ _ _ _ h hb => by obtain ⟨h1, h2, p, h3, h4⟩ := h; exact ⟨h1, h2, p, h3, h4.over hb⟩)
/-- A copied block. -/
def MkK (k : Nat) (d : Bool) (t : ByteArray) (z : List Sl) : Mk := .val [k] (fun lo hi w v => ∃ u, v = .agg #[.bool d, u, .string t] ∧ SOwns w lo 126 u z ∧ ∀ i, u.ownBlock = some i → i < hi)
  (fun _ _ _ _ _ h hb => by obtain ⟨u, h1, h2, h3⟩ := h; exact ⟨u, h1, h2.below hb (Nat.le_refl _), h3⟩)
/-- The list of one block, the k-th value. -/
def MkK1 (k : Nat) (d : Bool) (t : ByteArray) : Mk := .val1 [k] k (by simp) (fun lo hi w u v => v = .slice (some ⟨lo, 0, none⟩) 1 1 ∧ hi = lo + 1 ∧ ∃ p, u = .agg #[.bool d, p, .string t] ∧ AtC w lo 109 #[.bool d, p, .string t])
  (fun _ _ _ _ _ _ h hb => by obtain ⟨h1, h2, p, h3, h4⟩ := h; exact ⟨h1, h2, p, h3, h4.over hb⟩)
end Go.Proofs.YtaoachljojbnjaaGreat.Kit
/- A copy of a disk: spec.l07Copy by its contract. -/
namespace Go.Proofs.YtaoachljojbnjaaGreat
open Go.RowKit Kit
set_option maxRecDepth 100000 in
set_option maxHeartbeats 3200000 in
theorem specCopy_any (u v iv bv : Value) (xs ys : List Bool) (is : List Ino) (bs : List Blk) (w : World) (h : DR w u v iv bv xs ys is bs) (hB : Big 1048576 xs ys is bs) :
    Calls Tryz.prog 44 #[.agg #[u, v, iv, bv]] w fun e w' => ∃ u' v' i' b', e = .returned (.agg #[u', v', i', b']) ∧ DO w' (fun k => w.heap.size ≤ k) u' v' i' b' xs ys is bs ∧ Below w.heap.size w w' := by
  have H := hide h
  have HG := hide hB
  have hil : is.length ≤ 1048576 := hB.i
  have hbl : bs.length ≤ 1048576 := hB.b
  obtain ⟨a1, c1, a2, c2, a3, c3, a4, c4, rfl, rfl, rfl, rfl⟩ := h.form
  clear hB h
  go_enter Tryz.func44, Tryz.ntmps44
  go_wp2_with fail
  refine (copyB_any _ _ xs ys _ ((H.out.a.alloc _).alloc _) ((H.out.b.alloc _).alloc _) HG.out.x HG.out.y).mono ?_
  rintro e w1 ⟨u1, v1, rfl, T1, B1⟩
  obtain ⟨d1, f1, d2, f2, rfl, rfl⟩ := T1.form
  have HD := hide (dz_start (A := #[.slice a1 xs.length c1, .slice a2 ys.length c2, .slice a3 is.length c3, .slice a4 bs.length c4]) B1 T1)
  clear T1 B1
  go_wp2_with fail
  generalize w1.heap.size = b at *
  generalize w1.alloc (.cells #[.slice d1 xs.length f1, .slice d2 ys.length f2, .slice none 0 0, .slice none 0 0] 41) = W1 at *
  go_loopw [4] (fun i wr => ∃ j : Nat, j ≤ is.length ∧ i = .int .i64 j ∧ Hid (∃ iv, Dz w wr #[.slice a1 xs.length c1, .slice a2 ys.length c2, .slice a3 is.length c3, .slice a4 bs.length c4] b (.slice d1 xs.length f1) (.slice d2 ys.length f2) iv (.slice none 0 0) xs ys (is.take j) [])) (fun i _ => is.length - (intOf i).toNat)
  case atStart => exact ⟨0, Nat.zero_le _, rfl, _, HD.out⟩
  case round =>
    obtain ⟨j, hj, rfl, HR⟩ := hrel
    obtain ⟨iv, hds⟩ := HR.out
    by_cases hlt : j < is.length
    · obtain ⟨ti, k1, k2, k3⟩ := hds.drew.appI
      obtain ⟨gi, ci, rfl, -⟩ := k1.form
      obtain ⟨ai, cai, ei, -, hci⟩ := H.out.i.ino
      obtain ⟨g, off, p, rfl, hg, m1, m2, m3, hp⟩ := hci j hlt
      simp only [Value.slice.injEq] at ei
      obtain ⟨rfl, -, rfl⟩ := ei
      have hpl := HG.out.p j hlt
      have htk : is.take j ++ [is[j]] = is.take (j + 1) := List.take_append_getElem hlt
      obtain ⟨X, hX⟩ : ∃ X, is[j] = X := ⟨_, rfl⟩
      obtain ⟨y, s, z⟩ := X
      rw [hX] at m1 m2 hp hpl htk
      simp only at m1 m2 hp hpl
      obtain ⟨pa, pc, rfl⟩ := hp.form
      have hti : ti.length = j := by rw [k2, List.length_take]; omega
      have HX := hide (And.intro k1 (And.intro k3 hti))
      have HDS := hide hds
      have HP : Hid (∀ W, Below w.heap.size w W → RInts W (.slice pa z.length pc) z) := fun W b => hp.below b (Nat.le_refl _)
      have HPL := hide hpl
      have HTK := hide htk
      have HC : Hid (∀ W, Below wr.drew.heap.size wr.drew W → W.cell? ⟨b, 2, none⟩ = some (.slice gi ti.length ci) ∧ W.cell? ⟨w.heap.size, 2, none⟩ = some (.slice (some ⟨g, off, none⟩) is.length c3) ∧ W.cell? ⟨g, off + j * 3, none⟩ = some (.int .i64 y) ∧ W.cell? ⟨g, off + j * 3 + 1, none⟩ = some (.int .i64 s) ∧ W.cell? ⟨g, off + j * 3 + 2, none⟩ = some (.slice pa z.length pc) ∧ Below w.heap.size w W) := fun W b => by
        have hw := HDS.out.drew.below b
        exact ⟨hw.box.cell 2, hw.arg.cell 2, (hw.bel.cell (p := ⟨g, off + j * 3, none⟩) hg).trans m1, (hw.bel.cell (p := ⟨g, off + j * 3 + 1, none⟩) hg).trans m2, (hw.bel.cell (p := ⟨g, off + j * 3 + 2, none⟩) hg).trans m3, hw.bel⟩
      have b0 := HDS.out.arg.cell 2
      simp at b0
      have j0 : (0 : Int) ≤ (j : Int) := by omega
      have j1 : (j : Int) < (is.length : Int) := by omega
      clear k1 k2 k3 hds HR hti m1 m2 m3 hp hpl htk hci hX hg
      go_wp2_with fail
      refine wp_region_frm (by kernel_rfl) [0, 1, 2, 3, 4, 5, 6, 7, 8] [9, 10, 11] (fun i => match i with | 0 => .const [] (.pointer (some ⟨b, 2, none⟩)) | 1 => .const [0] (.slice gi ti.length ci) | 2 => .const [] (.pointer (some ⟨w.heap.size, 2, none⟩)) | 3 => .const [2] (.slice (some ⟨g, off, none⟩) is.length c3) | 4 => .const [] (.int .i64 (j : Int)) | 5 => .const [3, 4] (.pointer (some ⟨g, off + j * 3, none⟩)) | 6 => .const [5] (.agg #[.int .i64 y, .int .i64 s, .slice pa z.length pc]) | 7 => MkI 6 y s z | 8 => MkI1 7 y s | _ => .triv) (fun x => ⟨#[Value.agg #[Value.slice a1 xs.length c1, Value.slice a2 ys.length c2, Value.slice (some { block := g, off := off }) is.length c3, Value.slice a4 bs.length c4], Value.pointer (some { block := w.heap.size, off := 0 }), Value.pointer (some { block := w.heap.size + 1, off := 0 }), Value.pointer (some { block := b, off := 0 }), Value.int IntKind.i64 ↑j, undef, Value.pointer (some { block := w.heap.size, off := 0 }), Value.agg #[Value.slice a1 xs.length c1, Value.slice a2 ys.length c2], Value.agg #[Value.slice d1 xs.length f1, Value.slice d2 ys.length f2], Value.agg #[Value.slice d1 xs.length f1, Value.slice d2 ys.length f2, Value.slice none 0 0, Value.slice none 0 0], Value.int IntKind.i64 ↑j, Value.pointer (some { block := w.heap.size, off := 2 }), Value.slice (some { block := g, off := off }) is.length c3, Value.int IntKind.i64 ↑is.length, Value.bool true, u15, u16, x 0, x 1, x 2, x 3, x 4, x 5, x 6, x 7, x 8, u26, u27, undef, undef, undef, undef, undef, undef, undef, undef, undef, undef, undef, undef, undef, undef, undef, undef, undef, undef, undef], []⟩) (fun i => match i with | 0 => u17 | 1 => u18 | 2 => u19 | 3 => u20 | 4 => u21 | 5 => u22 | 6 => u23 | 7 => u24 | 8 => u25 | _ => undef) rfl (by kernel_rfl) (by kernel_rfl) (by kernel_rfl) rfl ?_ ?_
      · intro jo hj so x iw W hd hp K hK
        simp only [List.mem_cons, List.not_mem_nil, or_false] at hj
        rcases hj with rfl | rfl | rfl | rfl | rfl | rfl | rfl | rfl | rfl
        · refine wpOp_step (o := _) rfl fun K' hK' => ?_
          have HK : Hid (∀ v W', Below W.heap.size W W' → ((Mk.const [] (.pointer (some ⟨b, 2, none⟩)) : Mk)).P W.heap.size W'.heap.size W' v (upd x 0 v) → K' ⟨#[Value.agg #[Value.slice a1 xs.length c1, Value.slice a2 ys.length c2, Value.slice (some { block := g, off := off }) is.length c3, Value.slice a4 bs.length c4], Value.pointer (some { block := w.heap.size, off := 0 }), Value.pointer (some { block := w.heap.size + 1, off := 0 }), Value.pointer (some { block := b, off := 0 }), Value.int IntKind.i64 ↑j, undef, Value.pointer (some { block := w.heap.size, off := 0 }), Value.agg #[Value.slice a1 xs.length c1, Value.slice a2 ys.length c2], Value.agg #[Value.slice d1 xs.length f1, Value.slice d2 ys.length f2], Value.agg #[Value.slice d1 xs.length f1, Value.slice d2 ys.length f2, Value.slice none 0 0, Value.slice none 0 0], Value.int IntKind.i64 ↑j, Value.pointer (some { block := w.heap.size, off := 2 }), Value.slice (some { block := g, off := off }) is.length c3, Value.int IntKind.i64 ↑is.length, Value.bool true, u15, u16, v, x 1, x 2, x 3, x 4, x 5, x 6, x 7, x 8, u26, u27, undef, undef, undef, undef, undef, undef, undef, undef, undef, undef, undef, undef, undef, undef, undef, undef, undef, undef, undef], []⟩ W') := fun v W' h1 h2 => hK' _ _ (hK v W' h1 h2)
          clear hK hK' hp hd
          go_simp
          exact HK.out _ _ (Below.refl _ _) rfl
        · refine wpOp_step (o := _) rfl fun K' hK' => ?_
          have HK : Hid (∀ v W', Below W.heap.size W W' → ((Mk.const [0] (.slice gi ti.length ci) : Mk)).P W.heap.size W'.heap.size W' v (upd x 1 v) → K' ⟨#[Value.agg #[Value.slice a1 xs.length c1, Value.slice a2 ys.length c2, Value.slice (some { block := g, off := off }) is.length c3, Value.slice a4 bs.length c4], Value.pointer (some { block := w.heap.size, off := 0 }), Value.pointer (some { block := w.heap.size + 1, off := 0 }), Value.pointer (some { block := b, off := 0 }), Value.int IntKind.i64 ↑j, undef, Value.pointer (some { block := w.heap.size, off := 0 }), Value.agg #[Value.slice a1 xs.length c1, Value.slice a2 ys.length c2], Value.agg #[Value.slice d1 xs.length f1, Value.slice d2 ys.length f2], Value.agg #[Value.slice d1 xs.length f1, Value.slice d2 ys.length f2, Value.slice none 0 0, Value.slice none 0 0], Value.int IntKind.i64 ↑j, Value.pointer (some { block := w.heap.size, off := 2 }), Value.slice (some { block := g, off := off }) is.length c3, Value.int IntKind.i64 ↑is.length, Value.bool true, u15, u16, x 0, v, x 2, x 3, x 4, x 5, x 6, x 7, x 8, u26, u27, undef, undef, undef, undef, undef, undef, undef, undef, undef, undef, undef, undef, undef, undef, undef, undef, undef, undef, undef], []⟩ W') := fun v W' h1 h2 => hK' _ _ (hK v W' h1 h2)
          have e0 : x 0 = .pointer (some ⟨b, 2, none⟩) := hp.post 0 (hd 0 (show 0 ∈ [0] from by decide))
          have q0 := (HC.out W hp.bel).1
          clear hK hK' hp hd
          simp only [e0] at HK ⊢
          go_simp
          exact HK.out _ _ (Below.refl _ _) rfl
        · refine wpOp_step (o := _) rfl fun K' hK' => ?_
          have HK : Hid (∀ v W', Below W.heap.size W W' → ((Mk.const [] (.pointer (some ⟨w.heap.size, 2, none⟩)) : Mk)).P W.heap.size W'.heap.size W' v (upd x 2 v) → K' ⟨#[Value.agg #[Value.slice a1 xs.length c1, Value.slice a2 ys.length c2, Value.slice (some { block := g, off := off }) is.length c3, Value.slice a4 bs.length c4], Value.pointer (some { block := w.heap.size, off := 0 }), Value.pointer (some { block := w.heap.size + 1, off := 0 }), Value.pointer (some { block := b, off := 0 }), Value.int IntKind.i64 ↑j, undef, Value.pointer (some { block := w.heap.size, off := 0 }), Value.agg #[Value.slice a1 xs.length c1, Value.slice a2 ys.length c2], Value.agg #[Value.slice d1 xs.length f1, Value.slice d2 ys.length f2], Value.agg #[Value.slice d1 xs.length f1, Value.slice d2 ys.length f2, Value.slice none 0 0, Value.slice none 0 0], Value.int IntKind.i64 ↑j, Value.pointer (some { block := w.heap.size, off := 2 }), Value.slice (some { block := g, off := off }) is.length c3, Value.int IntKind.i64 ↑is.length, Value.bool true, u15, u16, x 0, x 1, v, x 3, x 4, x 5, x 6, x 7, x 8, u26, u27, undef, undef, undef, undef, undef, undef, undef, undef, undef, undef, undef, undef, undef, undef, undef, undef, undef, undef, undef], []⟩ W') := fun v W' h1 h2 => hK' _ _ (hK v W' h1 h2)
          clear hK hK' hp hd
          go_simp
          exact HK.out _ _ (Below.refl _ _) rfl
        · refine wpOp_step (o := _) rfl fun K' hK' => ?_
          have HK : Hid (∀ v W', Below W.heap.size W W' → ((Mk.const [2] (.slice (some ⟨g, off, none⟩) is.length c3) : Mk)).P W.heap.size W'.heap.size W' v (upd x 3 v) → K' ⟨#[Value.agg #[Value.slice a1 xs.length c1, Value.slice a2 ys.length c2, Value.slice (some { block := g, off := off }) is.length c3, Value.slice a4 bs.length c4], Value.pointer (some { block := w.heap.size, off := 0 }), Value.pointer (some { block := w.heap.size + 1, off := 0 }), Value.pointer (some { block := b, off := 0 }), Value.int IntKind.i64 ↑j, undef, Value.pointer (some { block := w.heap.size, off := 0 }), Value.agg #[Value.slice a1 xs.length c1, Value.slice a2 ys.length c2], Value.agg #[Value.slice d1 xs.length f1, Value.slice d2 ys.length f2], Value.agg #[Value.slice d1 xs.length f1, Value.slice d2 ys.length f2, Value.slice none 0 0, Value.slice none 0 0], Value.int IntKind.i64 ↑j, Value.pointer (some { block := w.heap.size, off := 2 }), Value.slice (some { block := g, off := off }) is.length c3, Value.int IntKind.i64 ↑is.length, Value.bool true, u15, u16, x 0, x 1, x 2, v, x 4, x 5, x 6, x 7, x 8, u26, u27, undef, undef, undef, undef, undef, undef, undef, undef, undef, undef, undef, undef, undef, undef, undef, undef, undef, undef, undef], []⟩ W') := fun v W' h1 h2 => hK' _ _ (hK v W' h1 h2)
          have e2 : x 2 = .pointer (some ⟨w.heap.size, 2, none⟩) := hp.post 2 (hd 2 (show 2 ∈ [2] from by decide))
          have q0 := (HC.out W hp.bel).2.1
          clear hK hK' hp hd
          simp only [e2] at HK ⊢
          go_simp
          exact HK.out _ _ (Below.refl _ _) rfl
        · refine wpOp_step (o := _) rfl fun K' hK' => ?_
          have HK : Hid (∀ v W', Below W.heap.size W W' → ((Mk.const [] (.int .i64 (j : Int)) : Mk)).P W.heap.size W'.heap.size W' v (upd x 4 v) → K' ⟨#[Value.agg #[Value.slice a1 xs.length c1, Value.slice a2 ys.length c2, Value.slice (some { block := g, off := off }) is.length c3, Value.slice a4 bs.length c4], Value.pointer (some { block := w.heap.size, off := 0 }), Value.pointer (some { block := w.heap.size + 1, off := 0 }), Value.pointer (some { block := b, off := 0 }), Value.int IntKind.i64 ↑j, undef, Value.pointer (some { block := w.heap.size, off := 0 }), Value.agg #[Value.slice a1 xs.length c1, Value.slice a2 ys.length c2], Value.agg #[Value.slice d1 xs.length f1, Value.slice d2 ys.length f2], Value.agg #[Value.slice d1 xs.length f1, Value.slice d2 ys.length f2, Value.slice none 0 0, Value.slice none 0 0], Value.int IntKind.i64 ↑j, Value.pointer (some { block := w.heap.size, off := 2 }), Value.slice (some { block := g, off := off }) is.length c3, Value.int IntKind.i64 ↑is.length, Value.bool true, u15, u16, x 0, x 1, x 2, x 3, v, x 5, x 6, x 7, x 8, u26, u27, undef, undef, undef, undef, undef, undef, undef, undef, undef, undef, undef, undef, undef, undef, undef, undef, undef, undef, undef], []⟩ W') := fun v W' h1 h2 => hK' _ _ (hK v W' h1 h2)
          clear hK hK' hp hd
          go_simp
          exact HK.out _ _ (Below.refl _ _) rfl
        · refine wpOp_step (o := _) rfl fun K' hK' => ?_
          have HK : Hid (∀ v W', Below W.heap.size W W' → ((Mk.const [3, 4] (.pointer (some ⟨g, off + j * 3, none⟩)) : Mk)).P W.heap.size W'.heap.size W' v (upd x 5 v) → K' ⟨#[Value.agg #[Value.slice a1 xs.length c1, Value.slice a2 ys.length c2, Value.slice (some { block := g, off := off }) is.length c3, Value.slice a4 bs.length c4], Value.pointer (some { block := w.heap.size, off := 0 }), Value.pointer (some { block := w.heap.size + 1, off := 0 }), Value.pointer (some { block := b, off := 0 }), Value.int IntKind.i64 ↑j, undef, Value.pointer (some { block := w.heap.size, off := 0 }), Value.agg #[Value.slice a1 xs.length c1, Value.slice a2 ys.length c2], Value.agg #[Value.slice d1 xs.length f1, Value.slice d2 ys.length f2], Value.agg #[Value.slice d1 xs.length f1, Value.slice d2 ys.length f2, Value.slice none 0 0, Value.slice none 0 0], Value.int IntKind.i64 ↑j, Value.pointer (some { block := w.heap.size, off := 2 }), Value.slice (some { block := g, off := off }) is.length c3, Value.int IntKind.i64 ↑is.length, Value.bool true, u15, u16, x 0, x 1, x 2, x 3, x 4, v, x 6, x 7, x 8, u26, u27, undef, undef, undef, undef, undef, undef, undef, undef, undef, undef, undef, undef, undef, undef, undef, undef, undef, undef, undef], []⟩ W') := fun v W' h1 h2 => hK' _ _ (hK v W' h1 h2)
          have e3 : x 3 = .slice (some ⟨g, off, none⟩) is.length c3 := hp.post 3 (hd 3 (show 3 ∈ [3, 4] from by decide))
          have e4 : x 4 = .int .i64 (j : Int) := hp.post 4 (hd 4 (show 4 ∈ [3, 4] from by decide))
          clear hK hK' hp hd
          simp only [e3, e4] at HK ⊢
          go_simp
          exact HK.out _ _ (Below.refl _ _) rfl
        · refine wpOp_step (o := _) rfl fun K' hK' => ?_
          have HK : Hid (∀ v W', Below W.heap.size W W' → ((Mk.const [5] (.agg #[.int .i64 y, .int .i64 s, .slice pa z.length pc]) : Mk)).P W.heap.size W'.heap.size W' v (upd x 6 v) → K' ⟨#[Value.agg #[Value.slice a1 xs.length c1, Value.slice a2 ys.length c2, Value.slice (some { block := g, off := off }) is.length c3, Value.slice a4 bs.length c4], Value.pointer (some { block := w.heap.size, off := 0 }), Value.pointer (some { block := w.heap.size + 1, off := 0 }), Value.pointer (some { block := b, off := 0 }), Value.int IntKind.i64 ↑j, undef, Value.pointer (some { block := w.heap.size, off := 0 }), Value.agg #[Value.slice a1 xs.length c1, Value.slice a2 ys.length c2], Value.agg #[Value.slice d1 xs.length f1, Value.slice d2 ys.length f2], Value.agg #[Value.slice d1 xs.length f1, Value.slice d2 ys.length f2, Value.slice none 0 0, Value.slice none 0 0], Value.int IntKind.i64 ↑j, Value.pointer (some { block := w.heap.size, off := 2 }), Value.slice (some { block := g, off := off }) is.length c3, Value.int IntKind.i64 ↑is.length, Value.bool true, u15, u16, x 0, x 1, x 2, x 3, x 4, x 5, v, x 7, x 8, u26, u27, undef, undef, undef, undef, undef, undef, undef, undef, undef, undef, undef, undef, undef, undef, undef, undef, undef, undef, undef], []⟩ W') := fun v W' h1 h2 => hK' _ _ (hK v W' h1 h2)
          have e5 : x 5 = .pointer (some ⟨g, off + j * 3, none⟩) := hp.post 5 (hd 5 (show 5 ∈ [5] from by decide))
          obtain ⟨-, -, q0, q1, q2, -⟩ := HC.out W hp.bel
          clear hK hK' hp hd
          simp only [e5] at HK ⊢
          go_simp
          exact HK.out _ _ (Below.refl _ _) rfl
        · refine wpOp_step (o := _) rfl fun K' hK' => ?_
          have HK : Hid (∀ v W', Below W.heap.size W W' → (MkI 6 y s z).P W.heap.size W'.heap.size W' v (upd x 7 v) → K' ⟨#[Value.agg #[Value.slice a1 xs.length c1, Value.slice a2 ys.length c2, Value.slice (some { block := g, off := off }) is.length c3, Value.slice a4 bs.length c4], Value.pointer (some { block := w.heap.size, off := 0 }), Value.pointer (some { block := w.heap.size + 1, off := 0 }), Value.pointer (some { block := b, off := 0 }), Value.int IntKind.i64 ↑j, undef, Value.pointer (some { block := w.heap.size, off := 0 }), Value.agg #[Value.slice a1 xs.length c1, Value.slice a2 ys.length c2], Value.agg #[Value.slice d1 xs.length f1, Value.slice d2 ys.length f2], Value.agg #[Value.slice d1 xs.length f1, Value.slice d2 ys.length f2, Value.slice none 0 0, Value.slice none 0 0], Value.int IntKind.i64 ↑j, Value.pointer (some { block := w.heap.size, off := 2 }), Value.slice (some { block := g, off := off }) is.length c3, Value.int IntKind.i64 ↑is.length, Value.bool true, u15, u16, x 0, x 1, x 2, x 3, x 4, x 5, x 6, v, x 8, u26, u27, undef, undef, undef, undef, undef, undef, undef, undef, undef, undef, undef, undef, undef, undef, undef, undef, undef, undef, undef], []⟩ W') := fun v W' h1 h2 => hK' _ _ (hK v W' h1 h2)
          have e6 : x 6 = .agg #[.int .i64 y, .int .i64 s, .slice pa z.length pc] := hp.post 6 (hd 6 (show 6 ∈ [6] from by decide))
          have bl := (HC.out W hp.bel).2.2.2.2.2
          clear hK hK' hp hd
          simp only [e6] at HK ⊢
          go_simp
          refine (copyI_any y s _ z W (HP.out W bl) HPL.out).mono ?_
          rintro e w6 ⟨p6, rfl, O6, B6⟩
          go_simp
          exact HK.out _ _ B6 ⟨p6, rfl, O6, fun i hi => (O6.lt i hi).2⟩
        · refine wpOp_step (o := _) rfl fun K' hK' => ?_
          have HK : Hid (∀ v W', Below W.heap.size W W' → (MkI1 7 y s).P W.heap.size W'.heap.size W' v (upd x 8 v) → K' ⟨#[Value.agg #[Value.slice a1 xs.length c1, Value.slice a2 ys.length c2, Value.slice (some { block := g, off := off }) is.length c3, Value.slice a4 bs.length c4], Value.pointer (some { block := w.heap.size, off := 0 }), Value.pointer (some { block := w.heap.size + 1, off := 0 }), Value.pointer (some { block := b, off := 0 }), Value.int IntKind.i64 ↑j, undef, Value.pointer (some { block := w.heap.size, off := 0 }), Value.agg #[Value.slice a1 xs.length c1, Value.slice a2 ys.length c2], Value.agg #[Value.slice d1 xs.length f1, Value.slice d2 ys.length f2], Value.agg #[Value.slice d1 xs.length f1, Value.slice d2 ys.length f2, Value.slice none 0 0, Value.slice none 0 0], Value.int IntKind.i64 ↑j, Value.pointer (some { block := w.heap.size, off := 2 }), Value.slice (some { block := g, off := off }) is.length c3, Value.int IntKind.i64 ↑is.length, Value.bool true, u15, u16, x 0, x 1, x 2, x 3, x 4, x 5, x 6, x 7, v, u26, u27, undef, undef, undef, undef, undef, undef, undef, undef, undef, undef, undef, undef, undef, undef, undef, undef, undef, undef, undef], []⟩ W') := fun v W' h1 h2 => hK' _ _ (hK v W' h1 h2)
          have e7 : ∃ u, x 7 = .agg #[.int .i64 y, .int .i64 s, u] ∧ ROwns W (iw 7).1 3 u (ic z) ∧ ∀ i, u.ownBlock = some i → i < (iw 7).2 := hp.post 7 (hd 7 (show 7 ∈ [7] from by decide))
          clear hK hK' hp hd
          obtain ⟨p7, e7, O7, -⟩ := e7
          obtain ⟨pb, pd, rfl⟩ := O7.rints.form
          clear O7
          have HE := hide e7
          simp only [e7] at HK ⊢
          clear e7
          go_simp
          exact HK.out _ _ ((Below.refl _ W).alloc (Nat.le_refl _) _) ⟨rfl, by simp, .slice pb z.length pd, by rw [upd_ne _ _ _ _ (by decide)]; exact HE.out, AtC.new W 105 _⟩
      · intro x iw W hp
        have e1 : x 1 = .slice gi ti.length ci := hp.post 1 (by decide)
        obtain ⟨p7, e7, O7, -⟩ := hp.post 7 (by decide)
        obtain ⟨e8, -, p8, f8, A8⟩ := hp.post 8 (by decide)
        rw [e7] at f8
        simp only [Value.agg.injEq, Array.mk.injEq, List.cons.injEq, and_true, true_and] at f8
        subst f8
        have l7 := (hp.lo 7 (by decide)).1
        have hbel := hp.bel
        have O9 : ROwns W wr.drew.heap.size 3 p7 (ic z) := O7.base_le l7
        obtain ⟨pb, pd, rfl⟩ := O9.rints.form
        have hT : TOwns W 105 (.slice gi ti.length ci) ti := HX.out.1.of_heap fun k hk => hbel.block k (HX.out.1.lt k hk)
        have HN : Hid (∀ v' w', TOwns w' 105 v' (ti ++ [(.int .i64 y, .int .i64 s, .slice pb z.length pd)]) → W.grownBy w' (Value.slice gi ti.length ci).ownBlock → (∀ k, v'.ownBlock = some k → (Value.slice gi ti.length ci).ownBlock = some k ∨ W.heap.size ≤ k) → (AtC w' b 41 #[.slice d1 xs.length f1, .slice d2 ys.length f2, .slice gi ti.length ci, .slice none 0 0]) ∧ Dz w (w'.setCell ⟨b, 2, none⟩ v') #[.slice a1 xs.length c1, .slice a2 ys.length c2, .slice (some ⟨g, off, none⟩) is.length c3, .slice a4 bs.length c4] b (.slice d1 xs.length f1) (.slice d2 ys.length f2) v' (.slice none 0 0) xs ys (is.take j ++ [(y, s, z)]) []) := fun v' w' h1 h2 h3 => HX.out.2.1 W w' v' _ (y, s, z) hbel ⟨rfl, rfl, O9.base_le (Nat.zero_le _)⟩ (fun k hk => (O9.lt k hk).1) h1 h2 h3
        have HTL : Hid (ti.length ≤ 1000000000000) := by have := HX.out.2.2; show ti.length ≤ _; omega
        have HA8 := hide A8
        have HT := hide hT
        generalize (iw 8).1 = g8 at *
        clear hT O9 O7 hp l7 hbel A8 HX HDS b0
        simp only [e1, e7, e8]
        refine wpList_step fun K' hK' => ?_
        refine step_append_three _ rfl (.tmp 18) (.tmp 25) 38 rfl 105 Tryz.u38 _ 40 Tryz.i105 rfl (by decide) (.slice gi ti.length ci) ti rfl HT.out g8 (.int .i64 y, .int .i64 s, .slice pb z.length pd) rfl ⟨HA8.out.cell 0, HA8.out.cell 1, HA8.out.cell 2⟩ ⟨rfl, rfl, rfl⟩ HTL.out ?_
        intro v9 w9 T9 G9 V9
        refine hK' _ _ ?_
        obtain ⟨e9, D9⟩ := HN.out v9 w9 T9 G9 V9
        obtain ⟨g9, c9, rfl, -⟩ := T9.form
        have e10 : (ti ++ [((.int .i64 y, .int .i64 s, .slice pb z.length pd) : V3)]).length = ti.length + 1 := by simp
        rw [e10] at D9 ⊢
        clear e10
        have z2 := e9.frozen 2
        have z3 : w9.cell? ⟨b, 2, none⟩ = some (.slice gi ti.length ci) := e9.cell 2
        have H9 := hide D9
        clear e9 D9 T9 G9 V9 HN HA8 HT HTL hK' K' e1 e7 e8
        go_wp2_with fail
        rw [List.filterMap_nil]
        go_wp2
        go_roundw
        case rel => exact ⟨j + 1, by omega, by go_num, _, by rw [← HTK.out]; exact H9.out⟩
        case measure => simp [intOf]; omega
    · have hj2 : j = is.length := by omega
      subst hj2
      rw [List.take_length] at hds
      obtain ⟨a5, c5, a6, c6, a7, c7, a8, c8, -, -, rfl, -⟩ := hds.dsk.dr.form
      have HD2 := hide hds
      have b0 : wr.cell? ⟨w.heap.size, 2, none⟩ = some (.slice a3 is.length c3) := hds.arg.cell 2
      clear hds HR
      go_wp2_with fail
      go_loopw [5] (fun i wr => ∃ j : Nat, j ≤ bs.length ∧ i = .int .i64 j ∧ Hid (∃ bv, Dz w wr #[.slice a1 xs.length c1, .slice a2 ys.length c2, .slice a3 is.length c3, .slice a4 bs.length c4] b (.slice d1 xs.length f1) (.slice d2 ys.length f2) (.slice a7 is.length c7) bv xs ys is (bs.take j))) (fun i _ => bs.length - (intOf i).toNat)
      case atStart => exact ⟨0, Nat.zero_le _, rfl, _, HD2.out⟩
      case round =>
        obtain ⟨j, hj, rfl, HR⟩ := hrel
        obtain ⟨bv, hds⟩ := HR.out
        by_cases hlt : j < bs.length
        · obtain ⟨ti, k1, k2, k3⟩ := hds.drew.appB
          obtain ⟨gi, ci, rfl, -⟩ := k1.form
          obtain ⟨ai, cai, ei, -, hci⟩ := H.out.k.blk
          obtain ⟨g, off, p, rfl, hg, m1, m2, m3, hp⟩ := hci j hlt
          simp only [Value.slice.injEq] at ei
          obtain ⟨rfl, -, rfl⟩ := ei
          have hpl := HG.out.s j hlt
          have htk : bs.take j ++ [bs[j]] = bs.take (j + 1) := List.take_append_getElem hlt
          obtain ⟨X, hX⟩ : ∃ X, bs[j] = X := ⟨_, rfl⟩
          obtain ⟨y, z, s⟩ := X
          rw [hX] at m1 m3 hp hpl htk
          simp only at m1 m3 hp
          obtain ⟨pa, pc, rfl⟩ := hp.form
          have hti : ti.length = j := by rw [k2, List.length_take]; omega
          have HX := hide (And.intro k1 (And.intro k3 hti))
          have HDS := hide hds
          have HP : Hid (∀ W, Below w.heap.size w W → RSl W (.slice pa z.length pc) z) := fun W b => hp.below b (Nat.le_refl _)
          have HPL := hide hpl
          have HTK := hide htk
          have HC : Hid (∀ W, Below wr.drew.heap.size wr.drew W → W.cell? ⟨b, 3, none⟩ = some (.slice gi ti.length ci) ∧ W.cell? ⟨w.heap.size, 3, none⟩ = some (.slice (some ⟨g, off, none⟩) bs.length c4) ∧ W.cell? ⟨g, off + j * 3, none⟩ = some (.bool y) ∧ W.cell? ⟨g, off + j * 3 + 1, none⟩ = some (.slice pa z.length pc) ∧ W.cell? ⟨g, off + j * 3 + 2, none⟩ = some (.string s) ∧ Below w.heap.size w W) := fun W b => by
            have hw := HDS.out.drew.below b
            exact ⟨hw.box.cell 3, hw.arg.cell 3, (hw.bel.cell (p := ⟨g, off + j * 3, none⟩) hg).trans m1, (hw.bel.cell (p := ⟨g, off + j * 3 + 1, none⟩) hg).trans m2, (hw.bel.cell (p := ⟨g, off + j * 3 + 2, none⟩) hg).trans m3, hw.bel⟩
          have b0 := HDS.out.arg.cell 3
          simp at b0
          have j0 : (0 : Int) ≤ (j : Int) := by omega
          have j1 : (j : Int) < (bs.length : Int) := by omega
          clear k1 k2 k3 hds HR hti m1 m2 m3 hp hpl htk hci hX hg
          go_wp2_with fail
          refine wp_region_frm (by kernel_rfl) [0, 1, 2, 3, 4, 5, 6, 7, 8] [9, 10, 11] (fun i => match i with | 0 => .const [] (.pointer (some ⟨b, 3, none⟩)) | 1 => .const [0] (.slice gi ti.length ci) | 2 => .const [] (.pointer (some ⟨w.heap.size, 3, none⟩)) | 3 => .const [2] (.slice (some ⟨g, off, none⟩) bs.length c4) | 4 => .const [] (.int .i64 (j : Int)) | 5 => .const [3, 4] (.pointer (some ⟨g, off + j * 3, none⟩)) | 6 => .const [5] (.agg #[.bool y, .slice pa z.length pc, .string s]) | 7 => MkK 6 y s z | 8 => MkK1 7 y s | _ => .triv) (fun x => ⟨#[Value.agg #[Value.slice a1 xs.length c1, Value.slice a2 ys.length c2, Value.slice a3 is.length c3, Value.slice (some { block := g, off := off }) bs.length c4], Value.pointer (some { block := w.heap.size, off := 0 }), Value.pointer (some { block := w.heap.size + 1, off := 0 }), Value.pointer (some { block := b, off := 0 }), Value.int IntKind.i64 ↑is.length, Value.int IntKind.i64 ↑j, Value.pointer (some { block := w.heap.size, off := 0 }), Value.agg #[Value.slice a1 xs.length c1, Value.slice a2 ys.length c2], Value.agg #[Value.slice d1 xs.length f1, Value.slice d2 ys.length f2], Value.agg #[Value.slice d1 xs.length f1, Value.slice d2 ys.length f2, Value.slice none 0 0, Value.slice none 0 0], Value.int IntKind.i64 ↑is.length, Value.pointer (some { block := w.heap.size, off := 2 }), Value.slice a3 is.length c3, Value.int IntKind.i64 ↑is.length, Value.bool false, u15, u16, u17, u18, u19, u20, u21, u22, u23, u24, u25, u26, u27, Value.int IntKind.i64 ↑j, Value.pointer (some { block := w.heap.size, off := 3 }), Value.slice (some { block := g, off := off }) bs.length c4, Value.int IntKind.i64 ↑bs.length, Value.bool true, u33, u34, x 0, x 1, x 2, x 3, x 4, x 5, x 6, x 7, x 8, u44, u45, undef], []⟩) (fun i => match i with | 0 => u35 | 1 => u36 | 2 => u37 | 3 => u38 | 4 => u39 | 5 => u40 | 6 => u41 | 7 => u42 | 8 => u43 | _ => undef) rfl (by kernel_rfl) (by kernel_rfl) (by kernel_rfl) rfl ?_ ?_
          · intro jo hj so x iw W hd hp K hK
            simp only [List.mem_cons, List.not_mem_nil, or_false] at hj
            rcases hj with rfl | rfl | rfl | rfl | rfl | rfl | rfl | rfl | rfl
            · refine wpOp_step (o := _) rfl fun K' hK' => ?_
              have HK : Hid (∀ v W', Below W.heap.size W W' → ((Mk.const [] (.pointer (some ⟨b, 3, none⟩)) : Mk)).P W.heap.size W'.heap.size W' v (upd x 0 v) → K' ⟨#[Value.agg #[Value.slice a1 xs.length c1, Value.slice a2 ys.length c2, Value.slice a3 is.length c3, Value.slice (some { block := g, off := off }) bs.length c4], Value.pointer (some { block := w.heap.size, off := 0 }), Value.pointer (some { block := w.heap.size + 1, off := 0 }), Value.pointer (some { block := b, off := 0 }), Value.int IntKind.i64 ↑is.length, Value.int IntKind.i64 ↑j, Value.pointer (some { block := w.heap.size, off := 0 }), Value.agg #[Value.slice a1 xs.length c1, Value.slice a2 ys.length c2], Value.agg #[Value.slice d1 xs.length f1, Value.slice d2 ys.length f2], Value.agg #[Value.slice d1 xs.length f1, Value.slice d2 ys.length f2, Value.slice none 0 0, Value.slice none 0 0], Value.int IntKind.i64 ↑is.length, Value.pointer (some { block := w.heap.size, off := 2 }), Value.slice a3 is.length c3, Value.int IntKind.i64 ↑is.length, Value.bool false, u15, u16, u17, u18, u19, u20, u21, u22, u23, u24, u25, u26, u27, Value.int IntKind.i64 ↑j, Value.pointer (some { block := w.heap.size, off := 3 }), Value.slice (some { block := g, off := off }) bs.length c4, Value.int IntKind.i64 ↑bs.length, Value.bool true, u33, u34, v, x 1, x 2, x 3, x 4, x 5, x 6, x 7, x 8, u44, u45, undef], []⟩ W') := fun v W' h1 h2 => hK' _ _ (hK v W' h1 h2)
              clear hK hK' hp hd
              go_simp
              exact HK.out _ _ (Below.refl _ _) rfl
            · refine wpOp_step (o := _) rfl fun K' hK' => ?_
              have HK : Hid (∀ v W', Below W.heap.size W W' → ((Mk.const [0] (.slice gi ti.length ci) : Mk)).P W.heap.size W'.heap.size W' v (upd x 1 v) → K' ⟨#[Value.agg #[Value.slice a1 xs.length c1, Value.slice a2 ys.length c2, Value.slice a3 is.length c3, Value.slice (some { block := g, off := off }) bs.length c4], Value.pointer (some { block := w.heap.size, off := 0 }), Value.pointer (some { block := w.heap.size + 1, off := 0 }), Value.pointer (some { block := b, off := 0 }), Value.int IntKind.i64 ↑is.length, Value.int IntKind.i64 ↑j, Value.pointer (some { block := w.heap.size, off := 0 }), Value.agg #[Value.slice a1 xs.length c1, Value.slice a2 ys.length c2], Value.agg #[Value.slice d1 xs.length f1, Value.slice d2 ys.length f2], Value.agg #[Value.slice d1 xs.length f1, Value.slice d2 ys.length f2, Value.slice none 0 0, Value.slice none 0 0], Value.int IntKind.i64 ↑is.length, Value.pointer (some { block := w.heap.size, off := 2 }), Value.slice a3 is.length c3, Value.int IntKind.i64 ↑is.length, Value.bool false, u15, u16, u17, u18, u19, u20, u21, u22, u23, u24, u25, u26, u27, Value.int IntKind.i64 ↑j, Value.pointer (some { block := w.heap.size, off := 3 }), Value.slice (some { block := g, off := off }) bs.length c4, Value.int IntKind.i64 ↑bs.length, Value.bool true, u33, u34, x 0, v, x 2, x 3, x 4, x 5, x 6, x 7, x 8, u44, u45, undef], []⟩ W') := fun v W' h1 h2 => hK' _ _ (hK v W' h1 h2)
              have e0 : x 0 = .pointer (some ⟨b, 3, none⟩) := hp.post 0 (hd 0 (show 0 ∈ [0] from by decide))
              have q0 := (HC.out W hp.bel).1
              clear hK hK' hp hd
              simp only [e0] at HK ⊢
              go_simp
              exact HK.out _ _ (Below.refl _ _) rfl
            · refine wpOp_step (o := _) rfl fun K' hK' => ?_
              have HK : Hid (∀ v W', Below W.heap.size W W' → ((Mk.const [] (.pointer (some ⟨w.heap.size, 3, none⟩)) : Mk)).P W.heap.size W'.heap.size W' v (upd x 2 v) → K' ⟨#[Value.agg #[Value.slice a1 xs.length c1, Value.slice a2 ys.length c2, Value.slice a3 is.length c3, Value.slice (some { block := g, off := off }) bs.length c4], Value.pointer (some { block := w.heap.size, off := 0 }), Value.pointer (some { block := w.heap.size + 1, off := 0 }), Value.pointer (some { block := b, off := 0 }), Value.int IntKind.i64 ↑is.length, Value.int IntKind.i64 ↑j, Value.pointer (some { block := w.heap.size, off := 0 }), Value.agg #[Value.slice a1 xs.length c1, Value.slice a2 ys.length c2], Value.agg #[Value.slice d1 xs.length f1, Value.slice d2 ys.length f2], Value.agg #[Value.slice d1 xs.length f1, Value.slice d2 ys.length f2, Value.slice none 0 0, Value.slice none 0 0], Value.int IntKind.i64 ↑is.length, Value.pointer (some { block := w.heap.size, off := 2 }), Value.slice a3 is.length c3, Value.int IntKind.i64 ↑is.length, Value.bool false, u15, u16, u17, u18, u19, u20, u21, u22, u23, u24, u25, u26, u27, Value.int IntKind.i64 ↑j, Value.pointer (some { block := w.heap.size, off := 3 }), Value.slice (some { block := g, off := off }) bs.length c4, Value.int IntKind.i64 ↑bs.length, Value.bool true, u33, u34, x 0, x 1, v, x 3, x 4, x 5, x 6, x 7, x 8, u44, u45, undef], []⟩ W') := fun v W' h1 h2 => hK' _ _ (hK v W' h1 h2)
              clear hK hK' hp hd
              go_simp
              exact HK.out _ _ (Below.refl _ _) rfl
            · refine wpOp_step (o := _) rfl fun K' hK' => ?_
              have HK : Hid (∀ v W', Below W.heap.size W W' → ((Mk.const [2] (.slice (some ⟨g, off, none⟩) bs.length c4) : Mk)).P W.heap.size W'.heap.size W' v (upd x 3 v) → K' ⟨#[Value.agg #[Value.slice a1 xs.length c1, Value.slice a2 ys.length c2, Value.slice a3 is.length c3, Value.slice (some { block := g, off := off }) bs.length c4], Value.pointer (some { block := w.heap.size, off := 0 }), Value.pointer (some { block := w.heap.size + 1, off := 0 }), Value.pointer (some { block := b, off := 0 }), Value.int IntKind.i64 ↑is.length, Value.int IntKind.i64 ↑j, Value.pointer (some { block := w.heap.size, off := 0 }), Value.agg #[Value.slice a1 xs.length c1, Value.slice a2 ys.length c2], Value.agg #[Value.slice d1 xs.length f1, Value.slice d2 ys.length f2], Value.agg #[Value.slice d1 xs.length f1, Value.slice d2 ys.length f2, Value.slice none 0 0, Value.slice none 0 0], Value.int IntKind.i64 ↑is.length, Value.pointer (some { block := w.heap.size, off := 2 }), Value.slice a3 is.length c3, Value.int IntKind.i64 ↑is.length, Value.bool false, u15, u16, u17, u18, u19, u20, u21, u22, u23, u24, u25, u26, u27, Value.int IntKind.i64 ↑j, Value.pointer (some { block := w.heap.size, off := 3 }), Value.slice (some { block := g, off := off }) bs.length c4, Value.int IntKind.i64 ↑bs.length, Value.bool true, u33, u34, x 0, x 1, x 2, v, x 4, x 5, x 6, x 7, x 8, u44, u45, undef], []⟩ W') := fun v W' h1 h2 => hK' _ _ (hK v W' h1 h2)
              have e2 : x 2 = .pointer (some ⟨w.heap.size, 3, none⟩) := hp.post 2 (hd 2 (show 2 ∈ [2] from by decide))
              have q0 := (HC.out W hp.bel).2.1
              clear hK hK' hp hd
              simp only [e2] at HK ⊢
              go_simp
              exact HK.out _ _ (Below.refl _ _) rfl
            · refine wpOp_step (o := _) rfl fun K' hK' => ?_
              have HK : Hid (∀ v W', Below W.heap.size W W' → ((Mk.const [] (.int .i64 (j : Int)) : Mk)).P W.heap.size W'.heap.size W' v (upd x 4 v) → K' ⟨#[Value.agg #[Value.slice a1 xs.length c1, Value.slice a2 ys.length c2, Value.slice a3 is.length c3, Value.slice (some { block := g, off := off }) bs.length c4], Value.pointer (some { block := w.heap.size, off := 0 }), Value.pointer (some { block := w.heap.size + 1, off := 0 }), Value.pointer (some { block := b, off := 0 }), Value.int IntKind.i64 ↑is.length, Value.int IntKind.i64 ↑j, Value.pointer (some { block := w.heap.size, off := 0 }), Value.agg #[Value.slice a1 xs.length c1, Value.slice a2 ys.length c2], Value.agg #[Value.slice d1 xs.length f1, Value.slice d2 ys.length f2], Value.agg #[Value.slice d1 xs.length f1, Value.slice d2 ys.length f2, Value.slice none 0 0, Value.slice none 0 0], Value.int IntKind.i64 ↑is.length, Value.pointer (some { block := w.heap.size, off := 2 }), Value.slice a3 is.length c3, Value.int IntKind.i64 ↑is.length, Value.bool false, u15, u16, u17, u18, u19, u20, u21, u22, u23, u24, u25, u26, u27, Value.int IntKind.i64 ↑j, Value.pointer (some { block := w.heap.size, off := 3 }), Value.slice (some { block := g, off := off }) bs.length c4, Value.int IntKind.i64 ↑bs.length, Value.bool true, u33, u34, x 0, x 1, x 2, x 3, v, x 5, x 6, x 7, x 8, u44, u45, undef], []⟩ W') := fun v W' h1 h2 => hK' _ _ (hK v W' h1 h2)
              clear hK hK' hp hd
              go_simp
              exact HK.out _ _ (Below.refl _ _) rfl
            · refine wpOp_step (o := _) rfl fun K' hK' => ?_
              have HK : Hid (∀ v W', Below W.heap.size W W' → ((Mk.const [3, 4] (.pointer (some ⟨g, off + j * 3, none⟩)) : Mk)).P W.heap.size W'.heap.size W' v (upd x 5 v) → K' ⟨#[Value.agg #[Value.slice a1 xs.length c1, Value.slice a2 ys.length c2, Value.slice a3 is.length c3, Value.slice (some { block := g, off := off }) bs.length c4], Value.pointer (some { block := w.heap.size, off := 0 }), Value.pointer (some { block := w.heap.size + 1, off := 0 }), Value.pointer (some { block := b, off := 0 }), Value.int IntKind.i64 ↑is.length, Value.int IntKind.i64 ↑j, Value.pointer (some { block := w.heap.size, off := 0 }), Value.agg #[Value.slice a1 xs.length c1, Value.slice a2 ys.length c2], Value.agg #[Value.slice d1 xs.length f1, Value.slice d2 ys.length f2], Value.agg #[Value.slice d1 xs.length f1, Value.slice d2 ys.length f2, Value.slice none 0 0, Value.slice none 0 0], Value.int IntKind.i64 ↑is.length, Value.pointer (some { block := w.heap.size, off := 2 }), Value.slice a3 is.length c3, Value.int IntKind.i64 ↑is.length, Value.bool false, u15, u16, u17, u18, u19, u20, u21, u22, u23, u24, u25, u26, u27, Value.int IntKind.i64 ↑j, Value.pointer (some { block := w.heap.size, off := 3 }), Value.slice (some { block := g, off := off }) bs.length c4, Value.int IntKind.i64 ↑bs.length, Value.bool true, u33, u34, x 0, x 1, x 2, x 3, x 4, v, x 6, x 7, x 8, u44, u45, undef], []⟩ W') := fun v W' h1 h2 => hK' _ _ (hK v W' h1 h2)
              have e3 : x 3 = .slice (some ⟨g, off, none⟩) bs.length c4 := hp.post 3 (hd 3 (show 3 ∈ [3, 4] from by decide))
              have e4 : x 4 = .int .i64 (j : Int) := hp.post 4 (hd 4 (show 4 ∈ [3, 4] from by decide))
              clear hK hK' hp hd
              simp only [e3, e4] at HK ⊢
              go_simp
              exact HK.out _ _ (Below.refl _ _) rfl
            · refine wpOp_step (o := _) rfl fun K' hK' => ?_
              have HK : Hid (∀ v W', Below W.heap.size W W' → ((Mk.const [5] (.agg #[.bool y, .slice pa z.length pc, .string s]) : Mk)).P W.heap.size W'.heap.size W' v (upd x 6 v) → K' ⟨#[Value.agg #[Value.slice a1 xs.length c1, Value.slice a2 ys.length c2, Value.slice a3 is.length c3, Value.slice (some { block := g, off := off }) bs.length c4], Value.pointer (some { block := w.heap.size, off := 0 }), Value.pointer (some { block := w.heap.size + 1, off := 0 }), Value.pointer (some { block := b, off := 0 }), Value.int IntKind.i64 ↑is.length, Value.int IntKind.i64 ↑j, Value.pointer (some { block := w.heap.size, off := 0 }), Value.agg #[Value.slice a1 xs.length c1, Value.slice a2 ys.length c2], Value.agg #[Value.slice d1 xs.length f1, Value.slice d2 ys.length f2], Value.agg #[Value.slice d1 xs.length f1, Value.slice d2 ys.length f2, Value.slice none 0 0, Value.slice none 0 0], Value.int IntKind.i64 ↑is.length, Value.pointer (some { block := w.heap.size, off := 2 }), Value.slice a3 is.length c3, Value.int IntKind.i64 ↑is.length, Value.bool false, u15, u16, u17, u18, u19, u20, u21, u22, u23, u24, u25, u26, u27, Value.int IntKind.i64 ↑j, Value.pointer (some { block := w.heap.size, off := 3 }), Value.slice (some { block := g, off := off }) bs.length c4, Value.int IntKind.i64 ↑bs.length, Value.bool true, u33, u34, x 0, x 1, x 2, x 3, x 4, x 5, v, x 7, x 8, u44, u45, undef], []⟩ W') := fun v W' h1 h2 => hK' _ _ (hK v W' h1 h2)
              have e5 : x 5 = .pointer (some ⟨g, off + j * 3, none⟩) := hp.post 5 (hd 5 (show 5 ∈ [5] from by decide))
              obtain ⟨-, -, q0, q1, q2, -⟩ := HC.out W hp.bel
              clear hK hK' hp hd
              simp only [e5] at HK ⊢
              go_simp
              exact HK.out _ _ (Below.refl _ _) rfl
            · refine wpOp_step (o := _) rfl fun K' hK' => ?_
              have HK : Hid (∀ v W', Below W.heap.size W W' → (MkK 6 y s z).P W.heap.size W'.heap.size W' v (upd x 7 v) → K' ⟨#[Value.agg #[Value.slice a1 xs.length c1, Value.slice a2 ys.length c2, Value.slice a3 is.length c3, Value.slice (some { block := g, off := off }) bs.length c4], Value.pointer (some { block := w.heap.size, off := 0 }), Value.pointer (some { block := w.heap.size + 1, off := 0 }), Value.pointer (some { block := b, off := 0 }), Value.int IntKind.i64 ↑is.length, Value.int IntKind.i64 ↑j, Value.pointer (some { block := w.heap.size, off := 0 }), Value.agg #[Value.slice a1 xs.length c1, Value.slice a2 ys.length c2], Value.agg #[Value.slice d1 xs.length f1, Value.slice d2 ys.length f2], Value.agg #[Value.slice d1 xs.length f1, Value.slice d2 ys.length f2, Value.slice none 0 0, Value.slice none 0 0], Value.int IntKind.i64 ↑is.length, Value.pointer (some { block := w.heap.size, off := 2 }), Value.slice a3 is.length c3, Value.int IntKind.i64 ↑is.length, Value.bool false, u15, u16, u17, u18, u19, u20, u21, u22, u23, u24, u25, u26, u27, Value.int IntKind.i64 ↑j, Value.pointer (some { block := w.heap.size, off := 3 }), Value.slice (some { block := g, off := off }) bs.length c4, Value.int IntKind.i64 ↑bs.length, Value.bool true, u33, u34, x 0, x 1, x 2, x 3, x 4, x 5, x 6, v, x 8, u44, u45, undef], []⟩ W') := fun v W' h1 h2 => hK' _ _ (hK v W' h1 h2)
              have e6 : x 6 = .agg #[.bool y, .slice pa z.length pc, .string s] := hp.post 6 (hd 6 (show 6 ∈ [6] from by decide))
              have bl := (HC.out W hp.bel).2.2.2.2.2
              clear hK hK' hp hd
              simp only [e6] at HK ⊢
              go_simp
              refine (copyK_any y s _ z W (HP.out W bl) HPL.out.1).mono ?_
              rintro e w6 ⟨p6, rfl, O6, B6⟩
              go_simp
              exact HK.out _ _ B6 ⟨p6, rfl, O6, fun i hi => (O6.lt i hi).2⟩
            · refine wpOp_step (o := _) rfl fun K' hK' => ?_
              have HK : Hid (∀ v W', Below W.heap.size W W' → (MkK1 7 y s).P W.heap.size W'.heap.size W' v (upd x 8 v) → K' ⟨#[Value.agg #[Value.slice a1 xs.length c1, Value.slice a2 ys.length c2, Value.slice a3 is.length c3, Value.slice (some { block := g, off := off }) bs.length c4], Value.pointer (some { block := w.heap.size, off := 0 }), Value.pointer (some { block := w.heap.size + 1, off := 0 }), Value.pointer (some { block := b, off := 0 }), Value.int IntKind.i64 ↑is.length, Value.int IntKind.i64 ↑j, Value.pointer (some { block := w.heap.size, off := 0 }), Value.agg #[Value.slice a1 xs.length c1, Value.slice a2 ys.length c2], Value.agg #[Value.slice d1 xs.length f1, Value.slice d2 ys.length f2], Value.agg #[Value.slice d1 xs.length f1, Value.slice d2 ys.length f2, Value.slice none 0 0, Value.slice none 0 0], Value.int IntKind.i64 ↑is.length, Value.pointer (some { block := w.heap.size, off := 2 }), Value.slice a3 is.length c3, Value.int IntKind.i64 ↑is.length, Value.bool false, u15, u16, u17, u18, u19, u20, u21, u22, u23, u24, u25, u26, u27, Value.int IntKind.i64 ↑j, Value.pointer (some { block := w.heap.size, off := 3 }), Value.slice (some { block := g, off := off }) bs.length c4, Value.int IntKind.i64 ↑bs.length, Value.bool true, u33, u34, x 0, x 1, x 2, x 3, x 4, x 5, x 6, x 7, v, u44, u45, undef], []⟩ W') := fun v W' h1 h2 => hK' _ _ (hK v W' h1 h2)
              have e7 : ∃ u, x 7 = .agg #[.bool y, u, .string s] ∧ SOwns W (iw 7).1 126 u z ∧ ∀ i, u.ownBlock = some i → i < (iw 7).2 := hp.post 7 (hd 7 (show 7 ∈ [7] from by decide))
              clear hK hK' hp hd
              obtain ⟨p7, e7, O7, -⟩ := e7
              obtain ⟨pb, pd, rfl⟩ := O7.rsl.form
              clear O7
              have HE := hide e7
              simp only [e7] at HK ⊢
              clear e7
              go_simp
              exact HK.out _ _ ((Below.refl _ W).alloc (Nat.le_refl _) _) ⟨rfl, by simp, .slice pb z.length pd, by rw [upd_ne _ _ _ _ (by decide)]; exact HE.out, AtC.new W 109 _⟩
          · intro x iw W hp
            have e1 : x 1 = .slice gi ti.length ci := hp.post 1 (by decide)
            obtain ⟨p7, e7, O7, -⟩ := hp.post 7 (by decide)
            obtain ⟨e8, -, p8, f8, A8⟩ := hp.post 8 (by decide)
            rw [e7] at f8
            simp only [Value.agg.injEq, Array.mk.injEq, List.cons.injEq, and_true, true_and] at f8
            subst f8
            have l7 := (hp.lo 7 (by decide)).1
            have hbel := hp.bel
            have O9 : SOwns W wr.drew.heap.size 126 p7 z := O7.base_le l7
            obtain ⟨pb, pd, rfl⟩ := O9.rsl.form
            have hT : TOwns W 109 (.slice gi ti.length ci) ti := HX.out.1.of_heap fun k hk => hbel.block k (HX.out.1.lt k hk)
            have HN : Hid (∀ v' w', TOwns w' 109 v' (ti ++ [(.bool y, .slice pb z.length pd, .string s)]) → W.grownBy w' (Value.slice gi ti.length ci).ownBlock → (∀ k, v'.ownBlock = some k → (Value.slice gi ti.length ci).ownBlock = some k ∨ W.heap.size ≤ k) → (AtC w' b 41 #[.slice d1 xs.length f1, .slice d2 ys.length f2, .slice a7 is.length c7, .slice gi ti.length ci]) ∧ Dz w (w'.setCell ⟨b, 3, none⟩ v') #[.slice a1 xs.length c1, .slice a2 ys.length c2, .slice a3 is.length c3, .slice (some ⟨g, off, none⟩) bs.length c4] b (.slice d1 xs.length f1) (.slice d2 ys.length f2) (.slice a7 is.length c7) v' xs ys is (bs.take j ++ [(y, z, s)])) := fun v' w' h1 h2 h3 => HX.out.2.1 W w' v' _ (y, z, s) hbel ⟨rfl, O9.base_le (Nat.zero_le _), rfl⟩ (fun k hk => (O9.lt k hk).1) h1 h2 h3
            have HTL : Hid (ti.length ≤ 1000000000000) := by have := HX.out.2.2; show ti.length ≤ _; omega
            have HA8 := hide A8
            have HT := hide hT
            generalize (iw 8).1 = g8 at *
            clear hT O9 O7 hp l7 hbel A8 HX HDS b0
            simp only [e1, e7, e8]
            refine wpList_step fun K' hK' => ?_
            refine step_append_three _ rfl (.tmp 36) (.tmp 43) 39 rfl 109 Tryz.u39 _ 48 Tryz.i109 rfl (by decide) (.slice gi ti.length ci) ti rfl HT.out g8 (.bool y, .slice pb z.length pd, .string s) rfl ⟨HA8.out.cell 0, HA8.out.cell 1, HA8.out.cell 2⟩ ⟨rfl, rfl, rfl⟩ HTL.out ?_
            intro v9 w9 T9 G9 V9
            refine hK' _ _ ?_
            obtain ⟨e9, D9⟩ := HN.out v9 w9 T9 G9 V9
            obtain ⟨g9, c9, rfl, -⟩ := T9.form
            have e10 : (ti ++ [((.bool y, .slice pb z.length pd, .string s) : V3)]).length = ti.length + 1 := by simp
            rw [e10] at D9 ⊢
            clear e10
            have z2 := e9.frozen 3
            have z3 : w9.cell? ⟨b, 3, none⟩ = some (.slice gi ti.length ci) := e9.cell 3
            have H9 := hide D9
            clear e9 D9 T9 G9 V9 HN HA8 HT HTL hK' K' e1 e7 e8
            go_wp2_with fail
            rw [List.filterMap_nil]
            go_wp2
            go_roundw
            case rel => exact ⟨j + 1, by omega, by go_num, _, by rw [← HTK.out]; exact H9.out⟩
            case measure => simp [intOf]; omega
        · have hj3 : j = bs.length := by omega
          subst hj3
          rw [List.take_length] at hds
          obtain ⟨-, -, -, -, -, -, p8, q8, -, -, -, rfl⟩ := hds.dsk.dr.form
          have H7 := hide hds
          have b0 : wr.cell? ⟨w.heap.size, 3, none⟩ = some (.slice a4 bs.length c4) := hds.arg.cell 3
          have y0 : wr.cell? ⟨b, 0, none⟩ = some (.slice d1 xs.length f1) := hds.box.cell 0
          have y1 : wr.cell? ⟨b, 1, none⟩ = some (.slice d2 ys.length f2) := hds.box.cell 1
          have y2 : wr.cell? ⟨b, 2, none⟩ = some (.slice a7 is.length c7) := hds.box.cell 2
          have y3 : wr.cell? ⟨b, 3, none⟩ = some (.slice p8 bs.length q8) := hds.box.cell 3
          have r0 : wr.cell? ⟨w.heap.size + 1, 0, none⟩ = some (.slice none 0 0) := hds.res.cell 0
          have r1 : wr.cell? ⟨w.heap.size + 1, 1, none⟩ = some (.slice none 0 0) := hds.res.cell 1
          have r2 : wr.cell? ⟨w.heap.size + 1, 2, none⟩ = some (.slice none 0 0) := hds.res.cell 2
          have r3 : wr.cell? ⟨w.heap.size + 1, 3, none⟩ = some (.slice none 0 0) := hds.res.cell 3
          have v0 := hds.res.frozen 0
          have v1 := hds.res.frozen 1
          have v2 := hds.res.frozen 2
          have v3 := hds.res.frozen 3
          clear hds HR
          go_wp2
          refine bodyPost_ret (v := .agg #[.slice d1 xs.length f1, .slice d2 ys.length f2, .slice a7 is.length c7, .slice p8 bs.length q8]) (by simp [results, go_sem, r0, r1, r2, r3]) rfl ⟨_, _, _, _, rfl, ?_, ?_⟩
          · exact (H7.out.dsk.of_heap fun k hk _ => ((((heap_setCell_other _ ⟨w.heap.size + 1, 3, none⟩ k _ (by show k ≠ w.heap.size + 1; omega)).trans (heap_setCell_other _ ⟨w.heap.size + 1, 2, none⟩ k _ (by show k ≠ w.heap.size + 1; omega))).trans (heap_setCell_other _ ⟨w.heap.size + 1, 1, none⟩ k _ (by show k ≠ w.heap.size + 1; omega))).trans (heap_setCell_other _ ⟨w.heap.size + 1, 0, none⟩ k _ (by show k ≠ w.heap.size + 1; omega)))).mono fun k hk => by omega
          · exact (((H7.out.bel.setCell (by simp) _).setCell (by simp) _).setCell (by simp) _).setCell (by simp) _
end Go.Proofs.YtaoachljojbnjaaGreat
/- Those that lean, while they are marked: what becomes of the list. No Go function is spoken of. -/
namespace Go.Proofs.YtaoachljojbnjaaGreat.Kit
open Go.RowKit
/-- Some cells from o on are stored. -/
def setCs (w : World) (g o : Nat) : List (Nat × Value) → World
  | [] => w
  | p :: r => setCs (w.setCell ⟨g, o + p.1, none⟩ p.2) g o r
def rowCs (t : Row) : List (Nat × Value) → Row
  | [] => t
  | p :: r => rowCs (t.set p.1 p.2) r
theorem setCs_other (g o : Nat) (ps : List (Nat × Value)) : ∀ (w : World) (k : Nat), k ≠ g → (setCs w g o ps).heap[k]? = w.heap[k]? := by
  induction ps with
  | nil => exact fun _ _ _ => rfl
  | cons p r ih => exact fun w k hk => (ih _ k hk).trans (heap_setCell_other w ⟨g, o + p.1, none⟩ k p.2 hk)
theorem setCs_size (g o : Nat) (ps : List (Nat × Value)) : ∀ (w : World), (setCs w g o ps).heap.size = w.heap.size := by
  induction ps with
  | nil => exact fun _ => rfl
  | cons p r ih => exact fun w => (ih _).trans (by simp)
theorem setCs_same (g o : Nat) (ps : List (Nat × Value)) : ∀ (w : World), (setCs w g o ps).os = w.os ∧ (setCs w g o ps).tape = w.tape ∧ (setCs w g o ps).output = w.output := by
  induction ps with
  | nil => exact fun _ => ⟨rfl, rfl, rfl⟩
  | cons p r ih => exact fun w => ih _
theorem setCs_chg (g o : Nat) (ps : List (Nat × Value)) {S : Nat → Prop} (hg : S g) (w : World) : Chg S w (setCs w g o ps) :=
  ⟨(setCs_same g o ps w).1, (setCs_same g o ps w).2.1, (setCs_same g o ps w).2.2, by rw [setCs_size]; exact Nat.le_refl _, fun k _ hn => setCs_other g o ps w k (fun e => hn (e ▸ hg))⟩
theorem rowCs_length (ps : List (Nat × Value)) : ∀ (t : Row), (rowCs t ps).length = t.length := by
  induction ps with
  | nil => exact fun _ => rfl
  | cons p r ih => exact fun t => (ih _).trans (by simp)
theorem NOwns.setCs {g cap : Nat} {e : TypeId} {n : Nat} (k : Nat) (ps : List (Nat × Value)) : ∀ (w : World) (l : List Row) (hk : k < l.length), (∀ p ∈ ps, p.1 < n) → NOwns w e n (.slice (some ⟨g, 0, none⟩) l.length cap) l →
    NOwns (setCs w g (k * n) ps) e n (.slice (some ⟨g, 0, none⟩) l.length cap) (l.set k (rowCs l[k] ps)) := by
  induction ps with
  | nil =>
    intro w l hk _ h
    simp only [rowCs, List.set_getElem_self]
    exact h
  | cons p r ih =>
    intro w l hk hp h
    have h1 := h.set k p.1 hk (hp p (by simp)) p.2
    have h2 : NOwns (w.setCell ⟨g, k * n + p.1, none⟩ p.2) e n (.slice (some ⟨g, 0, none⟩) (l.set k (l[k].set p.1 p.2)).length cap) (l.set k (l[k].set p.1 p.2)) := by rw [List.length_set]; exact h1
    have h3 := ih _ _ (by simpa using hk) (fun q hq => hp q (by simp [hq])) h2
    simp only [List.length_set, List.getElem_set_self, List.set_set] at h3
    exact h3
theorem NOwns.deps {w : World} {v : Value} {l : List Row} (h : NOwns w 48 11 v l) (k : Nat) (hk : k < l.length) {d : Dp} {p : Value} (hd : l[k] = d.row p) {g n cap : Nat} (hv : v = .slice (some ⟨g, 0, none⟩) n cap) : DCells w g (k * 11) d p ∧ ∀ j, w.frozen? ⟨g, j, none⟩ = false := by
  obtain ⟨g', cap', e, h1, h2, -⟩ := h.at k hk
  rw [hv] at e
  simp only [Value.slice.injEq, Option.some.injEq, Addr.mk.injEq] at e
  obtain ⟨⟨rfl, -⟩, -⟩ := e
  exact ⟨DCells.of fun i hi => by rw [h1 i hi, hd], h2⟩
/-- One that leans is marked: its first six cells, then (in a grown world) four more, then its list. -/
theorem GN.markD {w w2 : World} {S : Nat → Prop} {v : Value} {ts : List Row} {xs : List Dp} (h : GN KDep w S v ts xs) {g n cap : Nat} (hv : v = .slice (some ⟨g, 0, none⟩) n cap) (j : Nat) (hj : j < ts.length) {d : Dp} {p : Value} (hd : ts[j] = d.row p) (a0 a1 a2 a3 a4 a5 : Int)
    (hb : Below (setCs w g (j * 11) [(0, .int .i64 a0), (1, .int .i64 a1), (2, .int .i64 a2), (3, .int .i64 a3), (4, .int .i64 a4), (5, .int .i64 a5)]).heap.size (setCs w g (j * 11) [(0, .int .i64 a0), (1, .int .i64 a1), (2, .int .i64 a2), (3, .int .i64 a3), (4, .int .i64 a4), (5, .int .i64 a5)]) w2) :
    DCells w2 g (j * 11) ⟨a0, a1, a2, a3, a4, a5, d.nm, d.bt, d.ot, d.af, d.bl⟩ p ∧ (∀ i, w2.frozen? ⟨g, i, none⟩ = false) ∧
    ∀ (t : ByteArray) (b7 b8 : Bool) (a9 : Int) (l l' : List Int), ROwns w 0 3 p (ic l) →
      ROwns (setCs w2 g (j * 11) [(6, .string t), (7, .bool b7), (8, .bool b8), (9, .int .i64 a9)]) 0 3 p (ic l) ∧
      ∀ w4, ROwns w4 0 3 p (ic l') → (setCs w2 g (j * 11) [(6, .string t), (7, .bool b7), (8, .bool b8), (9, .int .i64 a9)]).grownBy w4 p.ownBlock →
        GN KDep w4 S v (ts.set j ((⟨a0, a1, a2, a3, a4, a5, t, b7, b8, a9, l'⟩ : Dp).row p)) (xs.set j ⟨a0, a1, a2, a3, a4, a5, t, b7, b8, a9, l'⟩) ∧ Chg S w w4 := by
  have hn : n = ts.length := h.len_of hv
  subst hn
  have hrow : NOwns w 48 11 (.slice (some ⟨g, 0, none⟩) ts.length cap) ts := by rw [← hv]; exact h.row
  have hgw : g < w.heap.size := hrow.lt g rfl
  have hSg : S g := h.so g (by rw [hv]; rfl)
  have hne : ∀ m, p.ownBlock = some m → m ≠ g := fun m hm e => h.out j hj m (by rw [hd]; exact hm) (by rw [hv, e]; rfl)
  have hpS : ∀ m, p.ownBlock = some m → S m := fun m hm => h.si j hj m (by rw [hd]; exact hm)
  have r1 := hrow.setCs j [(0, .int .i64 a0), (1, .int .i64 a1), (2, .int .i64 a2), (3, .int .i64 a3), (4, .int .i64 a4), (5, .int .i64 a5)] w ts hj (by simp)
  rw [hd] at r1
  have c1 : Chg S w (setCs w g (j * 11) [(0, .int .i64 a0), (1, .int .i64 a1), (2, .int .i64 a2), (3, .int .i64 a3), (4, .int .i64 a4), (5, .int .i64 a5)]) := setCs_chg g _ _ hSg w
  have o1 := fun k hk => setCs_other g (j * 11) [(0, .int .i64 a0), (1, .int .i64 a1), (2, .int .i64 a2), (3, .int .i64 a3), (4, .int .i64 a4), (5, .int .i64 a5)] w k hk
  have s1 := setCs_size g (j * 11) [(0, .int .i64 a0), (1, .int .i64 a1), (2, .int .i64 a2), (3, .int .i64 a3), (4, .int .i64 a4), (5, .int .i64 a5)] w
  generalize setCs w g (j * 11) [(0, .int .i64 a0), (1, .int .i64 a1), (2, .int .i64 a2), (3, .int .i64 a3), (4, .int .i64 a4), (5, .int .i64 a5)] = W1 at *
  have r2 : NOwns w2 48 11 (.slice (some ⟨g, 0, none⟩) ts.length cap) (ts.set j ((⟨a0, a1, a2, a3, a4, a5, d.nm, d.bt, d.ot, d.af, d.bl⟩ : Dp).row p)) := r1.of_heap fun k hk => hb.block k (r1.lt k hk)
  have hb2 := hb.size
  have q := r2.deps j (by simpa using hj) (d := ⟨a0, a1, a2, a3, a4, a5, d.nm, d.bt, d.ot, d.af, d.bl⟩) (p := p) (by rw [List.getElem_set_self]) rfl
  refine ⟨q.1, q.2, fun t b7 b8 a9 l l' hO => ?_⟩
  have hl2 : (ts.set j ((⟨a0, a1, a2, a3, a4, a5, d.nm, d.bt, d.ot, d.af, d.bl⟩ : Dp).row p)).length = ts.length := by simp
  have r3 := NOwns.setCs (g := g) (cap := cap) (e := 48) (n := 11) j [(6, .string t), (7, .bool b7), (8, .bool b8), (9, .int .i64 a9)] w2 (ts.set j ((⟨a0, a1, a2, a3, a4, a5, d.nm, d.bt, d.ot, d.af, d.bl⟩ : Dp).row p)) (by simpa using hj) (by simp) (by rw [hl2]; exact r2)
  simp only [List.length_set, List.getElem_set_self, List.set_set] at r3
  have c3 : Chg S w2 (setCs w2 g (j * 11) [(6, .string t), (7, .bool b7), (8, .bool b8), (9, .int .i64 a9)]) := setCs_chg g _ _ hSg w2
  have o3 := fun k hk => setCs_other g (j * 11) [(6, .string t), (7, .bool b7), (8, .bool b8), (9, .int .i64 a9)] w2 k hk
  have s3 := setCs_size g (j * 11) [(6, .string t), (7, .bool b7), (8, .bool b8), (9, .int .i64 a9)] w2
  generalize setCs w2 g (j * 11) [(6, .string t), (7, .bool b7), (8, .bool b8), (9, .int .i64 a9)] = W3 at *
  have hoth : ∀ k, k < w.heap.size → k ≠ g → W3.heap[k]? = w.heap[k]? := fun k hk hkg => ((o3 k hkg).trans (hb.block k (by omega))).trans (o1 k hkg)
  refine ⟨hO.of_heap fun m hm => hoth m (hO.lt m hm).2 (hne m hm), fun w4 hr hg => ⟨?_, ?_⟩⟩
  · have hs4 := hg.size
    have r4 : NOwns w4 48 11 v (ts.set j ((⟨a0, a1, a2, a3, a4, a5, t, b7, b8, a9, l'⟩ : Dp).row p)) := by
      rw [hv]
      have : NOwns w4 48 11 (.slice (some ⟨g, 0, none⟩) ts.length cap) (ts.set j (rowCs ((⟨a0, a1, a2, a3, a4, a5, d.nm, d.bt, d.ot, d.af, d.bl⟩ : Dp).row p) [(6, .string t), (7, .bool b7), (8, .bool b8), (9, .int .i64 a9)])) := r3.of_heap fun k hk => by
        have e : k = g := by simpa [Value.ownBlock] using hk.symm
        subst e
        exact hg.block k (by omega) (fun e => hne k e.symm rfl)
      exact this
    exact h.turn j hj _ _ r4 ⟨p, rfl, hr⟩ (fun k hk h1 h2 => (hg.block k (by omega) (fun e => h2 (by rw [hd]; exact e.symm))).trans (hoth k hk (fun e => h1 (by rw [hv, e]; rfl)))) (fun k hk => .inl (by rw [hd]; exact hk)) (fun k hk => hk) (fun k hk => hpS k hk)
  · exact ((c1.trans (Chg.of_below hb)).trans c3).trans (Chg.of_grown hg hpS)
end Go.Proofs.YtaoachljojbnjaaGreat.Kit
/- A copy of a memory: spec.l08Copy by its contract. -/
namespace Go.Proofs.YtaoachljojbnjaaGreat.Kit
open Go.RowKit
theorem lit0_one (w : World) (A : Obj) (e : TypeId) (m : Nat) : ((w.alloc A).alloc (.cells #[] e)).ownsRow (w.heap.size + 1) e m (.slice (some ⟨w.heap.size + 1, 0, none⟩) 0 0) 0 [] := by
  have := World.ownsRow_lit (base := w.heap.size + 1) (e := e) (size := m) (w.alloc A) #[] 0 (by simp) (Nat.zero_le _) (by simp)
  simpa using this
theorem cp_one {w w1 : World} {T e : TypeId} {m n : Nat} {cs : Array Value} {ds : List Value} {v' : Value} (R1 : w1.ownsRow (w.heap.size + 1) e m v' n ds)
    (R2 : ((w.alloc (.cells cs T)).alloc (.cells #[] e)).grownBy w1 (Value.slice (some ⟨w.heap.size + 1, 0, none⟩) 0 0).ownBlock) :
    ∃ a1 c1, v' = .slice a1 n c1 ∧ Below w.heap.size w w1 ∧ AtC w1 w.heap.size T cs := by
  obtain ⟨a1, c1, e1⟩ : ∃ a1 c1, v' = .slice a1 n c1 := by
    rcases R1.2 with ⟨h1, h0⟩ | ⟨g, cap, cur, h1, -⟩
    · exact ⟨none, 0, by rw [h1, h0]⟩
    · exact ⟨_, _, h1⟩
  exact ⟨a1, c1, e1, below_of_append (((Below.refl _ w).alloc (Nat.le_refl _) _).alloc (by simp) _) (by simp; omega) R2 (fun k hk => by simp [Value.ownBlock] at hk; omega), ((AtC.new w T cs).alloc _).grown R2 (by simp [Value.ownBlock])⟩
theorem AtC.at_ {w : World} {b : Nat} {T : TypeId} {cs : Array Value} (h : AtC w b T cs) (i : Nat) (u : Value) (hu : cs.toList[i]? = some u) : w.cell? ⟨b, i, none⟩ = some u := by
  rw [cell_of_row w b i cs T (0, 0) h]
  simpa using hu
end Go.Proofs.YtaoachljojbnjaaGreat.Kit
namespace Go.Proofs.YtaoachljojbnjaaGreat
open Go.RowKit Kit
theorem Tryz.u42 : Tryz.prog.underlying 42 = some (.slice 48) := by kernel_rfl
theorem Tryz.i48 : (Tryz.prog.info? 48).map (fun i => (i.zero, i.size, i.bytes)) = some (some (.agg #[.int .i64 0, .int .i64 0, .int .i64 0, .int .i64 0, .int .i64 0, .int .i64 0, .string ⟨#[]⟩, .bool false, .bool false, .int .i64 0, .slice none 0 0]), 11, 104) := by kernel_rfl
set_option maxRecDepth 100000 in
set_option maxHeartbeats 3200000 in
theorem copyM_any (u v iv bv dv pv : Value) (m : MD) (w : World) (h : MR w u v iv bv dv pv m) (hB : BigM 1048576 m) :
    Calls Tryz.prog 19 #[.agg #[u, v, iv, bv, dv, pv, .int .i64 m.nx]] w fun e w' => ∃ u' v' i' b' d' p', e = .returned (.agg #[u', v', i', b', d', p', .int .i64 m.nx]) ∧ MO w' (fun k => w.heap.size ≤ k) u' v' i' b' d' p' m ∧ Below w.heap.size w w' := by
  have H := hide h
  have HG := hide hB
  have hdl : m.ds.length ≤ 1048576 := hB.l
  have HX : Hid (m.fs.length ≤ 100000000000) := Nat.le_trans hB.f (by decide)
  obtain ⟨a1, c1, a2, c2, a3, c3, a4, c4, a5, c5, a6, c6, rfl, rfl, rfl, rfl, rfl, rfl⟩ := h.form
  clear h hB
  go_enter Tryz.func19, Tryz.ntmps19
  go_wp2_with fail
  have HC : Hid (∀ W, Below ((w.alloc (.cells #[.slice a1 m.xs.length c1, .slice a2 m.ys.length c2, .slice a3 m.is.length c3, .slice a4 m.bs.length c4, .slice a5 m.fs.length c5, .slice a6 m.ds.length c6, .int .i64 m.nx] 44)).alloc (.cells noM 44)).drew.heap.size ((w.alloc (.cells #[.slice a1 m.xs.length c1, .slice a2 m.ys.length c2, .slice a3 m.is.length c3, .slice a4 m.bs.length c4, .slice a5 m.fs.length c5, .slice a6 m.ds.length c6, .int .i64 m.nx] 44)).alloc (.cells noM 44)).drew W → AtC W w.heap.size 44 #[.slice a1 m.xs.length c1, .slice a2 m.ys.length c2, .slice a3 m.is.length c3, .slice a4 m.bs.length c4, .slice a5 m.fs.length c5, .slice a6 m.ds.length c6, .int .i64 m.nx] ∧ AtC W (w.heap.size + 1) 44 noM ∧ Below w.heap.size w W ∧ w.heap.size + 1 + 1 ≤ W.heap.size) := fun W b => by
    have b2 := of_drew b
    have k1 := (AtC.new (w.alloc (.cells #[.slice a1 m.xs.length c1, .slice a2 m.ys.length c2, .slice a3 m.is.length c3, .slice a4 m.bs.length c4, .slice a5 m.fs.length c5, .slice a6 m.ds.length c6, .int .i64 m.nx] 44)) 44 noM).over b2
    have sz := b2.size
    simp at k1 sz
    exact ⟨((AtC.new w 44 _).alloc _).over b2, k1, (((Below.refl _ w).alloc (Nat.le_refl _) _).alloc (by simp) _).trans (b2.mono (by simp; omega)), sz⟩
  refine wp_region_frm (by kernel_rfl) [0, 1, 2, 3, 4, 5, 6, 7, 8, 9, 10] [11] (fun i => match i with | 0 => .const [] (.pointer (some ⟨w.heap.size, 0, none⟩)) | 1 => .const [0] (.agg #[.slice a1 m.xs.length c1, .slice a2 m.ys.length c2, .slice a3 m.is.length c3, .slice a4 m.bs.length c4]) | 2 => MkD 1 m.xs m.ys m.is m.bs | 3 => MkE 4 | 4 => .const [] (.pointer (some ⟨w.heap.size, 4, none⟩)) | 5 => .const [4] (.slice a5 m.fs.length c5) | 6 => MkC 3 5 m.fs (w.heap.size + 1 + 1) | 7 => .const [] (.pointer (some ⟨w.heap.size, 6, none⟩)) | 8 => .const [7] (.int .i64 m.nx) | 9 => MkM3 2 6 8 m.xs.length m.ys.length m.is.length m.bs.length m.fs.length m.nx | 10 => MkW 44 noM | _ => .triv) (fun x => ⟨#[Value.agg #[Value.slice a1 m.xs.length c1, Value.slice a2 m.ys.length c2, Value.slice a3 m.is.length c3, Value.slice a4 m.bs.length c4, Value.slice a5 m.fs.length c5, Value.slice a6 m.ds.length c6, Value.int IntKind.i64 m.nx], Value.pointer (some { block := w.heap.size, off := 0 }), Value.pointer (some { block := w.heap.size + 1, off := 0 }), x 10, undef, undef, x 0, x 1, x 2, x 3, x 4, x 5, x 6, x 7, x 8, x 9, undef, undef, undef, undef, undef, undef, undef, undef, undef, undef, undef, undef, undef, undef, undef, undef, undef, undef, undef, undef, undef, undef, undef, undef], []⟩) (fun i => match i with | 0 => undef | 1 => undef | 2 => undef | 3 => undef | 4 => undef | 5 => undef | 6 => undef | 7 => undef | 8 => undef | 9 => undef | 10 => undef | _ => undef) rfl (by kernel_rfl) (by kernel_rfl) (by kernel_rfl) rfl ?_ ?_
  · intro jo hj so x iw W hd hp K hK
    simp only [List.mem_cons, List.not_mem_nil, or_false] at hj
    rcases hj with rfl | rfl | rfl | rfl | rfl | rfl | rfl | rfl | rfl | rfl | rfl
    · refine wpOp_step (o := _) rfl fun K' hK' => ?_
      have HK : Hid (∀ v W', Below W.heap.size W W' → ((Mk.const [] (.pointer (some ⟨w.heap.size, 0, none⟩)) : Mk)).P W.heap.size W'.heap.size W' v (upd x 0 v) → K' ⟨#[Value.agg #[Value.slice a1 m.xs.length c1, Value.slice a2 m.ys.length c2, Value.slice a3 m.is.length c3, Value.slice a4 m.bs.length c4, Value.slice a5 m.fs.length c5, Value.slice a6 m.ds.length c6, Value.int IntKind.i64 m.nx], Value.pointer (some { block := w.heap.size, off := 0 }), Value.pointer (some { block := w.heap.size + 1, off := 0 }), x 10, undef, undef, v, x 1, x 2, x 3, x 4, x 5, x 6, x 7, x 8, x 9, undef, undef, undef, undef, undef, undef, undef, undef, undef, undef, undef, undef, undef, undef, undef, undef, undef, undef, undef, undef, undef, undef, undef, undef], []⟩ W') := fun v W' h1 h2 => hK' _ _ (hK v W' h1 h2)
      clear hK hK' hp hd
      go_simp
      exact HK.out _ _ (Below.refl _ _) rfl
    · refine wpOp_step (o := _) rfl fun K' hK' => ?_
      have HK : Hid (∀ v W', Below W.heap.size W W' → ((Mk.const [0] (.agg #[.slice a1 m.xs.length c1, .slice a2 m.ys.length c2, .slice a3 m.is.length c3, .slice a4 m.bs.length c4]) : Mk)).P W.heap.size W'.heap.size W' v (upd x 1 v) → K' ⟨#[Value.agg #[Value.slice a1 m.xs.length c1, Value.slice a2 m.ys.length c2, Value.slice a3 m.is.length c3, Value.slice a4 m.bs.length c4, Value.slice a5 m.fs.length c5, Value.slice a6 m.ds.length c6, Value.int IntKind.i64 m.nx], Value.pointer (some { block := w.heap.size, off := 0 }), Value.pointer (some { block := w.heap.size + 1, off := 0 }), x 10, undef, undef, x 0, v, x 2, x 3, x 4, x 5, x 6, x 7, x 8, x 9, undef, undef, undef, undef, undef, undef, undef, undef, undef, undef, undef, undef, undef, undef, undef, undef, undef, undef, undef, undef, undef, undef, undef, undef], []⟩ W') := fun v W' h1 h2 => hK' _ _ (hK v W' h1 h2)
      have e0 : x 0 = .pointer (some ⟨w.heap.size, 0, none⟩) := hp.post 0 (hd 0 (show 0 ∈ [0] from by decide))
      have k0 := (HC.out W hp.bel).1
      have q0 : W.cell? ⟨w.heap.size, 0, none⟩ = some (.slice a1 m.xs.length c1) := k0.cell 0
      have q1 : W.cell? ⟨w.heap.size, 1, none⟩ = some (.slice a2 m.ys.length c2) := k0.cell 1
      have q2 : W.cell? ⟨w.heap.size, 2, none⟩ = some (.slice a3 m.is.length c3) := k0.cell 2
      have q3 : W.cell? ⟨w.heap.size, 3, none⟩ = some (.slice a4 m.bs.length c4) := k0.cell 3
      clear k0
      clear hK hK' hp hd
      simp only [e0] at HK ⊢
      go_simp
      exact HK.out _ _ (Below.refl _ _) rfl
    · refine wpOp_step (o := _) rfl fun K' hK' => ?_
      have HK : Hid (∀ v W', Below W.heap.size W W' → (MkD 1 m.xs m.ys m.is m.bs).P W.heap.size W'.heap.size W' v (upd x 2 v) → K' ⟨#[Value.agg #[Value.slice a1 m.xs.length c1, Value.slice a2 m.ys.length c2, Value.slice a3 m.is.length c3, Value.slice a4 m.bs.length c4, Value.slice a5 m.fs.length c5, Value.slice a6 m.ds.length c6, Value.int IntKind.i64 m.nx], Value.pointer (some { block := w.heap.size, off := 0 }), Value.pointer (some { block := w.heap.size + 1, off := 0 }), x 10, undef, undef, x 0, x 1, v, x 3, x 4, x 5, x 6, x 7, x 8, x 9, undef, undef, undef, undef, undef, undef, undef, undef, undef, undef, undef, undef, undef, undef, undef, undef, undef, undef, undef, undef, undef, undef, undef, undef], []⟩ W') := fun v W' h1 h2 => hK' _ _ (hK v W' h1 h2)
      have e1 : x 1 = .agg #[.slice a1 m.xs.length c1, .slice a2 m.ys.length c2, .slice a3 m.is.length c3, .slice a4 m.bs.length c4] := hp.post 1 (hd 1 (show 1 ∈ [1] from by decide))
      have bl := (HC.out W hp.bel).2.2.1
      clear hK hK' hp hd
      simp only [e1] at HK ⊢
      go_simp
      refine (specCopy_any _ _ _ _ m.xs m.ys m.is m.bs W (H.out.d.below bl (Nat.le_refl _)) HG.out.d).mono ?_
      rintro e w6 ⟨p1, p2, p3, p4, rfl, O6, B6⟩
      obtain ⟨b1, d1, b2, d2, b3, d3, b4, d4, rfl, rfl, rfl, rfl⟩ := O6.dr.form
      go_simp
      exact HK.out _ _ B6 ⟨b1, d1, b2, d2, b3, d3, b4, d4, rfl, O6.bound⟩
    · refine wpOp_step (o := _) rfl fun K' hK' => ?_
      have HK : Hid (∀ v W', Below W.heap.size W W' → (MkE 4).P W.heap.size W'.heap.size W' v (upd x 3 v) → K' ⟨#[Value.agg #[Value.slice a1 m.xs.length c1, Value.slice a2 m.ys.length c2, Value.slice a3 m.is.length c3, Value.slice a4 m.bs.length c4, Value.slice a5 m.fs.length c5, Value.slice a6 m.ds.length c6, Value.int IntKind.i64 m.nx], Value.pointer (some { block := w.heap.size, off := 0 }), Value.pointer (some { block := w.heap.size + 1, off := 0 }), x 10, undef, undef, x 0, x 1, x 2, v, x 4, x 5, x 6, x 7, x 8, x 9, undef, undef, undef, undef, undef, undef, undef, undef, undef, undef, undef, undef, undef, undef, undef, undef, undef, undef, undef, undef, undef, undef, undef, undef], []⟩ W') := fun v W' h1 h2 => hK' _ _ (hK v W' h1 h2)
      clear hK hK' hp hd
      go_simp
      exact HK.out _ _ ((Below.refl _ W).alloc (Nat.le_refl _) _) ⟨rfl, by simp, AtC.new W 4 _⟩
    · refine wpOp_step (o := _) rfl fun K' hK' => ?_
      have HK : Hid (∀ v W', Below W.heap.size W W' → ((Mk.const [] (.pointer (some ⟨w.heap.size, 4, none⟩)) : Mk)).P W.heap.size W'.heap.size W' v (upd x 4 v) → K' ⟨#[Value.agg #[Value.slice a1 m.xs.length c1, Value.slice a2 m.ys.length c2, Value.slice a3 m.is.length c3, Value.slice a4 m.bs.length c4, Value.slice a5 m.fs.length c5, Value.slice a6 m.ds.length c6, Value.int IntKind.i64 m.nx], Value.pointer (some { block := w.heap.size, off := 0 }), Value.pointer (some { block := w.heap.size + 1, off := 0 }), x 10, undef, undef, x 0, x 1, x 2, x 3, v, x 5, x 6, x 7, x 8, x 9, undef, undef, undef, undef, undef, undef, undef, undef, undef, undef, undef, undef, undef, undef, undef, undef, undef, undef, undef, undef, undef, undef, undef, undef], []⟩ W') := fun v W' h1 h2 => hK' _ _ (hK v W' h1 h2)
      clear hK hK' hp hd
      go_simp
      exact HK.out _ _ (Below.refl _ _) rfl
    · refine wpOp_step (o := _) rfl fun K' hK' => ?_
      have HK : Hid (∀ v W', Below W.heap.size W W' → ((Mk.const [4] (.slice a5 m.fs.length c5) : Mk)).P W.heap.size W'.heap.size W' v (upd x 5 v) → K' ⟨#[Value.agg #[Value.slice a1 m.xs.length c1, Value.slice a2 m.ys.length c2, Value.slice a3 m.is.length c3, Value.slice a4 m.bs.length c4, Value.slice a5 m.fs.length c5, Value.slice a6 m.ds.length c6, Value.int IntKind.i64 m.nx], Value.pointer (some { block := w.heap.size, off := 0 }), Value.pointer (some { block := w.heap.size + 1, off := 0 }), x 10, undef, undef, x 0, x 1, x 2, x 3, x 4, v, x 6, x 7, x 8, x 9, undef, undef, undef, undef, undef, undef, undef, undef, undef, undef, undef, undef, undef, undef, undef, undef, undef, undef, undef, undef, undef, undef, undef, undef], []⟩ W') := fun v W' h1 h2 => hK' _ _ (hK v W' h1 h2)
      have e4 : x 4 = .pointer (some ⟨w.heap.size, 4, none⟩) := hp.post 4 (hd 4 (show 4 ∈ [4] from by decide))
      have q0 : W.cell? ⟨w.heap.size, 4, none⟩ = some (.slice a5 m.fs.length c5) := (HC.out W hp.bel).1.cell 4
      clear hK hK' hp hd
      simp only [e4] at HK ⊢
      go_simp
      exact HK.out _ _ (Below.refl _ _) rfl
    · refine wpOp_step (o := _) rfl fun K' hK' => ?_
      have HK : Hid (∀ v W', Below W.heap.size W W' → (MkC 3 5 m.fs (w.heap.size + 1 + 1)).P W.heap.size W'.heap.size W' v (upd x 6 v) → K' ⟨#[Value.agg #[Value.slice a1 m.xs.length c1, Value.slice a2 m.ys.length c2, Value.slice a3 m.is.length c3, Value.slice a4 m.bs.length c4, Value.slice a5 m.fs.length c5, Value.slice a6 m.ds.length c6, Value.int IntKind.i64 m.nx], Value.pointer (some { block := w.heap.size, off := 0 }), Value.pointer (some { block := w.heap.size + 1, off := 0 }), x 10, undef, undef, x 0, x 1, x 2, x 3, x 4, x 5, v, x 7, x 8, x 9, undef, undef, undef, undef, undef, undef, undef, undef, undef, undef, undef, undef, undef, undef, undef, undef, undef, undef, undef, undef, undef, undef, undef, undef], []⟩ W') := fun v W' h1 h2 => hK' _ _ (hK v W' h1 h2)
      have e3 : x 3 = .slice (some ⟨(iw 3).1, 0, none⟩) 0 0 ∧ (iw 3).2 = (iw 3).1 + 1 ∧ AtC W (iw 3).1 4 #[] := hp.post 3 (hd 3 (show 3 ∈ [3, 5] from by decide))
      have e5 : x 5 = .slice a5 m.fs.length c5 := hp.post 5 (hd 5 (show 5 ∈ [3, 5] from by decide))
      have bl := HC.out W hp.bel
      have l0 := (hp.lo 3 (hd 3 (show 3 ∈ [3, 5] from by decide))).1
      simp [World.drew] at l0
      clear hK hK' hp hd
      obtain ⟨f0, -, A0⟩ := e3
      refine step_append_copy0 W rfl (.tmp 9) (.tmp 11) 22 rfl (w.heap.size + 1 + 1) 4 Tryz.underlying22 _ 1 1 Tryz.i4 rfl (by decide) (by decide) (some ⟨(iw 3).1, 0, none⟩) (by exact f0) (A0.empty _ (by omega) 1) bl.2.2.2 (.slice a5 m.fs.length c5) (by exact e5) m.fs.length (fc m.fs) (H.out.f.below bl.2.2.1 (Nat.le_refl _)).rc (by rw [fc_length, Nat.mul_one]) (fc_one m.fs) HX.out ?_
      intro v' w' R1 R2 R3
      have O1 : ROwns w' (w.heap.size + 1 + 1) 4 v' (fc m.fs) := by unfold ROwns; rw [fc_length]; exact R1
      obtain ⟨a8, c8, e8⟩ := O1.rfl.form
      exact HK.out v' w' R2 ⟨a8, c8, e8, O1, fun i hi => R3.elim (fun e => .inr (by rw [upd_ne _ _ _ _ (by decide), f0]; rw [hi] at e; exact e.symm)) (fun e => .inl ⟨by rw [hi] at e; cases e; exact Nat.le_refl _, (O1.lt i hi).2⟩)⟩
    · refine wpOp_step (o := _) rfl fun K' hK' => ?_
      have HK : Hid (∀ v W', Below W.heap.size W W' → ((Mk.const [] (.pointer (some ⟨w.heap.size, 6, none⟩)) : Mk)).P W.heap.size W'.heap.size W' v (upd x 7 v) → K' ⟨#[Value.agg #[Value.slice a1 m.xs.length c1, Value.slice a2 m.ys.length c2, Value.slice a3 m.is.length c3, Value.slice a4 m.bs.length c4, Value.slice a5 m.fs.length c5, Value.slice a6 m.ds.length c6, Value.int IntKind.i64 m.nx], Value.pointer (some { block := w.heap.size, off := 0 }), Value.pointer (some { block := w.heap.size + 1, off := 0 }), x 10, undef, undef, x 0, x 1, x 2, x 3, x 4, x 5, x 6, v, x 8, x 9, undef, undef, undef, undef, undef, undef, undef, undef, undef, undef, undef, undef, undef, undef, undef, undef, undef, undef, undef, undef, undef, undef, undef, undef], []⟩ W') := fun v W' h1 h2 => hK' _ _ (hK v W' h1 h2)
      clear hK hK' hp hd
      go_simp
      exact HK.out _ _ (Below.refl _ _) rfl
    · refine wpOp_step (o := _) rfl fun K' hK' => ?_
      have HK : Hid (∀ v W', Below W.heap.size W W' → ((Mk.const [7] (.int .i64 m.nx) : Mk)).P W.heap.size W'.heap.size W' v (upd x 8 v) → K' ⟨#[Value.agg #[Value.slice a1 m.xs.length c1, Value.slice a2 m.ys.length c2, Value.slice a3 m.is.length c3, Value.slice a4 m.bs.length c4, Value.slice a5 m.fs.length c5, Value.slice a6 m.ds.length c6, Value.int IntKind.i64 m.nx], Value.pointer (some { block := w.heap.size, off := 0 }), Value.pointer (some { block := w.heap.size + 1, off := 0 }), x 10, undef, undef, x 0, x 1, x 2, x 3, x 4, x 5, x 6, x 7, v, x 9, undef, undef, undef, undef, undef, undef, undef, undef, undef, undef, undef, undef, undef, undef, undef, undef, undef, undef, undef, undef, undef, undef, undef, undef], []⟩ W') := fun v W' h1 h2 => hK' _ _ (hK v W' h1 h2)
      have e7 : x 7 = .pointer (some ⟨w.heap.size, 6, none⟩) := hp.post 7 (hd 7 (show 7 ∈ [7] from by decide))
      have q0 : W.cell? ⟨w.heap.size, 6, none⟩ = some (.int .i64 m.nx) := (HC.out W hp.bel).1.cell 6
      clear hK hK' hp hd
      simp only [e7] at HK ⊢
      go_simp
      exact HK.out _ _ (Below.refl _ _) rfl
    · refine wpOp_step (o := _) rfl fun K' hK' => ?_
      have HK : Hid (∀ v W', Below W.heap.size W W' → (MkM3 2 6 8 m.xs.length m.ys.length m.is.length m.bs.length m.fs.length m.nx).P W.heap.size W'.heap.size W' v (upd x 9 v) → K' ⟨#[Value.agg #[Value.slice a1 m.xs.length c1, Value.slice a2 m.ys.length c2, Value.slice a3 m.is.length c3, Value.slice a4 m.bs.length c4, Value.slice a5 m.fs.length c5, Value.slice a6 m.ds.length c6, Value.int IntKind.i64 m.nx], Value.pointer (some { block := w.heap.size, off := 0 }), Value.pointer (some { block := w.heap.size + 1, off := 0 }), x 10, undef, undef, x 0, x 1, x 2, x 3, x 4, x 5, x 6, x 7, x 8, v, undef, undef, undef, undef, undef, undef, undef, undef, undef, undef, undef, undef, undef, undef, undef, undef, undef, undef, undef, undef, undef, undef, undef, undef], []⟩ W') := fun v W' h1 h2 => hK' _ _ (hK v W' h1 h2)
      have e2 : ∃ a1 c1 a2 c2 a3 c3 a4 c4, x 2 = .agg #[.slice a1 m.xs.length c1, .slice a2 m.ys.length c2, .slice a3 m.is.length c3, .slice a4 m.bs.length c4] ∧ DO W (fun q => (iw 2).1 ≤ q ∧ q < (iw 2).2) (.slice a1 m.xs.length c1) (.slice a2 m.ys.length c2) (.slice a3 m.is.length c3) (.slice a4 m.bs.length c4) m.xs m.ys m.is m.bs := hp.post 2 (hd 2 (show 2 ∈ [2, 6, 8] from by decide))
      have e6 : ∃ a c, x 6 = .slice a m.fs.length c ∧ ROwns W (w.heap.size + 1 + 1) 4 (x 6) (fc m.fs) ∧ ∀ i, (x 6).ownBlock = some i → ((iw 6).1 ≤ i ∧ i < (iw 6).2) ∨ (x 3).ownBlock = some i := hp.post 6 (hd 6 (show 6 ∈ [2, 6, 8] from by decide))
      have e8 : x 8 = .int .i64 m.nx := hp.post 8 (hd 8 (show 8 ∈ [2, 6, 8] from by decide))
      clear hK hK' hp hd
      obtain ⟨b1, d1, b2, d2, b3, d3, b4, d4, e2, -⟩ := e2
      obtain ⟨b5, d5, e6, -⟩ := e6
      have HE := hide (And.intro e2 e6)
      simp only [e2, e6, e8] at HK ⊢
      clear e2 e6 e8
      go_simp
      exact HK.out _ _ (Below.refl _ _) ⟨b1, d1, b2, d2, b3, d3, b4, d4, b5, d5, by rw [upd_ne _ _ _ _ (by decide)]; exact HE.out.1, by rw [upd_ne _ _ _ _ (by decide)]; exact HE.out.2, rfl⟩
    · refine wpOp_step (o := _) rfl fun K' hK' => ?_
      have HK : Hid (∀ v W', Below W.heap.size W W' → (MkW 44 noM).P W.heap.size W'.heap.size W' v (upd x 10 v) → K' ⟨#[Value.agg #[Value.slice a1 m.xs.length c1, Value.slice a2 m.ys.length c2, Value.slice a3 m.is.length c3, Value.slice a4 m.bs.length c4, Value.slice a5 m.fs.length c5, Value.slice a6 m.ds.length c6, Value.int IntKind.i64 m.nx], Value.pointer (some { block := w.heap.size, off := 0 }), Value.pointer (some { block := w.heap.size + 1, off := 0 }), v, undef, undef, x 0, x 1, x 2, x 3, x 4, x 5, x 6, x 7, x 8, x 9, undef, undef, undef, undef, undef, undef, undef, undef, undef, undef, undef, undef, undef, undef, undef, undef, undef, undef, undef, undef, undef, undef, undef, undef], []⟩ W') := fun v W' h1 h2 => hK' _ _ (hK v W' h1 h2)
      clear hK hK' hp hd
      go_simp
      exact HK.out _ _ ((Below.refl _ W).alloc (Nat.le_refl _) _) ⟨rfl, by simp, AtC.new W 44 _⟩
  · intro x iw W hp
    obtain ⟨b1, d1, b2, d2, b3, d3, b4, d4, e2, O2⟩ := hp.post 2 (by decide)
    obtain ⟨f3, z3, -⟩ := hp.post 3 (by decide)
    obtain ⟨b5, d5, e6, O6, own6⟩ := hp.post 6 (by decide)
    have e8 : x 8 = .int .i64 m.nx := hp.post 8 (by decide)
    obtain ⟨g1, h1, g2, h2, g3, h3, g4, h4, g5, h5, k2, k6, e9⟩ := hp.post 9 (by decide)
    obtain ⟨e10, z10, A10⟩ := hp.post 10 (by decide)
    rw [e2] at k2
    rw [e6] at k6
    simp only [Value.agg.injEq, Array.mk.injEq, List.cons.injEq, Value.slice.injEq, true_and, and_true] at k2 k6
    obtain ⟨⟨rfl, rfl⟩, ⟨rfl, rfl⟩, ⟨rfl, rfl⟩, rfl, rfl⟩ := k2
    obtain ⟨rfl, rfl⟩ := k6
    have p210 := hp.apart 2 (by decide) 10 (by decide) (by decide)
    have p26 := hp.apart 2 (by decide) 6 (by decide) (by decide)
    have p23 := hp.apart 2 (by decide) 3 (by decide) (by decide)
    have p610 := hp.apart 6 (by decide) 10 (by decide) (by decide)
    have p310 := hp.apart 3 (by decide) 10 (by decide) (by decide)
    have l2 := hp.lo 2 (by decide)
    have l3 := hp.lo 3 (by decide)
    have l6 := hp.lo 6 (by decide)
    have l10 := hp.lo 10 (by decide)
    simp [World.drew] at l2 l3 l6 l10
    obtain ⟨kA, kR, bel, -⟩ := HC.out W hp.bel
    rw [e6, f3] at own6
    rw [e6] at O6
    have hsep : ∀ k, (Value.slice b5 m.fs.length d5).ownBlock = some k → (k < (iw 2).1 ∨ (iw 2).2 ≤ k) ∧ k ≠ (iw 10).1 := fun k hk => by
      have q := own6 k hk
      simp only [Value.ownBlock, Option.some.injEq] at q
      omega
    have D0 := mz_stored (m := { m with ds := [] }) kA kR A10 O2 O6 hsep (by omega) (by omega) bel (by omega) rfl
    have y0 : W.cell? ⟨(iw 10).1, 0, none⟩ = some (.slice none 0 0) := A10.cell 0
    have y1 : W.cell? ⟨(iw 10).1, 1, none⟩ = some (.slice none 0 0) := A10.cell 1
    have y2 : W.cell? ⟨(iw 10).1, 2, none⟩ = some (.slice none 0 0) := A10.cell 2
    have y3 : W.cell? ⟨(iw 10).1, 3, none⟩ = some (.slice none 0 0) := A10.cell 3
    have y4 : W.cell? ⟨(iw 10).1, 4, none⟩ = some (.slice none 0 0) := A10.cell 4
    have y5 : W.cell? ⟨(iw 10).1, 5, none⟩ = some (.slice none 0 0) := A10.cell 5
    have y6 : W.cell? ⟨(iw 10).1, 6, none⟩ = some (.int .i64 0) := A10.cell 6
    have z0 := A10.frozen 0
    have z1 := A10.frozen 1
    have z2 := A10.frozen 2
    have z3' := A10.frozen 3
    have z4 := A10.frozen 4
    have z5 := A10.frozen 5
    have z6 := A10.frozen 6
    generalize (iw 10).1 = b at *
    have HD := hide D0
    clear hp own6 O6 O2 hsep kA kR bel z10 z3 p210 p26 p23 p610 p310 l2 l3 l6 l10 D0 A10 HC HX f3
    simp only [e2, e6, e8, e9, e10]
    clear e2 e6 e8 e9 e10
    go_wp2_with fail
    obtain ⟨W1, hW1⟩ : ∃ W1, (((((((W.setCell ⟨b, 0, none⟩ (.slice b1 m.xs.length d1)).setCell ⟨b, 1, none⟩ (.slice b2 m.ys.length d2)).setCell ⟨b, 2, none⟩ (.slice b3 m.is.length d3)).setCell ⟨b, 3, none⟩ (.slice b4 m.bs.length d4)).setCell ⟨b, 4, none⟩ (.slice b5 m.fs.length d5)).setCell ⟨b, 5, none⟩ (.slice none 0 0)).setCell ⟨b, 6, none⟩ (.int .i64 m.nx)) = W1 := ⟨_, rfl⟩
    rw [hW1] at HD ⊢
    clear y0 y1 y2 y3 y4 y5 y6 z0 z1 z2 z3' z4 z5 z6 hW1
    go_loopw [4] (fun i wr => ∃ j : Nat, j ≤ m.ds.length ∧ i = .int .i64 j ∧ Hid (∃ pv, Mz w wr #[.slice a1 m.xs.length c1, .slice a2 m.ys.length c2, .slice a3 m.is.length c3, .slice a4 m.bs.length c4, .slice a5 m.fs.length c5, .slice a6 m.ds.length c6, .int .i64 m.nx] b (.slice b1 m.xs.length d1) (.slice b2 m.ys.length d2) (.slice b3 m.is.length d3) (.slice b4 m.bs.length d4) (.slice b5 m.fs.length d5) pv { m with ds := m.ds.take j })) (fun i _ => m.ds.length - (intOf i).toNat)
    case atStart => exact ⟨0, Nat.zero_le _, rfl, _, HD.out⟩
    case round =>
      obtain ⟨j, hj, rfl, HR⟩ := hrel
      obtain ⟨pv, hds⟩ := HR.out
      by_cases hlt : j < m.ds.length
      · obtain ⟨ts, k1, k2, k3⟩ := hds.app
        obtain ⟨gi, ci, rfl, -⟩ := k1.form
        obtain ⟨ai, cai, ei, -, hci⟩ := H.out.p.dep
        obtain ⟨g, off, p, rfl, hg, mm, hp⟩ := hci j hlt
        simp only [Value.slice.injEq, true_and] at ei
        obtain ⟨rfl, rfl⟩ := ei
        have hpl := HG.out.b j hlt
        have htk : m.ds.take j ++ [m.ds[j]] = m.ds.take (j + 1) := List.take_append_getElem hlt
        obtain ⟨X, hX⟩ : ∃ X, m.ds[j] = X := ⟨_, rfl⟩
        rw [hX] at mm hp hpl htk
        obtain ⟨id, kd, io, pt, bk, sl, nm, bt, ot, af, bl⟩ := X
        simp only at hp hpl
        obtain ⟨pa, pc, rfl⟩ := hp.form
        have hti : ts.length = j := by
          rw [k2]
          show (m.ds.take j).length = j
          rw [List.length_take]
          omega
        have nn := mm.below hds.bel hg
        simp only [DCells] at nn
        obtain ⟨n0, n1, n2, n3, n4, n5, n6, n7, n8, n9, n10⟩ := nn
        have HPR : Hid (RInts ((wr.alloc (.cells #[.int .i64 id, .int .i64 kd, .int .i64 io, .int .i64 pt, .int .i64 bk, .int .i64 sl, .string nm, .bool bt, .bool ot, .int .i64 af, .slice pa bl.length pc] 48)).alloc (.cells #[] 3)) (.slice pa bl.length pc) bl) := ((hp.below hds.bel (Nat.le_refl _)).alloc _).alloc _
        have HPL : Hid (bl.length ≤ 100000000000) := Nat.le_trans hpl (by decide)
        have HXX := hide (And.intro k1 (And.intro k3 hti))
        have HDS := hide hds
        have HTK := hide htk
        have xb5 : wr.cell? ⟨w.heap.size, 5, none⟩ = some (.slice (some ⟨g, off, none⟩) m.ds.length c6) := hds.arg.cell 5
        have j0 : (0 : Int) ≤ (j : Int) := by omega
        have j1 : (j : Int) < (m.ds.length : Int) := by omega
        clear k1 k2 k3 hds HR hti mm hp hpl htk hci hX hg
        have HSTEP : Hid (∀ (v9 : Value) (w9 : World), w9.ownsRow (wr.heap.size + 1) 3 1 v9 bl.length (ic bl) → ((wr.alloc (.cells #[.int .i64 id, .int .i64 kd, .int .i64 io, .int .i64 pt, .int .i64 bk, .int .i64 sl, .string nm, .bool bt, .bool ot, .int .i64 af, .slice pa bl.length pc] 48)).alloc (.cells #[] 3)).grownBy w9 (Value.slice (some ⟨wr.heap.size + 1, 0, none⟩) 0 0).ownBlock → ∃ pb pd W10, v9 = .slice pb bl.length pd ∧ w9.setCell ⟨wr.heap.size, 10, none⟩ (.slice pb bl.length pd) = W10 ∧ AtC w9 wr.heap.size 48 #[.int .i64 id, .int .i64 kd, .int .i64 io, .int .i64 pt, .int .i64 bk, .int .i64 sl, .string nm, .bool bt, .bool ot, .int .i64 af, .slice pa bl.length pc] ∧ AtC W10 wr.heap.size 48 #[.int .i64 id, .int .i64 kd, .int .i64 io, .int .i64 pt, .int .i64 bk, .int .i64 sl, .string nm, .bool bt, .bool ot, .int .i64 af, .slice pb bl.length pd] ∧ W10.cell? ⟨b, 5, none⟩ = some (.slice gi ts.length ci) ∧ AtC (W10.alloc (.cells #[.int .i64 id, .int .i64 kd, .int .i64 io, .int .i64 pt, .int .i64 bk, .int .i64 sl, .string nm, .bool bt, .bool ot, .int .i64 af, .slice pb bl.length pd] 48)) W10.heap.size 48 #[.int .i64 id, .int .i64 kd, .int .i64 io, .int .i64 pt, .int .i64 bk, .int .i64 sl, .string nm, .bool bt, .bool ot, .int .i64 af, .slice pb bl.length pd] ∧ NOwns (W10.alloc (.cells #[.int .i64 id, .int .i64 kd, .int .i64 io, .int .i64 pt, .int .i64 bk, .int .i64 sl, .string nm, .bool bt, .bool ot, .int .i64 af, .slice pb bl.length pd] 48)) 48 11 (.slice gi ts.length ci) ts ∧ ∀ v' w', NOwns w' 48 11 v' (ts ++ [(⟨id, kd, io, pt, bk, sl, nm, bt, ot, af, bl⟩ : Dp).row (.slice pb bl.length pd)]) → (W10.alloc (.cells #[.int .i64 id, .int .i64 kd, .int .i64 io, .int .i64 pt, .int .i64 bk, .int .i64 sl, .string nm, .bool bt, .bool ot, .int .i64 af, .slice pb bl.length pd] 48)).grownBy w' (Value.slice gi ts.length ci).ownBlock → (∀ k, v'.ownBlock = some k → (Value.slice gi ts.length ci).ownBlock = some k ∨ (W10.alloc (.cells #[.int .i64 id, .int .i64 kd, .int .i64 io, .int .i64 pt, .int .i64 bk, .int .i64 sl, .string nm, .bool bt, .bool ot, .int .i64 af, .slice pb bl.length pd] 48)).heap.size ≤ k) → AtC w' b 44 #[.slice b1 m.xs.length d1, .slice b2 m.ys.length d2, .slice b3 m.is.length d3, .slice b4 m.bs.length d4, .slice b5 m.fs.length d5, .slice gi ts.length ci, .int .i64 m.nx] ∧ Mz w (w'.setCell ⟨b, 5, none⟩ v') #[.slice a1 m.xs.length c1, .slice a2 m.ys.length c2, .slice a3 m.is.length c3, .slice a4 m.bs.length c4, .slice a5 m.fs.length c5, .slice (some ⟨g, off, none⟩) m.ds.length c6, .int .i64 m.nx] b (.slice b1 m.xs.length d1) (.slice b2 m.ys.length d2) (.slice b3 m.is.length d3) (.slice b4 m.bs.length d4) (.slice b5 m.fs.length d5) v' { m with ds := m.ds.take (j + 1) }) := fun v9 w9 R1 R2 => by
          obtain ⟨pb, pd, rfl, B9, K9⟩ := cp_one R1 R2
          have O9 : ROwns w9 (wr.heap.size + 1) 3 (.slice pb bl.length pd) (ic bl) := by unfold ROwns; rw [ic_length]; exact R1
          have hbl := HDS.out.box.lt
          have hs9 := B9.size
          have hk9 := K9.lt
          have bW : Below wr.heap.size wr ((w9.setCell ⟨wr.heap.size, 10, none⟩ (.slice pb bl.length pd)).alloc (.cells #[.int .i64 id, .int .i64 kd, .int .i64 io, .int .i64 pt, .int .i64 bk, .int .i64 sl, .string nm, .bool bt, .bool ot, .int .i64 af, .slice pb bl.length pd] 48)) := (B9.setCell (Nat.le_refl _) _).alloc (by simp; omega) _
          have K10 : AtC (w9.setCell ⟨wr.heap.size, 10, none⟩ (.slice pb bl.length pd)) wr.heap.size 48 #[.int .i64 id, .int .i64 kd, .int .i64 io, .int .i64 pt, .int .i64 bk, .int .i64 sl, .string nm, .bool bt, .bool ot, .int .i64 af, .slice pb bl.length pd] := K9.set 10 (.slice pb bl.length pd)
          have O10 : ROwns ((w9.setCell ⟨wr.heap.size, 10, none⟩ (.slice pb bl.length pd)).alloc (.cells #[.int .i64 id, .int .i64 kd, .int .i64 io, .int .i64 pt, .int .i64 bk, .int .i64 sl, .string nm, .bool bt, .bool ot, .int .i64 af, .slice pb bl.length pd] 48)) (wr.heap.size + 1) 3 (.slice pb bl.length pd) (ic bl) := (O9.setCell_other (by omega) _).alloc _
          refine ⟨pb, pd, _, rfl, rfl, K9, K10, ((HDS.out.below B9).box.other (by omega) _).cell 5, AtC.new _ 48 _, HXX.out.1.of_heap fun k hk => bW.block k (HXX.out.1.lt k hk), fun v' w' h1 h2 h3 => ?_⟩
          have := HXX.out.2.1 _ w' v' _ ⟨id, kd, io, pt, bk, sl, nm, bt, ot, af, bl⟩ bW ⟨_, rfl, O10.base_le (Nat.zero_le _)⟩ (fun k hk => by have := (O10.lt k hk).1; omega) h1 h2 h3
          rw [show ({ m with ds := m.ds.take j } : MD).ds ++ [(⟨id, kd, io, pt, bk, sl, nm, bt, ot, af, bl⟩ : Dp)] = m.ds.take (j + 1) from HTK.out] at this
          exact this
        have HTL : Hid (ts.length ≤ 100000000000) := by have := HXX.out.2.2; show ts.length ≤ _; omega
        clear HXX HDS
        go_wp2_with (first | (at_builtin; refine wpList_append_copy _ rfl _ _ 32 rfl (wr.heap.size + 1) 3 Tryz.underlying32 _ 1 8 Tryz.i3 rfl (by decide) (by decide) (.slice (some ⟨wr.heap.size + 1, 0, none⟩) 0 0) rfl (lit0_one wr _ 3 1) (by simp) _ rfl bl.length (ic bl) HPR.out.rc (by rw [ic_length, Nat.mul_one]) (ic_one bl) HPL.out ?_; intro v9 w9 R1 R2 R3; obtain ⟨pb, pd, W10, rfl, hW10, K9, K10, cb5, K11, T11, S11⟩ := HSTEP.out v9 w9 R1 R2; have y10 : w9.cell? ⟨wr.heap.size, 10, none⟩ = some (.slice pa bl.length pc) := K9.cell 10; have yf := K9.frozen 10; have kc0 : W10.cell? ⟨wr.heap.size, 0, none⟩ = some (.int .i64 id) := K10.cell 0; have kc1 : W10.cell? ⟨wr.heap.size, 1, none⟩ = some (.int .i64 kd) := K10.cell 1; have kc2 : W10.cell? ⟨wr.heap.size, 2, none⟩ = some (.int .i64 io) := K10.cell 2; have kc3 : W10.cell? ⟨wr.heap.size, 3, none⟩ = some (.int .i64 pt) := K10.cell 3; have kc4 : W10.cell? ⟨wr.heap.size, 4, none⟩ = some (.int .i64 bk) := K10.cell 4; have kc5 : W10.cell? ⟨wr.heap.size, 5, none⟩ = some (.int .i64 sl) := K10.cell 5; have kc6 : W10.cell? ⟨wr.heap.size, 6, none⟩ = some (.string nm) := K10.cell 6; have kc7 : W10.cell? ⟨wr.heap.size, 7, none⟩ = some (.bool bt) := K10.cell 7; have kc8 : W10.cell? ⟨wr.heap.size, 8, none⟩ = some (.bool ot) := K10.cell 8; have kc9 : W10.cell? ⟨wr.heap.size, 9, none⟩ = some (.int .i64 af) := K10.cell 9; have kc10 : W10.cell? ⟨wr.heap.size, 10, none⟩ = some (.slice pb bl.length pd) := K10.cell 10; have HK11 := hide K11; have HT11 := hide T11; have HS11 := hide S11; clear R1 R2 R3 K9 K10 K11 T11 S11) | (at_builtin; refine wpList_step fun K' hK' => ?_; refine step_append_n _ rfl (.tmp 34) (.tmp 36) 42 rfl 48 Tryz.u42 _ 11 104 Tryz.i48 rfl (by decide) (by decide) (.slice gi ts.length ci) ts rfl HT11.out W10.heap.size ((⟨id, kd, io, pt, bk, sl, nm, bt, ot, af, bl⟩ : Dp).row (.slice pb bl.length pd)) rfl rfl (fun i u hu => (HK11.out.at_ i u hu)) (by simp [Dp.row, Value.oneCell']) HTL.out ?_; intro v12 w12 T12 G12 V12; refine hK' _ _ ?_; obtain ⟨e12, D12⟩ := HS11.out v12 w12 T12 G12 V12; obtain ⟨g12, c12, rfl, -⟩ := T12.form; rw [show (ts ++ [(⟨id, kd, io, pt, bk, sl, nm, bt, ot, af, bl⟩ : Dp).row (.slice pb bl.length pd)]).length = ts.length + 1 from List.length_append] at D12 ⊢; have z2 := e12.frozen 5; have z3 : w12.cell? ⟨b, 5, none⟩ = some (.slice gi ts.length ci) := e12.cell 5; have H12 := hide D12; clear e12 D12 T12 G12 V12 hK'))
        go_roundw
        case rel => exact ⟨j + 1, by omega, by go_num, _, H12.out⟩
        case measure => simp [intOf]; omega
      · have hj2 : j = m.ds.length := by omega
        subst hj2
        rw [List.take_length] at hds
        obtain ⟨g6, l6, e6⟩ := hds.own.mr.p.form
        simp only at e6
        subst e6
        have H7 := hide hds
        have xb5 : wr.cell? ⟨w.heap.size, 5, none⟩ = some (.slice a6 m.ds.length c6) := hds.arg.cell 5
        have y0 : wr.cell? ⟨b, 0, none⟩ = some (.slice b1 m.xs.length d1) := hds.box.cell 0
        have y1 : wr.cell? ⟨b, 1, none⟩ = some (.slice b2 m.ys.length d2) := hds.box.cell 1
        have y2 : wr.cell? ⟨b, 2, none⟩ = some (.slice b3 m.is.length d3) := hds.box.cell 2
        have y3 : wr.cell? ⟨b, 3, none⟩ = some (.slice b4 m.bs.length d4) := hds.box.cell 3
        have y4 : wr.cell? ⟨b, 4, none⟩ = some (.slice b5 m.fs.length d5) := hds.box.cell 4
        have y5 : wr.cell? ⟨b, 5, none⟩ = some (.slice g6 m.ds.length l6) := hds.box.cell 5
        have y6 : wr.cell? ⟨b, 6, none⟩ = some (.int .i64 m.nx) := hds.box.cell 6
        have r0 : wr.cell? ⟨w.heap.size + 1, 0, none⟩ = some (.slice none 0 0) := hds.res.cell 0
        have v0 := hds.res.frozen 0
        have r1 : wr.cell? ⟨w.heap.size + 1, 1, none⟩ = some (.slice none 0 0) := hds.res.cell 1
        have v1 := hds.res.frozen 1
        have r2 : wr.cell? ⟨w.heap.size + 1, 2, none⟩ = some (.slice none 0 0) := hds.res.cell 2
        have v2 := hds.res.frozen 2
        have r3 : wr.cell? ⟨w.heap.size + 1, 3, none⟩ = some (.slice none 0 0) := hds.res.cell 3
        have v3 := hds.res.frozen 3
        have r4 : wr.cell? ⟨w.heap.size + 1, 4, none⟩ = some (.slice none 0 0) := hds.res.cell 4
        have v4 := hds.res.frozen 4
        have r5 : wr.cell? ⟨w.heap.size + 1, 5, none⟩ = some (.slice none 0 0) := hds.res.cell 5
        have v5 := hds.res.frozen 5
        have r6 : wr.cell? ⟨w.heap.size + 1, 6, none⟩ = some (.int .i64 0) := hds.res.cell 6
        have v6 := hds.res.frozen 6
        clear hds HR
        go_wp2
        refine bodyPost_ret (v := .agg #[.slice b1 m.xs.length d1, .slice b2 m.ys.length d2, .slice b3 m.is.length d3, .slice b4 m.bs.length d4, .slice b5 m.fs.length d5, .slice g6 m.ds.length l6, .int .i64 m.nx]) (by simp [results, go_sem, r0, r1, r2, r3, r4, r5, r6]) rfl ⟨_, _, _, _, _, _, rfl, ?_, ?_⟩
        · exact (H7.out.own.of_heap fun k hk _ => ((((((heap_setCell_other _ ⟨w.heap.size + 1, 6, none⟩ k _ (by show k ≠ w.heap.size + 1; omega)).trans (heap_setCell_other _ ⟨w.heap.size + 1, 5, none⟩ k _ (by show k ≠ w.heap.size + 1; omega))).trans (heap_setCell_other _ ⟨w.heap.size + 1, 4, none⟩ k _ (by show k ≠ w.heap.size + 1; omega))).trans (heap_setCell_other _ ⟨w.heap.size + 1, 3, none⟩ k _ (by show k ≠ w.heap.size + 1; omega))).trans (heap_setCell_other _ ⟨w.heap.size + 1, 2, none⟩ k _ (by show k ≠ w.heap.size + 1; omega))).trans (heap_setCell_other _ ⟨w.heap.size + 1, 1, none⟩ k _ (by show k ≠ w.heap.size + 1; omega))).trans (heap_setCell_other _ ⟨w.heap.size + 1, 0, none⟩ k _ (by show k ≠ w.heap.size + 1; omega))).mono fun k hk => by omega
        · exact (((((((H7.out.bel).setCell (by simp) _).setCell (by simp) _).setCell (by simp) _).setCell (by simp) _).setCell (by simp) _).setCell (by simp) _).setCell (by simp) _
end Go.Proofs.YtaoachljojbnjaaGreat
/- One that leans is appended to a memory's list, where its own list was made ahead. No Go function is spoken of. -/
namespace Go.Proofs.YtaoachljojbnjaaGreat.Kit
open Go.RowKit
theorem GN.appendX {α : Type} {K : Kn α} {w w2 : World} {S : Nat → Prop} {v v' : Value} {ts : List Row} {xs : List α} {t' : Row} {x' : α} (h : GN K w S v ts xs) (hO : K.O w t' x') (hn : ∀ k, (K.p t').ownBlock = some k → ¬ S k)
    (hr : NOwns w2 K.T K.n v' (ts ++ [t'])) (hg : w.grownBy w2 v.ownBlock) (hv : ∀ k, v'.ownBlock = some k → v.ownBlock = some k ∨ w.heap.size ≤ k) : GN K w2 (fun k => (S k ∧ k < w.heap.size) ∨ (K.p t').ownBlock = some k ∨ w.heap.size ≤ k) v' (ts ++ [t']) (xs ++ [x']) := by
  have hl := h.len
  have hlt : ∀ (i : Nat) (hi : i < ts.length) (k : Nat), (K.p ts[i]).ownBlock = some k → k < w.heap.size := fun i hi k hk => K.lt (h.inn i hi (by omega)) k hk
  have hlt' : ∀ k, (K.p t').ownBlock = some k → k < w.heap.size := fun k hk => K.lt hO k hk
  have hvl : ∀ k, v.ownBlock = some k → k < w.heap.size := h.row.lt
  have at_l : ∀ (i : Nat) (hi : i < (ts ++ [t']).length), (∃ h' : i < ts.length, (ts ++ [t'])[i] = ts[i]) ∨ (i = ts.length ∧ (ts ++ [t'])[i] = t') := fun i hi => by
    by_cases e : i < ts.length
    · exact .inl ⟨e, List.getElem_append_left e⟩
    · have e2 : i = ts.length := by simp at hi; omega
      refine .inr ⟨e2, ?_⟩
      subst e2
      simp
  refine ⟨by simp [hl], hr, fun i hi hi' => ?_, fun i j hi hj hne k e1 e2 => ?_, fun i hi k e1 e2 => ?_, fun k e => ?_, fun i hi k e => ?_⟩
  · rcases at_l i hi with ⟨h', e⟩ | ⟨rfl, e⟩
    · rw [e, List.getElem_append_left (by omega)]
      exact K.heap (h.inn i h' (by omega)) fun k hk => hg.block k (hlt i h' k hk) (fun e => h.out i h' k hk e.symm)
    · have e2 : (xs ++ [x'])[ts.length] = x' := by simp [hl]
      rw [e, e2]
      exact K.heap hO fun k hk => hg.block k (hlt' k hk) (fun e => hn k hk (h.so k e.symm))
  · rcases at_l i hi with ⟨h1, q1⟩ | ⟨q0, q1⟩ <;> rcases at_l j hj with ⟨h2, q2⟩ | ⟨q3, q2⟩ <;> rw [q1] at e1 <;> rw [q2] at e2
    · exact h.sep i j h1 h2 hne k e1 e2
    · exact hn k e2 (h.si i h1 k e1)
    · exact hn k e1 (h.si j h2 k e2)
    · omega
  · rcases at_l i hi with ⟨h1, q1⟩ | ⟨q0, q1⟩ <;> rw [q1] at e1
    · rcases hv k e2 with q | q
      · exact h.out i h1 k e1 q
      · have := hlt i h1 k e1; omega
    · rcases hv k e2 with q | q
      · exact hn k e1 (h.so k q)
      · have := hlt' k e1; omega
  · rcases hv k e with q | q
    · exact .inl ⟨h.so k q, hvl k q⟩
    · exact .inr (.inr q)
  · rcases at_l i hi with ⟨h1, q1⟩ | ⟨q0, q1⟩ <;> rw [q1] at e
    · exact .inl ⟨h.si i h1 k e, hlt i h1 k e⟩
    · exact .inr (.inl e)
theorem MO.appE {w : World} {S : Nat → Prop} {u v iv bv dv pv : Value} {m : MD} (h : MO w S u v iv bv dv pv m) :
    ∃ ts, NOwns w 48 11 pv ts ∧ ts.length = m.ds.length ∧ ∀ (w2 : World) (pv' : Value) (t' : Row) (x' : Dp), KDep.O w t' x' → (∀ k, (KDep.p t').ownBlock = some k → ¬ S k) →
      NOwns w2 48 11 pv' (ts ++ [t']) → w.grownBy w2 pv.ownBlock → (∀ k, pv'.ownBlock = some k → pv.ownBlock = some k ∨ w.heap.size ≤ k) → ∀ nx : Int, MO w2 (fun k => S k ∨ (KDep.p t').ownBlock = some k ∨ w.heap.size ≤ k) u v iv bv dv pv' { m with ds := m.ds ++ [x'], nx := nx } := by
  obtain ⟨S1, S2, S3, ts, h1, h2, h3, h4, h5, h6, h7⟩ := h.bound
  refine ⟨ts, h4.row, h4.len, fun w2 pv' t' x' hO hn hr hg hv nx => ?_⟩
  have hlow : ∀ q, S1 q ∨ S2 q ∨ S3 q → q < w.heap.size := fun q hq => (h7 q hq).2
  have hSS : ∀ q, S1 q ∨ S2 q ∨ S3 q → S q := fun q hq => (h7 q hq).1
  have hoth : ∀ k, k < w.heap.size → pv.ownBlock ≠ some k → w2.heap[k]? = w.heap[k]? := fun k hk hne => hg.block k hk (fun e => hne e.symm)
  refine ⟨S1, S2, _, _, h1.of_heap fun k hk hlt => hoth k hlt (fun e => (h5 k hk).2 (h4.so k e)), h2.of_heap fun k hk => hoth k (h2.lt k hk).2 (fun e => h6 k (h3 k hk) (h4.so k e)), h3, h4.appendX hO (fun k hk e => hn k hk (hSS k (.inr (.inr e)))) hr hg hv, fun k hk => ⟨(h5 k hk).1, fun e => ?_⟩, fun k hk e => ?_, fun k hk => ?_⟩
  · rcases e with e | e | e
    · exact (h5 k hk).2 e.1
    · exact hn k e (hSS k (.inl hk))
    · have := hlow k (.inl hk); omega
  · rcases e with e | e | e
    · exact h6 k hk e.1
    · exact hn k e (hSS k (.inr (.inl hk)))
    · have := hlow k (.inr (.inl hk)); omega
  · rcases hk with hk | hk | hk | hk | hk
    · exact .inl (hSS k (.inl hk))
    · exact .inl (hSS k (.inr (.inl hk)))
    · exact .inl (hSS k (.inr (.inr hk.1)))
    · exact .inr (.inl hk)
    · exact .inr (.inr hk)
end Go.Proofs.YtaoachljojbnjaaGreat.Kit
/- spec.l01In by its contract. -/
namespace Go.Proofs.YtaoachljojbnjaaGreat
open Go.RowKit Kit
def inB (x a b : Int) : Bool := decide (a ≤ x ∧ x ≤ b)
theorem inB_true {x a b : Int} (h : inB x a b = true) : a ≤ x ∧ x ≤ b := of_decide_eq_true h
theorem inB_false {x a b : Int} (h : inB x a b = false) : x < a ∨ b < x := by
  have := of_decide_eq_false h
  omega
theorem l01In_any (x a b : Int) (w : World) :
    Calls Tryz.prog 20 #[.int .i64 x, .int .i64 a, .int .i64 b] w fun e w' => e = .returned (.bool (inB x a b)) ∧ w' = w := by
  by_cases h0 : a ≤ x
  · by_cases h1 : x ≤ b
    · have hv : inB x a b = true := by simp [inB, h0, h1]
      have HV := hide hv
      clear hv
      go_enter Tryz.func20, Tryz.ntmps20
      go_wp2
      go_ret
      exact ⟨by rw [HV.out]; simp, rfl⟩
    · have hv : inB x a b = false := by simp [inB, h1]
      have HV := hide hv
      clear hv
      go_enter Tryz.func20, Tryz.ntmps20
      go_wp2
      go_ret
      exact ⟨by rw [HV.out]; simp, rfl⟩
  · have hv : inB x a b = false := by simp [inB, h0]
    have HV := hide hv
    clear hv
    go_enter Tryz.func20, Tryz.ntmps20
    go_wp2
    go_ret
    exact ⟨by rw [HV.out]; simp, rfl⟩
end Go.Proofs.YtaoachljojbnjaaGreat
/- spec.PutDep by its contract. -/
namespace Go.Proofs.YtaoachljojbnjaaGreat
open Go.RowKit Kit
set_option maxRecDepth 100000 in
set_option maxHeartbeats 3200000 in
theorem putS_full (id kd io pt bk sl : Int) (nm : ByteArray) (bt ot : Bool) (af : Int) (bl : List Int) (p : Value) (u v iv bv dv pv : Value) (m : MD) (w : World) (h : MR w u v iv bv dv pv m) (hB : BigM 1048576 m) (hv : RInts w p bl) (hl : bl.length ≤ 1048576) (hf : 40 ≤ m.ds.length) :
    Calls Tryz.prog 6 #[.agg #[u, v, iv, bv, dv, pv, .int .i64 m.nx], .agg #[.int .i64 id, .int .i64 kd, .int .i64 io, .int .i64 pt, .int .i64 bk, .int .i64 sl, .string nm, .bool bt, .bool ot, .int .i64 af, p]] w fun e w' => ∃ u' v' i' b' d' p', e = .returned (.tuple #[.agg #[u', v', i', b', d', p', .int .i64 m.nx], .int .i64 0]) ∧ MO w' (fun k => w.heap.size ≤ k) u' v' i' b' d' p' m ∧ Below w.heap.size w w' := by
  have H := hide h
  have HG := hide hB
  have HP := hide hv
  have HL := hide hl
  obtain ⟨a1, c1, a2, c2, a3, c3, a4, c4, a5, c5, a6, c6, rfl, rfl, rfl, rfl, rfl, rfl⟩ := h.form
  obtain ⟨pa, pc, rfl⟩ := hv.form
  clear h hB hv hl
  have HC : Hid (∀ W, Below (((w.alloc (.cells #[.slice a1 m.xs.length c1, .slice a2 m.ys.length c2, .slice a3 m.is.length c3, .slice a4 m.bs.length c4, .slice a5 m.fs.length c5, .slice a6 m.ds.length c6, .int .i64 m.nx] 44)).alloc (.cells #[.int .i64 id, .int .i64 kd, .int .i64 io, .int .i64 pt, .int .i64 bk, .int .i64 sl, .string nm, .bool bt, .bool ot, .int .i64 af, .slice pa bl.length pc] 48)).alloc (.cells noM 44)).heap.size (((w.alloc (.cells #[.slice a1 m.xs.length c1, .slice a2 m.ys.length c2, .slice a3 m.is.length c3, .slice a4 m.bs.length c4, .slice a5 m.fs.length c5, .slice a6 m.ds.length c6, .int .i64 m.nx] 44)).alloc (.cells #[.int .i64 id, .int .i64 kd, .int .i64 io, .int .i64 pt, .int .i64 bk, .int .i64 sl, .string nm, .bool bt, .bool ot, .int .i64 af, .slice pa bl.length pc] 48)).alloc (.cells noM 44)) W → AtC W w.heap.size 44 #[.slice a1 m.xs.length c1, .slice a2 m.ys.length c2, .slice a3 m.is.length c3, .slice a4 m.bs.length c4, .slice a5 m.fs.length c5, .slice a6 m.ds.length c6, .int .i64 m.nx] ∧ AtC W (w.heap.size + 1) 48 #[.int .i64 id, .int .i64 kd, .int .i64 io, .int .i64 pt, .int .i64 bk, .int .i64 sl, .string nm, .bool bt, .bool ot, .int .i64 af, .slice pa bl.length pc] ∧ AtC W (w.heap.size + 1 + 1) 44 noM ∧ Below w.heap.size w W ∧ w.heap.size + 1 + 1 + 1 ≤ W.heap.size) := fun W b2 => by
    have k1 := (AtC.new ((w.alloc (.cells #[.slice a1 m.xs.length c1, .slice a2 m.ys.length c2, .slice a3 m.is.length c3, .slice a4 m.bs.length c4, .slice a5 m.fs.length c5, .slice a6 m.ds.length c6, .int .i64 m.nx] 44)).alloc (.cells #[.int .i64 id, .int .i64 kd, .int .i64 io, .int .i64 pt, .int .i64 bk, .int .i64 sl, .string nm, .bool bt, .bool ot, .int .i64 af, .slice pa bl.length pc] 48)) 44 noM).over b2
    have k2 := ((AtC.new (w.alloc (.cells #[.slice a1 m.xs.length c1, .slice a2 m.ys.length c2, .slice a3 m.is.length c3, .slice a4 m.bs.length c4, .slice a5 m.fs.length c5, .slice a6 m.ds.length c6, .int .i64 m.nx] 44)) 48 #[.int .i64 id, .int .i64 kd, .int .i64 io, .int .i64 pt, .int .i64 bk, .int .i64 sl, .string nm, .bool bt, .bool ot, .int .i64 af, .slice pa bl.length pc]).alloc (.cells noM 44)).over b2
    have sz := b2.size
    simp at k1 k2 sz
    exact ⟨(((AtC.new w 44 _).alloc _).alloc _).over b2, k2, k1, ((((Below.refl _ w).alloc (Nat.le_refl _) _).alloc (by simp) _).alloc (by simp; omega) _).trans (b2.mono (by simp; omega)), sz⟩
  go_enter Tryz.func6, Tryz.ntmps6
  go_wp2_with fail
  refine (copyM_any _ _ _ _ _ _ m _ (H.out.below (HC.out _ (Below.refl _ _)).2.2.2.1 (Nat.le_refl _)) HG.out).mono ?_
  rintro e w2 ⟨u1, u2, u3, u4, u5, u6, rfl, O2, B2⟩
  obtain ⟨b1, d1, b2, d2, b3, d3, b4, d4, b5, d5, b6, d6, rfl, rfl, rfl, rfl, rfl, rfl⟩ := O2.mr.form
  have hz2 := (HC.out w2 B2).2.2.2.2
  have O3 := (O2.mono (S' := fun k => w.heap.size + 1 + 1 + 1 ≤ k) (fun k hk => by simp at hk; omega)).bound
  have HS : Hid (AtC (w2.alloc (.cells #[.slice b1 m.xs.length d1, .slice b2 m.ys.length d2, .slice b3 m.is.length d3, .slice b4 m.bs.length d4, .slice b5 m.fs.length d5, .slice b6 m.ds.length d6, .int .i64 m.nx] 44)) w.heap.size 44 #[.slice a1 m.xs.length c1, .slice a2 m.ys.length c2, .slice a3 m.is.length c3, .slice a4 m.bs.length c4, .slice a5 m.fs.length c5, .slice a6 m.ds.length c6, .int .i64 m.nx] ∧ AtC (w2.alloc (.cells #[.slice b1 m.xs.length d1, .slice b2 m.ys.length d2, .slice b3 m.is.length d3, .slice b4 m.bs.length d4, .slice b5 m.fs.length d5, .slice b6 m.ds.length d6, .int .i64 m.nx] 44)) (w.heap.size + 1) 48 #[.int .i64 id, .int .i64 kd, .int .i64 io, .int .i64 pt, .int .i64 bk, .int .i64 sl, .string nm, .bool bt, .bool ot, .int .i64 af, .slice pa bl.length pc] ∧ AtC (w2.alloc (.cells #[.slice b1 m.xs.length d1, .slice b2 m.ys.length d2, .slice b3 m.is.length d3, .slice b4 m.bs.length d4, .slice b5 m.fs.length d5, .slice b6 m.ds.length d6, .int .i64 m.nx] 44)) (w.heap.size + 1 + 1) 44 noM ∧ AtC (w2.alloc (.cells #[.slice b1 m.xs.length d1, .slice b2 m.ys.length d2, .slice b3 m.is.length d3, .slice b4 m.bs.length d4, .slice b5 m.fs.length d5, .slice b6 m.ds.length d6, .int .i64 m.nx] 44)) w2.heap.size 44 #[.slice b1 m.xs.length d1, .slice b2 m.ys.length d2, .slice b3 m.is.length d3, .slice b4 m.bs.length d4, .slice b5 m.fs.length d5, .slice b6 m.ds.length d6, .int .i64 m.nx] ∧ MO (w2.alloc (.cells #[.slice b1 m.xs.length d1, .slice b2 m.ys.length d2, .slice b3 m.is.length d3, .slice b4 m.bs.length d4, .slice b5 m.fs.length d5, .slice b6 m.ds.length d6, .int .i64 m.nx] 44)) (fun k => w.heap.size + 1 + 1 + 1 ≤ k ∧ k < w2.heap.size) (.slice b1 m.xs.length d1) (.slice b2 m.ys.length d2) (.slice b3 m.is.length d3) (.slice b4 m.bs.length d4) (.slice b5 m.fs.length d5) (.slice b6 m.ds.length d6) m ∧ Below w.heap.size w (w2.alloc (.cells #[.slice b1 m.xs.length d1, .slice b2 m.ys.length d2, .slice b3 m.is.length d3, .slice b4 m.bs.length d4, .slice b5 m.fs.length d5, .slice b6 m.ds.length d6, .int .i64 m.nx] 44)) ∧ (w2.alloc (.cells #[.slice b1 m.xs.length d1, .slice b2 m.ys.length d2, .slice b3 m.is.length d3, .slice b4 m.bs.length d4, .slice b5 m.fs.length d5, .slice b6 m.ds.length d6, .int .i64 m.nx] 44)).heap.size = w2.heap.size + 1) := by
    have q := HC.out (w2.alloc (.cells #[.slice b1 m.xs.length d1, .slice b2 m.ys.length d2, .slice b3 m.is.length d3, .slice b4 m.bs.length d4, .slice b5 m.fs.length d5, .slice b6 m.ds.length d6, .int .i64 m.nx] 44)) (B2.alloc B2.size _)
    exact ⟨q.1, q.2.1, q.2.2.1, AtC.new w2 44 _, O3.alloc _, q.2.2.2.1, by simp⟩
  clear O2 O3 B2
  have q1 := HS.out.1
  have q3 := HS.out.2.2.1
  have q4 := HS.out.2.2.2.1
  have x0 : (w2.alloc (.cells #[.slice b1 m.xs.length d1, .slice b2 m.ys.length d2, .slice b3 m.is.length d3, .slice b4 m.bs.length d4, .slice b5 m.fs.length d5, .slice b6 m.ds.length d6, .int .i64 m.nx] 44)).cell? ⟨w.heap.size, 0, none⟩ = some (.slice a1 m.xs.length c1) := q1.cell 0
  have x1 : (w2.alloc (.cells #[.slice b1 m.xs.length d1, .slice b2 m.ys.length d2, .slice b3 m.is.length d3, .slice b4 m.bs.length d4, .slice b5 m.fs.length d5, .slice b6 m.ds.length d6, .int .i64 m.nx] 44)).cell? ⟨w.heap.size, 1, none⟩ = some (.slice a2 m.ys.length c2) := q1.cell 1
  have x2 : (w2.alloc (.cells #[.slice b1 m.xs.length d1, .slice b2 m.ys.length d2, .slice b3 m.is.length d3, .slice b4 m.bs.length d4, .slice b5 m.fs.length d5, .slice b6 m.ds.length d6, .int .i64 m.nx] 44)).cell? ⟨w.heap.size, 2, none⟩ = some (.slice a3 m.is.length c3) := q1.cell 2
  have x3 : (w2.alloc (.cells #[.slice b1 m.xs.length d1, .slice b2 m.ys.length d2, .slice b3 m.is.length d3, .slice b4 m.bs.length d4, .slice b5 m.fs.length d5, .slice b6 m.ds.length d6, .int .i64 m.nx] 44)).cell? ⟨w.heap.size, 3, none⟩ = some (.slice a4 m.bs.length c4) := q1.cell 3
  have x4 : (w2.alloc (.cells #[.slice b1 m.xs.length d1, .slice b2 m.ys.length d2, .slice b3 m.is.length d3, .slice b4 m.bs.length d4, .slice b5 m.fs.length d5, .slice b6 m.ds.length d6, .int .i64 m.nx] 44)).cell? ⟨w.heap.size, 4, none⟩ = some (.slice a5 m.fs.length c5) := q1.cell 4
  have x5 : (w2.alloc (.cells #[.slice b1 m.xs.length d1, .slice b2 m.ys.length d2, .slice b3 m.is.length d3, .slice b4 m.bs.length d4, .slice b5 m.fs.length d5, .slice b6 m.ds.length d6, .int .i64 m.nx] 44)).cell? ⟨w.heap.size, 5, none⟩ = some (.slice a6 m.ds.length c6) := q1.cell 5
  have x6 : (w2.alloc (.cells #[.slice b1 m.xs.length d1, .slice b2 m.ys.length d2, .slice b3 m.is.length d3, .slice b4 m.bs.length d4, .slice b5 m.fs.length d5, .slice b6 m.ds.length d6, .int .i64 m.nx] 44)).cell? ⟨w.heap.size, 6, none⟩ = some (.int .i64 m.nx) := q1.cell 6
  have r0 : (w2.alloc (.cells #[.slice b1 m.xs.length d1, .slice b2 m.ys.length d2, .slice b3 m.is.length d3, .slice b4 m.bs.length d4, .slice b5 m.fs.length d5, .slice b6 m.ds.length d6, .int .i64 m.nx] 44)).cell? ⟨(w.heap.size + 1 + 1), 0, none⟩ = some (.slice none 0 0) := q3.cell 0
  have r1 : (w2.alloc (.cells #[.slice b1 m.xs.length d1, .slice b2 m.ys.length d2, .slice b3 m.is.length d3, .slice b4 m.bs.length d4, .slice b5 m.fs.length d5, .slice b6 m.ds.length d6, .int .i64 m.nx] 44)).cell? ⟨(w.heap.size + 1 + 1), 1, none⟩ = some (.slice none 0 0) := q3.cell 1
  have r2 : (w2.alloc (.cells #[.slice b1 m.xs.length d1, .slice b2 m.ys.length d2, .slice b3 m.is.length d3, .slice b4 m.bs.length d4, .slice b5 m.fs.length d5, .slice b6 m.ds.length d6, .int .i64 m.nx] 44)).cell? ⟨(w.heap.size + 1 + 1), 2, none⟩ = some (.slice none 0 0) := q3.cell 2
  have r3 : (w2.alloc (.cells #[.slice b1 m.xs.length d1, .slice b2 m.ys.length d2, .slice b3 m.is.length d3, .slice b4 m.bs.length d4, .slice b5 m.fs.length d5, .slice b6 m.ds.length d6, .int .i64 m.nx] 44)).cell? ⟨(w.heap.size + 1 + 1), 3, none⟩ = some (.slice none 0 0) := q3.cell 3
  have r4 : (w2.alloc (.cells #[.slice b1 m.xs.length d1, .slice b2 m.ys.length d2, .slice b3 m.is.length d3, .slice b4 m.bs.length d4, .slice b5 m.fs.length d5, .slice b6 m.ds.length d6, .int .i64 m.nx] 44)).cell? ⟨(w.heap.size + 1 + 1), 4, none⟩ = some (.slice none 0 0) := q3.cell 4
  have r5 : (w2.alloc (.cells #[.slice b1 m.xs.length d1, .slice b2 m.ys.length d2, .slice b3 m.is.length d3, .slice b4 m.bs.length d4, .slice b5 m.fs.length d5, .slice b6 m.ds.length d6, .int .i64 m.nx] 44)).cell? ⟨(w.heap.size + 1 + 1), 5, none⟩ = some (.slice none 0 0) := q3.cell 5
  have r6 : (w2.alloc (.cells #[.slice b1 m.xs.length d1, .slice b2 m.ys.length d2, .slice b3 m.is.length d3, .slice b4 m.bs.length d4, .slice b5 m.fs.length d5, .slice b6 m.ds.length d6, .int .i64 m.nx] 44)).cell? ⟨(w.heap.size + 1 + 1), 6, none⟩ = some (.int .i64 0) := q3.cell 6
  have v0 := q3.frozen 0
  have v1 := q3.frozen 1
  have v2 := q3.frozen 2
  have v3 := q3.frozen 3
  have v4 := q3.frozen 4
  have v5 := q3.frozen 5
  have v6 := q3.frozen 6
  have y0 : (w2.alloc (.cells #[.slice b1 m.xs.length d1, .slice b2 m.ys.length d2, .slice b3 m.is.length d3, .slice b4 m.bs.length d4, .slice b5 m.fs.length d5, .slice b6 m.ds.length d6, .int .i64 m.nx] 44)).cell? ⟨w2.heap.size, 0, none⟩ = some (.slice b1 m.xs.length d1) := q4.cell 0
  have y1 : (w2.alloc (.cells #[.slice b1 m.xs.length d1, .slice b2 m.ys.length d2, .slice b3 m.is.length d3, .slice b4 m.bs.length d4, .slice b5 m.fs.length d5, .slice b6 m.ds.length d6, .int .i64 m.nx] 44)).cell? ⟨w2.heap.size, 1, none⟩ = some (.slice b2 m.ys.length d2) := q4.cell 1
  have y2 : (w2.alloc (.cells #[.slice b1 m.xs.length d1, .slice b2 m.ys.length d2, .slice b3 m.is.length d3, .slice b4 m.bs.length d4, .slice b5 m.fs.length d5, .slice b6 m.ds.length d6, .int .i64 m.nx] 44)).cell? ⟨w2.heap.size, 2, none⟩ = some (.slice b3 m.is.length d3) := q4.cell 2
  have y3 : (w2.alloc (.cells #[.slice b1 m.xs.length d1, .slice b2 m.ys.length d2, .slice b3 m.is.length d3, .slice b4 m.bs.length d4, .slice b5 m.fs.length d5, .slice b6 m.ds.length d6, .int .i64 m.nx] 44)).cell? ⟨w2.heap.size, 3, none⟩ = some (.slice b4 m.bs.length d4) := q4.cell 3
  have y4 : (w2.alloc (.cells #[.slice b1 m.xs.length d1, .slice b2 m.ys.length d2, .slice b3 m.is.length d3, .slice b4 m.bs.length d4, .slice b5 m.fs.length d5, .slice b6 m.ds.length d6, .int .i64 m.nx] 44)).cell? ⟨w2.heap.size, 4, none⟩ = some (.slice b5 m.fs.length d5) := q4.cell 4
  have y5 : (w2.alloc (.cells #[.slice b1 m.xs.length d1, .slice b2 m.ys.length d2, .slice b3 m.is.length d3, .slice b4 m.bs.length d4, .slice b5 m.fs.length d5, .slice b6 m.ds.length d6, .int .i64 m.nx] 44)).cell? ⟨w2.heap.size, 5, none⟩ = some (.slice b6 m.ds.length d6) := q4.cell 5
  have y6 : (w2.alloc (.cells #[.slice b1 m.xs.length d1, .slice b2 m.ys.length d2, .slice b3 m.is.length d3, .slice b4 m.bs.length d4, .slice b5 m.fs.length d5, .slice b6 m.ds.length d6, .int .i64 m.nx] 44)).cell? ⟨w2.heap.size, 6, none⟩ = some (.int .i64 m.nx) := q4.cell 6
  have HM : Hid (MO ((((((((w2.alloc (.cells #[.slice b1 m.xs.length d1, .slice b2 m.ys.length d2, .slice b3 m.is.length d3, .slice b4 m.bs.length d4, .slice b5 m.fs.length d5, .slice b6 m.ds.length d6, .int .i64 m.nx] 44)).setCell ⟨(w.heap.size + 1 + 1), 0, none⟩ (.slice b1 m.xs.length d1)).setCell ⟨(w.heap.size + 1 + 1), 1, none⟩ (.slice b2 m.ys.length d2)).setCell ⟨(w.heap.size + 1 + 1), 2, none⟩ (.slice b3 m.is.length d3)).setCell ⟨(w.heap.size + 1 + 1), 3, none⟩ (.slice b4 m.bs.length d4)).setCell ⟨(w.heap.size + 1 + 1), 4, none⟩ (.slice b5 m.fs.length d5)).setCell ⟨(w.heap.size + 1 + 1), 5, none⟩ (.slice b6 m.ds.length d6)).setCell ⟨(w.heap.size + 1 + 1), 6, none⟩ (.int .i64 m.nx)) (fun k => w.heap.size ≤ k) (.slice b1 m.xs.length d1) (.slice b2 m.ys.length d2) (.slice b3 m.is.length d3) (.slice b4 m.bs.length d4) (.slice b5 m.fs.length d5) (.slice b6 m.ds.length d6) m ∧ Below w.heap.size w ((((((((w2.alloc (.cells #[.slice b1 m.xs.length d1, .slice b2 m.ys.length d2, .slice b3 m.is.length d3, .slice b4 m.bs.length d4, .slice b5 m.fs.length d5, .slice b6 m.ds.length d6, .int .i64 m.nx] 44)).setCell ⟨(w.heap.size + 1 + 1), 0, none⟩ (.slice b1 m.xs.length d1)).setCell ⟨(w.heap.size + 1 + 1), 1, none⟩ (.slice b2 m.ys.length d2)).setCell ⟨(w.heap.size + 1 + 1), 2, none⟩ (.slice b3 m.is.length d3)).setCell ⟨(w.heap.size + 1 + 1), 3, none⟩ (.slice b4 m.bs.length d4)).setCell ⟨(w.heap.size + 1 + 1), 4, none⟩ (.slice b5 m.fs.length d5)).setCell ⟨(w.heap.size + 1 + 1), 5, none⟩ (.slice b6 m.ds.length d6)).setCell ⟨(w.heap.size + 1 + 1), 6, none⟩ (.int .i64 m.nx))) := by
    exact ⟨(HS.out.2.2.2.2.1.of_heap fun k hk _ => ((((((heap_setCell_other _ ⟨(w.heap.size + 1 + 1), 6, none⟩ k _ (by show k ≠ (w.heap.size + 1 + 1); omega)).trans (heap_setCell_other _ ⟨(w.heap.size + 1 + 1), 5, none⟩ k _ (by show k ≠ (w.heap.size + 1 + 1); omega))).trans (heap_setCell_other _ ⟨(w.heap.size + 1 + 1), 4, none⟩ k _ (by show k ≠ (w.heap.size + 1 + 1); omega))).trans (heap_setCell_other _ ⟨(w.heap.size + 1 + 1), 3, none⟩ k _ (by show k ≠ (w.heap.size + 1 + 1); omega))).trans (heap_setCell_other _ ⟨(w.heap.size + 1 + 1), 2, none⟩ k _ (by show k ≠ (w.heap.size + 1 + 1); omega))).trans (heap_setCell_other _ ⟨(w.heap.size + 1 + 1), 1, none⟩ k _ (by show k ≠ (w.heap.size + 1 + 1); omega))).trans (heap_setCell_other _ ⟨(w.heap.size + 1 + 1), 0, none⟩ k _ (by show k ≠ (w.heap.size + 1 + 1); omega))).mono fun k hk => by omega, (((((((HS.out.2.2.2.2.2.1).setCell (by show w.heap.size ≤ w.heap.size + 1 + 1; omega) _).setCell (by show w.heap.size ≤ w.heap.size + 1 + 1; omega) _).setCell (by show w.heap.size ≤ w.heap.size + 1 + 1; omega) _).setCell (by show w.heap.size ≤ w.heap.size + 1 + 1; omega) _).setCell (by show w.heap.size ≤ w.heap.size + 1 + 1; omega) _).setCell (by show w.heap.size ≤ w.heap.size + 1 + 1; omega) _).setCell (by show w.heap.size ≤ w.heap.size + 1 + 1; omega) _⟩
  clear q1 q3 q4 HS HC
  have hf1 : (40 : Int) ≤ (m.ds.length : Int) := by omega
  go_wp2
  refine bodyPost_ret (v := .tuple #[.agg #[.slice b1 m.xs.length d1, .slice b2 m.ys.length d2, .slice b3 m.is.length d3, .slice b4 m.bs.length d4, .slice b5 m.fs.length d5, .slice b6 m.ds.length d6, .int .i64 m.nx], .int .i64 0]) (by simp [results, go_sem, r0, r1, r2, r3, r4, r5, r6]) rfl ⟨_, _, _, _, _, _, rfl, HM.out.1, HM.out.2⟩
set_option maxRecDepth 100000 in
set_option maxHeartbeats 3200000 in
theorem putS_next (id kd io pt bk sl : Int) (nm : ByteArray) (bt ot : Bool) (af : Int) (bl : List Int) (p : Value) (u v iv bv dv pv : Value) (m : MD) (w : World) (h : MR w u v iv bv dv pv m) (hB : BigM 1048576 m) (hv : RInts w p bl) (hl : bl.length ≤ 1048576) (hf : m.ds.length < 40) (hx : inB m.nx 1 99999 = false) :
    Calls Tryz.prog 6 #[.agg #[u, v, iv, bv, dv, pv, .int .i64 m.nx], .agg #[.int .i64 id, .int .i64 kd, .int .i64 io, .int .i64 pt, .int .i64 bk, .int .i64 sl, .string nm, .bool bt, .bool ot, .int .i64 af, p]] w fun e w' => ∃ u' v' i' b' d' p', e = .returned (.tuple #[.agg #[u', v', i', b', d', p', .int .i64 m.nx], .int .i64 0]) ∧ MO w' (fun k => w.heap.size ≤ k) u' v' i' b' d' p' m ∧ Below w.heap.size w w' := by
  have H := hide h
  have HG := hide hB
  have HP := hide hv
  have HL := hide hl
  obtain ⟨a1, c1, a2, c2, a3, c3, a4, c4, a5, c5, a6, c6, rfl, rfl, rfl, rfl, rfl, rfl⟩ := h.form
  obtain ⟨pa, pc, rfl⟩ := hv.form
  clear h hB hv hl
  have HC : Hid (∀ W, Below (((w.alloc (.cells #[.slice a1 m.xs.length c1, .slice a2 m.ys.length c2, .slice a3 m.is.length c3, .slice a4 m.bs.length c4, .slice a5 m.fs.length c5, .slice a6 m.ds.length c6, .int .i64 m.nx] 44)).alloc (.cells #[.int .i64 id, .int .i64 kd, .int .i64 io, .int .i64 pt, .int .i64 bk, .int .i64 sl, .string nm, .bool bt, .bool ot, .int .i64 af, .slice pa bl.length pc] 48)).alloc (.cells noM 44)).heap.size (((w.alloc (.cells #[.slice a1 m.xs.length c1, .slice a2 m.ys.length c2, .slice a3 m.is.length c3, .slice a4 m.bs.length c4, .slice a5 m.fs.length c5, .slice a6 m.ds.length c6, .int .i64 m.nx] 44)).alloc (.cells #[.int .i64 id, .int .i64 kd, .int .i64 io, .int .i64 pt, .int .i64 bk, .int .i64 sl, .string nm, .bool bt, .bool ot, .int .i64 af, .slice pa bl.length pc] 48)).alloc (.cells noM 44)) W → AtC W w.heap.size 44 #[.slice a1 m.xs.length c1, .slice a2 m.ys.length c2, .slice a3 m.is.length c3, .slice a4 m.bs.length c4, .slice a5 m.fs.length c5, .slice a6 m.ds.length c6, .int .i64 m.nx] ∧ AtC W (w.heap.size + 1) 48 #[.int .i64 id, .int .i64 kd, .int .i64 io, .int .i64 pt, .int .i64 bk, .int .i64 sl, .string nm, .bool bt, .bool ot, .int .i64 af, .slice pa bl.length pc] ∧ AtC W (w.heap.size + 1 + 1) 44 noM ∧ Below w.heap.size w W ∧ w.heap.size + 1 + 1 + 1 ≤ W.heap.size) := fun W b2 => by
    have k1 := (AtC.new ((w.alloc (.cells #[.slice a1 m.xs.length c1, .slice a2 m.ys.length c2, .slice a3 m.is.length c3, .slice a4 m.bs.length c4, .slice a5 m.fs.length c5, .slice a6 m.ds.length c6, .int .i64 m.nx] 44)).alloc (.cells #[.int .i64 id, .int .i64 kd, .int .i64 io, .int .i64 pt, .int .i64 bk, .int .i64 sl, .string nm, .bool bt, .bool ot, .int .i64 af, .slice pa bl.length pc] 48)) 44 noM).over b2
    have k2 := ((AtC.new (w.alloc (.cells #[.slice a1 m.xs.length c1, .slice a2 m.ys.length c2, .slice a3 m.is.length c3, .slice a4 m.bs.length c4, .slice a5 m.fs.length c5, .slice a6 m.ds.length c6, .int .i64 m.nx] 44)) 48 #[.int .i64 id, .int .i64 kd, .int .i64 io, .int .i64 pt, .int .i64 bk, .int .i64 sl, .string nm, .bool bt, .bool ot, .int .i64 af, .slice pa bl.length pc]).alloc (.cells noM 44)).over b2
    have sz := b2.size
    simp at k1 k2 sz
    exact ⟨(((AtC.new w 44 _).alloc _).alloc _).over b2, k2, k1, ((((Below.refl _ w).alloc (Nat.le_refl _) _).alloc (by simp) _).alloc (by simp; omega) _).trans (b2.mono (by simp; omega)), sz⟩
  go_enter Tryz.func6, Tryz.ntmps6
  go_wp2_with fail
  refine (copyM_any _ _ _ _ _ _ m _ (H.out.below (HC.out _ (Below.refl _ _)).2.2.2.1 (Nat.le_refl _)) HG.out).mono ?_
  rintro e w2 ⟨u1, u2, u3, u4, u5, u6, rfl, O2, B2⟩
  obtain ⟨b1, d1, b2, d2, b3, d3, b4, d4, b5, d5, b6, d6, rfl, rfl, rfl, rfl, rfl, rfl⟩ := O2.mr.form
  have hz2 := (HC.out w2 B2).2.2.2.2
  have O3 := (O2.mono (S' := fun k => w.heap.size + 1 + 1 + 1 ≤ k) (fun k hk => by simp at hk; omega)).bound
  have HS : Hid (AtC (w2.alloc (.cells #[.slice b1 m.xs.length d1, .slice b2 m.ys.length d2, .slice b3 m.is.length d3, .slice b4 m.bs.length d4, .slice b5 m.fs.length d5, .slice b6 m.ds.length d6, .int .i64 m.nx] 44)) w.heap.size 44 #[.slice a1 m.xs.length c1, .slice a2 m.ys.length c2, .slice a3 m.is.length c3, .slice a4 m.bs.length c4, .slice a5 m.fs.length c5, .slice a6 m.ds.length c6, .int .i64 m.nx] ∧ AtC (w2.alloc (.cells #[.slice b1 m.xs.length d1, .slice b2 m.ys.length d2, .slice b3 m.is.length d3, .slice b4 m.bs.length d4, .slice b5 m.fs.length d5, .slice b6 m.ds.length d6, .int .i64 m.nx] 44)) (w.heap.size + 1) 48 #[.int .i64 id, .int .i64 kd, .int .i64 io, .int .i64 pt, .int .i64 bk, .int .i64 sl, .string nm, .bool bt, .bool ot, .int .i64 af, .slice pa bl.length pc] ∧ AtC (w2.alloc (.cells #[.slice b1 m.xs.length d1, .slice b2 m.ys.length d2, .slice b3 m.is.length d3, .slice b4 m.bs.length d4, .slice b5 m.fs.length d5, .slice b6 m.ds.length d6, .int .i64 m.nx] 44)) (w.heap.size + 1 + 1) 44 noM ∧ AtC (w2.alloc (.cells #[.slice b1 m.xs.length d1, .slice b2 m.ys.length d2, .slice b3 m.is.length d3, .slice b4 m.bs.length d4, .slice b5 m.fs.length d5, .slice b6 m.ds.length d6, .int .i64 m.nx] 44)) w2.heap.size 44 #[.slice b1 m.xs.length d1, .slice b2 m.ys.length d2, .slice b3 m.is.length d3, .slice b4 m.bs.length d4, .slice b5 m.fs.length d5, .slice b6 m.ds.length d6, .int .i64 m.nx] ∧ MO (w2.alloc (.cells #[.slice b1 m.xs.length d1, .slice b2 m.ys.length d2, .slice b3 m.is.length d3, .slice b4 m.bs.length d4, .slice b5 m.fs.length d5, .slice b6 m.ds.length d6, .int .i64 m.nx] 44)) (fun k => w.heap.size + 1 + 1 + 1 ≤ k ∧ k < w2.heap.size) (.slice b1 m.xs.length d1) (.slice b2 m.ys.length d2) (.slice b3 m.is.length d3) (.slice b4 m.bs.length d4) (.slice b5 m.fs.length d5) (.slice b6 m.ds.length d6) m ∧ Below w.heap.size w (w2.alloc (.cells #[.slice b1 m.xs.length d1, .slice b2 m.ys.length d2, .slice b3 m.is.length d3, .slice b4 m.bs.length d4, .slice b5 m.fs.length d5, .slice b6 m.ds.length d6, .int .i64 m.nx] 44)) ∧ (w2.alloc (.cells #[.slice b1 m.xs.length d1, .slice b2 m.ys.length d2, .slice b3 m.is.length d3, .slice b4 m.bs.length d4, .slice b5 m.fs.length d5, .slice b6 m.ds.length d6, .int .i64 m.nx] 44)).heap.size = w2.heap.size + 1) := by
    have q := HC.out (w2.alloc (.cells #[.slice b1 m.xs.length d1, .slice b2 m.ys.length d2, .slice b3 m.is.length d3, .slice b4 m.bs.length d4, .slice b5 m.fs.length d5, .slice b6 m.ds.length d6, .int .i64 m.nx] 44)) (B2.alloc B2.size _)
    exact ⟨q.1, q.2.1, q.2.2.1, AtC.new w2 44 _, O3.alloc _, q.2.2.2.1, by simp⟩
  clear O2 O3 B2
  have q1 := HS.out.1
  have q3 := HS.out.2.2.1
  have q4 := HS.out.2.2.2.1
  have x0 : (w2.alloc (.cells #[.slice b1 m.xs.length d1, .slice b2 m.ys.length d2, .slice b3 m.is.length d3, .slice b4 m.bs.length d4, .slice b5 m.fs.length d5, .slice b6 m.ds.length d6, .int .i64 m.nx] 44)).cell? ⟨w.heap.size, 0, none⟩ = some (.slice a1 m.xs.length c1) := q1.cell 0
  have x1 : (w2.alloc (.cells #[.slice b1 m.xs.length d1, .slice b2 m.ys.length d2, .slice b3 m.is.length d3, .slice b4 m.bs.length d4, .slice b5 m.fs.length d5, .slice b6 m.ds.length d6, .int .i64 m.nx] 44)).cell? ⟨w.heap.size, 1, none⟩ = some (.slice a2 m.ys.length c2) := q1.cell 1
  have x2 : (w2.alloc (.cells #[.slice b1 m.xs.length d1, .slice b2 m.ys.length d2, .slice b3 m.is.length d3, .slice b4 m.bs.length d4, .slice b5 m.fs.length d5, .slice b6 m.ds.length d6, .int .i64 m.nx] 44)).cell? ⟨w.heap.size, 2, none⟩ = some (.slice a3 m.is.length c3) := q1.cell 2
  have x3 : (w2.alloc (.cells #[.slice b1 m.xs.length d1, .slice b2 m.ys.length d2, .slice b3 m.is.length d3, .slice b4 m.bs.length d4, .slice b5 m.fs.length d5, .slice b6 m.ds.length d6, .int .i64 m.nx] 44)).cell? ⟨w.heap.size, 3, none⟩ = some (.slice a4 m.bs.length c4) := q1.cell 3
  have x4 : (w2.alloc (.cells #[.slice b1 m.xs.length d1, .slice b2 m.ys.length d2, .slice b3 m.is.length d3, .slice b4 m.bs.length d4, .slice b5 m.fs.length d5, .slice b6 m.ds.length d6, .int .i64 m.nx] 44)).cell? ⟨w.heap.size, 4, none⟩ = some (.slice a5 m.fs.length c5) := q1.cell 4
  have x5 : (w2.alloc (.cells #[.slice b1 m.xs.length d1, .slice b2 m.ys.length d2, .slice b3 m.is.length d3, .slice b4 m.bs.length d4, .slice b5 m.fs.length d5, .slice b6 m.ds.length d6, .int .i64 m.nx] 44)).cell? ⟨w.heap.size, 5, none⟩ = some (.slice a6 m.ds.length c6) := q1.cell 5
  have x6 : (w2.alloc (.cells #[.slice b1 m.xs.length d1, .slice b2 m.ys.length d2, .slice b3 m.is.length d3, .slice b4 m.bs.length d4, .slice b5 m.fs.length d5, .slice b6 m.ds.length d6, .int .i64 m.nx] 44)).cell? ⟨w.heap.size, 6, none⟩ = some (.int .i64 m.nx) := q1.cell 6
  have r0 : (w2.alloc (.cells #[.slice b1 m.xs.length d1, .slice b2 m.ys.length d2, .slice b3 m.is.length d3, .slice b4 m.bs.length d4, .slice b5 m.fs.length d5, .slice b6 m.ds.length d6, .int .i64 m.nx] 44)).cell? ⟨(w.heap.size + 1 + 1), 0, none⟩ = some (.slice none 0 0) := q3.cell 0
  have r1 : (w2.alloc (.cells #[.slice b1 m.xs.length d1, .slice b2 m.ys.length d2, .slice b3 m.is.length d3, .slice b4 m.bs.length d4, .slice b5 m.fs.length d5, .slice b6 m.ds.length d6, .int .i64 m.nx] 44)).cell? ⟨(w.heap.size + 1 + 1), 1, none⟩ = some (.slice none 0 0) := q3.cell 1
  have r2 : (w2.alloc (.cells #[.slice b1 m.xs.length d1, .slice b2 m.ys.length d2, .slice b3 m.is.length d3, .slice b4 m.bs.length d4, .slice b5 m.fs.length d5, .slice b6 m.ds.length d6, .int .i64 m.nx] 44)).cell? ⟨(w.heap.size + 1 + 1), 2, none⟩ = some (.slice none 0 0) := q3.cell 2
  have r3 : (w2.alloc (.cells #[.slice b1 m.xs.length d1, .slice b2 m.ys.length d2, .slice b3 m.is.length d3, .slice b4 m.bs.length d4, .slice b5 m.fs.length d5, .slice b6 m.ds.length d6, .int .i64 m.nx] 44)).cell? ⟨(w.heap.size + 1 + 1), 3, none⟩ = some (.slice none 0 0) := q3.cell 3
  have r4 : (w2.alloc (.cells #[.slice b1 m.xs.length d1, .slice b2 m.ys.length d2, .slice b3 m.is.length d3, .slice b4 m.bs.length d4, .slice b5 m.fs.length d5, .slice b6 m.ds.length d6, .int .i64 m.nx] 44)).cell? ⟨(w.heap.size + 1 + 1), 4, none⟩ = some (.slice none 0 0) := q3.cell 4
  have r5 : (w2.alloc (.cells #[.slice b1 m.xs.length d1, .slice b2 m.ys.length d2, .slice b3 m.is.length d3, .slice b4 m.bs.length d4, .slice b5 m.fs.length d5, .slice b6 m.ds.length d6, .int .i64 m.nx] 44)).cell? ⟨(w.heap.size + 1 + 1), 5, none⟩ = some (.slice none 0 0) := q3.cell 5
  have r6 : (w2.alloc (.cells #[.slice b1 m.xs.length d1, .slice b2 m.ys.length d2, .slice b3 m.is.length d3, .slice b4 m.bs.length d4, .slice b5 m.fs.length d5, .slice b6 m.ds.length d6, .int .i64 m.nx] 44)).cell? ⟨(w.heap.size + 1 + 1), 6, none⟩ = some (.int .i64 0) := q3.cell 6
  have v0 := q3.frozen 0
  have v1 := q3.frozen 1
  have v2 := q3.frozen 2
  have v3 := q3.frozen 3
  have v4 := q3.frozen 4
  have v5 := q3.frozen 5
  have v6 := q3.frozen 6
  have y0 : (w2.alloc (.cells #[.slice b1 m.xs.length d1, .slice b2 m.ys.length d2, .slice b3 m.is.length d3, .slice b4 m.bs.length d4, .slice b5 m.fs.length d5, .slice b6 m.ds.length d6, .int .i64 m.nx] 44)).cell? ⟨w2.heap.size, 0, none⟩ = some (.slice b1 m.xs.length d1) := q4.cell 0
  have y1 : (w2.alloc (.cells #[.slice b1 m.xs.length d1, .slice b2 m.ys.length d2, .slice b3 m.is.length d3, .slice b4 m.bs.length d4, .slice b5 m.fs.length d5, .slice b6 m.ds.length d6, .int .i64 m.nx] 44)).cell? ⟨w2.heap.size, 1, none⟩ = some (.slice b2 m.ys.length d2) := q4.cell 1
  have y2 : (w2.alloc (.cells #[.slice b1 m.xs.length d1, .slice b2 m.ys.length d2, .slice b3 m.is.length d3, .slice b4 m.bs.length d4, .slice b5 m.fs.length d5, .slice b6 m.ds.length d6, .int .i64 m.nx] 44)).cell? ⟨w2.heap.size, 2, none⟩ = some (.slice b3 m.is.length d3) := q4.cell 2
  have y3 : (w2.alloc (.cells #[.slice b1 m.xs.length d1, .slice b2 m.ys.length d2, .slice b3 m.is.length d3, .slice b4 m.bs.length d4, .slice b5 m.fs.length d5, .slice b6 m.ds.length d6, .int .i64 m.nx] 44)).cell? ⟨w2.heap.size, 3, none⟩ = some (.slice b4 m.bs.length d4) := q4.cell 3
  have y4 : (w2.alloc (.cells #[.slice b1 m.xs.length d1, .slice b2 m.ys.length d2, .slice b3 m.is.length d3, .slice b4 m.bs.length d4, .slice b5 m.fs.length d5, .slice b6 m.ds.length d6, .int .i64 m.nx] 44)).cell? ⟨w2.heap.size, 4, none⟩ = some (.slice b5 m.fs.length d5) := q4.cell 4
  have y5 : (w2.alloc (.cells #[.slice b1 m.xs.length d1, .slice b2 m.ys.length d2, .slice b3 m.is.length d3, .slice b4 m.bs.length d4, .slice b5 m.fs.length d5, .slice b6 m.ds.length d6, .int .i64 m.nx] 44)).cell? ⟨w2.heap.size, 5, none⟩ = some (.slice b6 m.ds.length d6) := q4.cell 5
  have y6 : (w2.alloc (.cells #[.slice b1 m.xs.length d1, .slice b2 m.ys.length d2, .slice b3 m.is.length d3, .slice b4 m.bs.length d4, .slice b5 m.fs.length d5, .slice b6 m.ds.length d6, .int .i64 m.nx] 44)).cell? ⟨w2.heap.size, 6, none⟩ = some (.int .i64 m.nx) := q4.cell 6
  have HM : Hid (MO ((((((((w2.alloc (.cells #[.slice b1 m.xs.length d1, .slice b2 m.ys.length d2, .slice b3 m.is.length d3, .slice b4 m.bs.length d4, .slice b5 m.fs.length d5, .slice b6 m.ds.length d6, .int .i64 m.nx] 44)).setCell ⟨(w.heap.size + 1 + 1), 0, none⟩ (.slice b1 m.xs.length d1)).setCell ⟨(w.heap.size + 1 + 1), 1, none⟩ (.slice b2 m.ys.length d2)).setCell ⟨(w.heap.size + 1 + 1), 2, none⟩ (.slice b3 m.is.length d3)).setCell ⟨(w.heap.size + 1 + 1), 3, none⟩ (.slice b4 m.bs.length d4)).setCell ⟨(w.heap.size + 1 + 1), 4, none⟩ (.slice b5 m.fs.length d5)).setCell ⟨(w.heap.size + 1 + 1), 5, none⟩ (.slice b6 m.ds.length d6)).setCell ⟨(w.heap.size + 1 + 1), 6, none⟩ (.int .i64 m.nx)) (fun k => w.heap.size ≤ k) (.slice b1 m.xs.length d1) (.slice b2 m.ys.length d2) (.slice b3 m.is.length d3) (.slice b4 m.bs.length d4) (.slice b5 m.fs.length d5) (.slice b6 m.ds.length d6) m ∧ Below w.heap.size w ((((((((w2.alloc (.cells #[.slice b1 m.xs.length d1, .slice b2 m.ys.length d2, .slice b3 m.is.length d3, .slice b4 m.bs.length d4, .slice b5 m.fs.length d5, .slice b6 m.ds.length d6, .int .i64 m.nx] 44)).setCell ⟨(w.heap.size + 1 + 1), 0, none⟩ (.slice b1 m.xs.length d1)).setCell ⟨(w.heap.size + 1 + 1), 1, none⟩ (.slice b2 m.ys.length d2)).setCell ⟨(w.heap.size + 1 + 1), 2, none⟩ (.slice b3 m.is.length d3)).setCell ⟨(w.heap.size + 1 + 1), 3, none⟩ (.slice b4 m.bs.length d4)).setCell ⟨(w.heap.size + 1 + 1), 4, none⟩ (.slice b5 m.fs.length d5)).setCell ⟨(w.heap.size + 1 + 1), 5, none⟩ (.slice b6 m.ds.length d6)).setCell ⟨(w.heap.size + 1 + 1), 6, none⟩ (.int .i64 m.nx))) := by
    exact ⟨(HS.out.2.2.2.2.1.of_heap fun k hk _ => ((((((heap_setCell_other _ ⟨(w.heap.size + 1 + 1), 6, none⟩ k _ (by show k ≠ (w.heap.size + 1 + 1); omega)).trans (heap_setCell_other _ ⟨(w.heap.size + 1 + 1), 5, none⟩ k _ (by show k ≠ (w.heap.size + 1 + 1); omega))).trans (heap_setCell_other _ ⟨(w.heap.size + 1 + 1), 4, none⟩ k _ (by show k ≠ (w.heap.size + 1 + 1); omega))).trans (heap_setCell_other _ ⟨(w.heap.size + 1 + 1), 3, none⟩ k _ (by show k ≠ (w.heap.size + 1 + 1); omega))).trans (heap_setCell_other _ ⟨(w.heap.size + 1 + 1), 2, none⟩ k _ (by show k ≠ (w.heap.size + 1 + 1); omega))).trans (heap_setCell_other _ ⟨(w.heap.size + 1 + 1), 1, none⟩ k _ (by show k ≠ (w.heap.size + 1 + 1); omega))).trans (heap_setCell_other _ ⟨(w.heap.size + 1 + 1), 0, none⟩ k _ (by show k ≠ (w.heap.size + 1 + 1); omega))).mono fun k hk => by omega, (((((((HS.out.2.2.2.2.2.1).setCell (by show w.heap.size ≤ w.heap.size + 1 + 1; omega) _).setCell (by show w.heap.size ≤ w.heap.size + 1 + 1; omega) _).setCell (by show w.heap.size ≤ w.heap.size + 1 + 1; omega) _).setCell (by show w.heap.size ≤ w.heap.size + 1 + 1; omega) _).setCell (by show w.heap.size ≤ w.heap.size + 1 + 1; omega) _).setCell (by show w.heap.size ≤ w.heap.size + 1 + 1; omega) _).setCell (by show w.heap.size ≤ w.heap.size + 1 + 1; omega) _⟩
  clear q1 q3 q4 HS HC
  have hf1 : ¬ ((40 : Int) ≤ (m.ds.length : Int)) := by omega
  have HX := hide hx
  clear hx
  go_wp2_with fail
  refine (l01In_any m.nx 1 99999 _).mono ?_
  rintro e w3 ⟨rfl, rfl⟩
  rw [HX.out]
  go_wp2
  refine bodyPost_ret (v := .tuple #[.agg #[.slice b1 m.xs.length d1, .slice b2 m.ys.length d2, .slice b3 m.is.length d3, .slice b4 m.bs.length d4, .slice b5 m.fs.length d5, .slice b6 m.ds.length d6, .int .i64 m.nx], .int .i64 0]) (by simp [results, go_sem, r0, r1, r2, r3, r4, r5, r6]) rfl ⟨_, _, _, _, _, _, rfl, HM.out.1, HM.out.2⟩
theorem put_fin {w w12 : World} {b : Nat} {A0 A1 A2 A3 A4 A5 : Value} {D : Array Value} {u v iv bv dv pv pv' : Value} {nx : Int} {R : MD} (hb : w.heap.size + 1 + 1 + 1 ≤ b)
    (h : AtC w12 w.heap.size 44 #[A0, A1, A2, A3, A4, A5, .int .i64 nx] ∧ AtC w12 (w.heap.size + 1) 48 D ∧ AtC w12 (w.heap.size + 1 + 1) 44 noM ∧ AtC w12 b 44 #[u, v, iv, bv, dv, pv, .int .i64 nx] ∧ MO w12 (fun k => w.heap.size + 1 + 1 + 1 ≤ k ∧ k ≠ b) u v iv bv dv pv' R ∧ Below w.heap.size w w12) (y : Int) :
    ∃ W13 W14, w12.setCell ⟨b, 5, none⟩ pv' = W13 ∧ W13.setCell ⟨b, 6, none⟩ (.int .i64 y) = W14 ∧ W13.cell? ⟨b, 6, none⟩ = some (.int .i64 nx) ∧ W13.frozen? ⟨b, 6, none⟩ = false ∧ W13.cell? ⟨w.heap.size, 6, none⟩ = some (.int .i64 nx) ∧ Hid (AtC W14 (w.heap.size + 1) 48 D ∧ AtC W14 (w.heap.size + 1 + 1) 44 noM ∧ AtC W14 b 44 #[u, v, iv, bv, dv, pv', .int .i64 y] ∧ MO W14 (fun k => w.heap.size + 1 + 1 + 1 ≤ k ∧ k ≠ b) u v iv bv dv pv' R ∧ Below w.heap.size w W14) := by
  obtain ⟨k1, k2, k3, k4, k5, k6⟩ := h
  have j4 : AtC (w12.setCell ⟨b, 5, none⟩ pv') b 44 #[u, v, iv, bv, dv, pv', .int .i64 nx] := k4.set 5 pv'
  have i4 : AtC ((w12.setCell ⟨b, 5, none⟩ pv').setCell ⟨b, 6, none⟩ (.int .i64 y)) b 44 #[u, v, iv, bv, dv, pv', .int .i64 y] := j4.set 6 _
  refine ⟨_, _, rfl, rfl, j4.cell 6, j4.frozen 6, (k1.other (by omega) _).cell 6, (k2.other (by omega) _).other (by omega) _, (k3.other (by omega) _).other (by omega) _, i4, k5.of_heap fun k hk _ => ?_, (k6.setCell (by show w.heap.size ≤ b; omega) _).setCell (by show w.heap.size ≤ b; omega) _⟩
  rw [heap_setCell_other _ ⟨b, 6, none⟩ k _ (by show k ≠ b; omega), heap_setCell_other _ ⟨b, 5, none⟩ k _ (by show k ≠ b; omega)]
theorem lit0_any (w : World) (e : TypeId) (m : Nat) : (w.alloc (.cells #[] e)).ownsRow w.heap.size e m (.slice (some ⟨w.heap.size, 0, none⟩) 0 0) 0 [] := by
  have := World.ownsRow_lit (base := w.heap.size) (e := e) (size := m) w #[] 0 (by simp) (Nat.zero_le _) (by simp)
  simpa using this
set_option maxRecDepth 100000 in
set_option maxHeartbeats 3200000 in
theorem putS_yes (id kd io pt bk sl : Int) (nm : ByteArray) (bt ot : Bool) (af : Int) (bl : List Int) (p : Value) (u v iv bv dv pv : Value) (m : MD) (w : World) (h : MR w u v iv bv dv pv m) (hB : BigM 1048576 m) (hv : RInts w p bl) (hl : bl.length ≤ 1048576) (hf : m.ds.length < 40) (hx : inB m.nx 1 99999 = true) :
    Calls Tryz.prog 6 #[.agg #[u, v, iv, bv, dv, pv, .int .i64 m.nx], .agg #[.int .i64 id, .int .i64 kd, .int .i64 io, .int .i64 pt, .int .i64 bk, .int .i64 sl, .string nm, .bool bt, .bool ot, .int .i64 af, p]] w fun e w' => ∃ u' v' i' b' d' p', e = .returned (.tuple #[.agg #[u', v', i', b', d', p', .int .i64 (m.nx + 1)], .int .i64 m.nx]) ∧ MO w' (fun k => w.heap.size ≤ k) u' v' i' b' d' p' ({ m with ds := m.ds ++ [(⟨m.nx, kd, io, pt, bk, sl, nm, bt, ot, af, bl⟩ : Dp)], nx := m.nx + 1 } : MD) ∧ Below w.heap.size w w' := by
  have H := hide h
  have HG := hide hB
  have HP := hide hv
  have HL := hide hl
  obtain ⟨a1, c1, a2, c2, a3, c3, a4, c4, a5, c5, a6, c6, rfl, rfl, rfl, rfl, rfl, rfl⟩ := h.form
  obtain ⟨pa, pc, rfl⟩ := hv.form
  clear h hB hv hl
  have HC : Hid (∀ W, Below (((w.alloc (.cells #[.slice a1 m.xs.length c1, .slice a2 m.ys.length c2, .slice a3 m.is.length c3, .slice a4 m.bs.length c4, .slice a5 m.fs.length c5, .slice a6 m.ds.length c6, .int .i64 m.nx] 44)).alloc (.cells #[.int .i64 id, .int .i64 kd, .int .i64 io, .int .i64 pt, .int .i64 bk, .int .i64 sl, .string nm, .bool bt, .bool ot, .int .i64 af, .slice pa bl.length pc] 48)).alloc (.cells noM 44)).heap.size (((w.alloc (.cells #[.slice a1 m.xs.length c1, .slice a2 m.ys.length c2, .slice a3 m.is.length c3, .slice a4 m.bs.length c4, .slice a5 m.fs.length c5, .slice a6 m.ds.length c6, .int .i64 m.nx] 44)).alloc (.cells #[.int .i64 id, .int .i64 kd, .int .i64 io, .int .i64 pt, .int .i64 bk, .int .i64 sl, .string nm, .bool bt, .bool ot, .int .i64 af, .slice pa bl.length pc] 48)).alloc (.cells noM 44)) W → AtC W w.heap.size 44 #[.slice a1 m.xs.length c1, .slice a2 m.ys.length c2, .slice a3 m.is.length c3, .slice a4 m.bs.length c4, .slice a5 m.fs.length c5, .slice a6 m.ds.length c6, .int .i64 m.nx] ∧ AtC W (w.heap.size + 1) 48 #[.int .i64 id, .int .i64 kd, .int .i64 io, .int .i64 pt, .int .i64 bk, .int .i64 sl, .string nm, .bool bt, .bool ot, .int .i64 af, .slice pa bl.length pc] ∧ AtC W (w.heap.size + 1 + 1) 44 noM ∧ Below w.heap.size w W ∧ w.heap.size + 1 + 1 + 1 ≤ W.heap.size) := fun W b2 => by
    have k1 := (AtC.new ((w.alloc (.cells #[.slice a1 m.xs.length c1, .slice a2 m.ys.length c2, .slice a3 m.is.length c3, .slice a4 m.bs.length c4, .slice a5 m.fs.length c5, .slice a6 m.ds.length c6, .int .i64 m.nx] 44)).alloc (.cells #[.int .i64 id, .int .i64 kd, .int .i64 io, .int .i64 pt, .int .i64 bk, .int .i64 sl, .string nm, .bool bt, .bool ot, .int .i64 af, .slice pa bl.length pc] 48)) 44 noM).over b2
    have k2 := ((AtC.new (w.alloc (.cells #[.slice a1 m.xs.length c1, .slice a2 m.ys.length c2, .slice a3 m.is.length c3, .slice a4 m.bs.length c4, .slice a5 m.fs.length c5, .slice a6 m.ds.length c6, .int .i64 m.nx] 44)) 48 #[.int .i64 id, .int .i64 kd, .int .i64 io, .int .i64 pt, .int .i64 bk, .int .i64 sl, .string nm, .bool bt, .bool ot, .int .i64 af, .slice pa bl.length pc]).alloc (.cells noM 44)).over b2
    have sz := b2.size
    simp at k1 k2 sz
    exact ⟨(((AtC.new w 44 _).alloc _).alloc _).over b2, k2, k1, ((((Below.refl _ w).alloc (Nat.le_refl _) _).alloc (by simp) _).alloc (by simp; omega) _).trans (b2.mono (by simp; omega)), sz⟩
  go_enter Tryz.func6, Tryz.ntmps6
  go_wp2_with fail
  refine (copyM_any _ _ _ _ _ _ m _ (H.out.below (HC.out _ (Below.refl _ _)).2.2.2.1 (Nat.le_refl _)) HG.out).mono ?_
  rintro e w2 ⟨u1, u2, u3, u4, u5, u6, rfl, O2, B2⟩
  obtain ⟨b1, d1, b2, d2, b3, d3, b4, d4, b5, d5, b6, d6, rfl, rfl, rfl, rfl, rfl, rfl⟩ := O2.mr.form
  have hz2 := (HC.out w2 B2).2.2.2.2
  have O3 := (O2.mono (S' := fun k => w.heap.size + 1 + 1 + 1 ≤ k) (fun k hk => by simp at hk; omega)).bound
  have HS : Hid (AtC (w2.alloc (.cells #[.slice b1 m.xs.length d1, .slice b2 m.ys.length d2, .slice b3 m.is.length d3, .slice b4 m.bs.length d4, .slice b5 m.fs.length d5, .slice b6 m.ds.length d6, .int .i64 m.nx] 44)) w.heap.size 44 #[.slice a1 m.xs.length c1, .slice a2 m.ys.length c2, .slice a3 m.is.length c3, .slice a4 m.bs.length c4, .slice a5 m.fs.length c5, .slice a6 m.ds.length c6, .int .i64 m.nx] ∧ AtC (w2.alloc (.cells #[.slice b1 m.xs.length d1, .slice b2 m.ys.length d2, .slice b3 m.is.length d3, .slice b4 m.bs.length d4, .slice b5 m.fs.length d5, .slice b6 m.ds.length d6, .int .i64 m.nx] 44)) (w.heap.size + 1) 48 #[.int .i64 id, .int .i64 kd, .int .i64 io, .int .i64 pt, .int .i64 bk, .int .i64 sl, .string nm, .bool bt, .bool ot, .int .i64 af, .slice pa bl.length pc] ∧ AtC (w2.alloc (.cells #[.slice b1 m.xs.length d1, .slice b2 m.ys.length d2, .slice b3 m.is.length d3, .slice b4 m.bs.length d4, .slice b5 m.fs.length d5, .slice b6 m.ds.length d6, .int .i64 m.nx] 44)) (w.heap.size + 1 + 1) 44 noM ∧ AtC (w2.alloc (.cells #[.slice b1 m.xs.length d1, .slice b2 m.ys.length d2, .slice b3 m.is.length d3, .slice b4 m.bs.length d4, .slice b5 m.fs.length d5, .slice b6 m.ds.length d6, .int .i64 m.nx] 44)) w2.heap.size 44 #[.slice b1 m.xs.length d1, .slice b2 m.ys.length d2, .slice b3 m.is.length d3, .slice b4 m.bs.length d4, .slice b5 m.fs.length d5, .slice b6 m.ds.length d6, .int .i64 m.nx] ∧ MO (w2.alloc (.cells #[.slice b1 m.xs.length d1, .slice b2 m.ys.length d2, .slice b3 m.is.length d3, .slice b4 m.bs.length d4, .slice b5 m.fs.length d5, .slice b6 m.ds.length d6, .int .i64 m.nx] 44)) (fun k => w.heap.size + 1 + 1 + 1 ≤ k ∧ k < w2.heap.size) (.slice b1 m.xs.length d1) (.slice b2 m.ys.length d2) (.slice b3 m.is.length d3) (.slice b4 m.bs.length d4) (.slice b5 m.fs.length d5) (.slice b6 m.ds.length d6) m ∧ Below w.heap.size w (w2.alloc (.cells #[.slice b1 m.xs.length d1, .slice b2 m.ys.length d2, .slice b3 m.is.length d3, .slice b4 m.bs.length d4, .slice b5 m.fs.length d5, .slice b6 m.ds.length d6, .int .i64 m.nx] 44)) ∧ (w2.alloc (.cells #[.slice b1 m.xs.length d1, .slice b2 m.ys.length d2, .slice b3 m.is.length d3, .slice b4 m.bs.length d4, .slice b5 m.fs.length d5, .slice b6 m.ds.length d6, .int .i64 m.nx] 44)).heap.size = w2.heap.size + 1) := by
    have q := HC.out (w2.alloc (.cells #[.slice b1 m.xs.length d1, .slice b2 m.ys.length d2, .slice b3 m.is.length d3, .slice b4 m.bs.length d4, .slice b5 m.fs.length d5, .slice b6 m.ds.length d6, .int .i64 m.nx] 44)) (B2.alloc B2.size _)
    exact ⟨q.1, q.2.1, q.2.2.1, AtC.new w2 44 _, O3.alloc _, q.2.2.2.1, by simp⟩
  clear O2 O3 B2
  have hf1 : ¬ ((40 : Int) ≤ (m.ds.length : Int)) := by omega
  have HX := hide hx
  obtain ⟨nx1, nx2⟩ := inB_true hx
  clear hx
  have q1 := HS.out.1
  have q2 := HS.out.2.1
  have x0 : (w2.alloc (.cells #[.slice b1 m.xs.length d1, .slice b2 m.ys.length d2, .slice b3 m.is.length d3, .slice b4 m.bs.length d4, .slice b5 m.fs.length d5, .slice b6 m.ds.length d6, .int .i64 m.nx] 44)).cell? ⟨w.heap.size, 0, none⟩ = some (.slice a1 m.xs.length c1) := q1.cell 0
  have x1 : (w2.alloc (.cells #[.slice b1 m.xs.length d1, .slice b2 m.ys.length d2, .slice b3 m.is.length d3, .slice b4 m.bs.length d4, .slice b5 m.fs.length d5, .slice b6 m.ds.length d6, .int .i64 m.nx] 44)).cell? ⟨w.heap.size, 1, none⟩ = some (.slice a2 m.ys.length c2) := q1.cell 1
  have x2 : (w2.alloc (.cells #[.slice b1 m.xs.length d1, .slice b2 m.ys.length d2, .slice b3 m.is.length d3, .slice b4 m.bs.length d4, .slice b5 m.fs.length d5, .slice b6 m.ds.length d6, .int .i64 m.nx] 44)).cell? ⟨w.heap.size, 2, none⟩ = some (.slice a3 m.is.length c3) := q1.cell 2
  have x3 : (w2.alloc (.cells #[.slice b1 m.xs.length d1, .slice b2 m.ys.length d2, .slice b3 m.is.length d3, .slice b4 m.bs.length d4, .slice b5 m.fs.length d5, .slice b6 m.ds.length d6, .int .i64 m.nx] 44)).cell? ⟨w.heap.size, 3, none⟩ = some (.slice a4 m.bs.length c4) := q1.cell 3
  have x4 : (w2.alloc (.cells #[.slice b1 m.xs.length d1, .slice b2 m.ys.length d2, .slice b3 m.is.length d3, .slice b4 m.bs.length d4, .slice b5 m.fs.length d5, .slice b6 m.ds.length d6, .int .i64 m.nx] 44)).cell? ⟨w.heap.size, 4, none⟩ = some (.slice a5 m.fs.length c5) := q1.cell 4
  have x5 : (w2.alloc (.cells #[.slice b1 m.xs.length d1, .slice b2 m.ys.length d2, .slice b3 m.is.length d3, .slice b4 m.bs.length d4, .slice b5 m.fs.length d5, .slice b6 m.ds.length d6, .int .i64 m.nx] 44)).cell? ⟨w.heap.size, 5, none⟩ = some (.slice a6 m.ds.length c6) := q1.cell 5
  have x6 : (w2.alloc (.cells #[.slice b1 m.xs.length d1, .slice b2 m.ys.length d2, .slice b3 m.is.length d3, .slice b4 m.bs.length d4, .slice b5 m.fs.length d5, .slice b6 m.ds.length d6, .int .i64 m.nx] 44)).cell? ⟨w.heap.size, 6, none⟩ = some (.int .i64 m.nx) := q1.cell 6
  have dd0 : (w2.alloc (.cells #[.slice b1 m.xs.length d1, .slice b2 m.ys.length d2, .slice b3 m.is.length d3, .slice b4 m.bs.length d4, .slice b5 m.fs.length d5, .slice b6 m.ds.length d6, .int .i64 m.nx] 44)).cell? ⟨(w.heap.size + 1), 0, none⟩ = some (.int .i64 id) := q2.cell 0
  have dd1 : (w2.alloc (.cells #[.slice b1 m.xs.length d1, .slice b2 m.ys.length d2, .slice b3 m.is.length d3, .slice b4 m.bs.length d4, .slice b5 m.fs.length d5, .slice b6 m.ds.length d6, .int .i64 m.nx] 44)).cell? ⟨(w.heap.size + 1), 1, none⟩ = some (.int .i64 kd) := q2.cell 1
  have dd2 : (w2.alloc (.cells #[.slice b1 m.xs.length d1, .slice b2 m.ys.length d2, .slice b3 m.is.length d3, .slice b4 m.bs.length d4, .slice b5 m.fs.length d5, .slice b6 m.ds.length d6, .int .i64 m.nx] 44)).cell? ⟨(w.heap.size + 1), 2, none⟩ = some (.int .i64 io) := q2.cell 2
  have dd3 : (w2.alloc (.cells #[.slice b1 m.xs.length d1, .slice b2 m.ys.length d2, .slice b3 m.is.length d3, .slice b4 m.bs.length d4, .slice b5 m.fs.length d5, .slice b6 m.ds.length d6, .int .i64 m.nx] 44)).cell? ⟨(w.heap.size + 1), 3, none⟩ = some (.int .i64 pt) := q2.cell 3
  have dd4 : (w2.alloc (.cells #[.slice b1 m.xs.length d1, .slice b2 m.ys.length d2, .slice b3 m.is.length d3, .slice b4 m.bs.length d4, .slice b5 m.fs.length d5, .slice b6 m.ds.length d6, .int .i64 m.nx] 44)).cell? ⟨(w.heap.size + 1), 4, none⟩ = some (.int .i64 bk) := q2.cell 4
  have dd5 : (w2.alloc (.cells #[.slice b1 m.xs.length d1, .slice b2 m.ys.length d2, .slice b3 m.is.length d3, .slice b4 m.bs.length d4, .slice b5 m.fs.length d5, .slice b6 m.ds.length d6, .int .i64 m.nx] 44)).cell? ⟨(w.heap.size + 1), 5, none⟩ = some (.int .i64 sl) := q2.cell 5
  have dd6 : (w2.alloc (.cells #[.slice b1 m.xs.length d1, .slice b2 m.ys.length d2, .slice b3 m.is.length d3, .slice b4 m.bs.length d4, .slice b5 m.fs.length d5, .slice b6 m.ds.length d6, .int .i64 m.nx] 44)).cell? ⟨(w.heap.size + 1), 6, none⟩ = some (.string nm) := q2.cell 6
  have dd7 : (w2.alloc (.cells #[.slice b1 m.xs.length d1, .slice b2 m.ys.length d2, .slice b3 m.is.length d3, .slice b4 m.bs.length d4, .slice b5 m.fs.length d5, .slice b6 m.ds.length d6, .int .i64 m.nx] 44)).cell? ⟨(w.heap.size + 1), 7, none⟩ = some (.bool bt) := q2.cell 7
  have dd8 : (w2.alloc (.cells #[.slice b1 m.xs.length d1, .slice b2 m.ys.length d2, .slice b3 m.is.length d3, .slice b4 m.bs.length d4, .slice b5 m.fs.length d5, .slice b6 m.ds.length d6, .int .i64 m.nx] 44)).cell? ⟨(w.heap.size + 1), 8, none⟩ = some (.bool ot) := q2.cell 8
  have dd9 : (w2.alloc (.cells #[.slice b1 m.xs.length d1, .slice b2 m.ys.length d2, .slice b3 m.is.length d3, .slice b4 m.bs.length d4, .slice b5 m.fs.length d5, .slice b6 m.ds.length d6, .int .i64 m.nx] 44)).cell? ⟨(w.heap.size + 1), 9, none⟩ = some (.int .i64 af) := q2.cell 9
  have dd10 : (w2.alloc (.cells #[.slice b1 m.xs.length d1, .slice b2 m.ys.length d2, .slice b3 m.is.length d3, .slice b4 m.bs.length d4, .slice b5 m.fs.length d5, .slice b6 m.ds.length d6, .int .i64 m.nx] 44)).cell? ⟨(w.heap.size + 1), 10, none⟩ = some (.slice pa bl.length pc) := q2.cell 10
  have f0 := q2.frozen 0
  clear q1 q2
  go_wp2_with fail
  refine (l01In_any m.nx 1 99999 _).mono ?_
  rintro e w3 ⟨rfl, rfl⟩
  rw [HX.out]
  obtain ⟨W5, hW5⟩ : ∃ W5, (w2.alloc (.cells #[.slice b1 m.xs.length d1, .slice b2 m.ys.length d2, .slice b3 m.is.length d3, .slice b4 m.bs.length d4, .slice b5 m.fs.length d5, .slice b6 m.ds.length d6, .int .i64 m.nx] 44)).setCell ⟨w.heap.size + 1, 0, none⟩ (.int .i64 m.nx) = W5 := ⟨_, rfl⟩
  obtain ⟨b, hb⟩ : ∃ b, w2.heap.size = b := ⟨_, rfl⟩
  have H5 : Hid (AtC W5 w.heap.size 44 #[.slice a1 m.xs.length c1, .slice a2 m.ys.length c2, .slice a3 m.is.length c3, .slice a4 m.bs.length c4, .slice a5 m.fs.length c5, .slice a6 m.ds.length c6, .int .i64 m.nx] ∧ AtC W5 (w.heap.size + 1) 48 #[.int .i64 m.nx, .int .i64 kd, .int .i64 io, .int .i64 pt, .int .i64 bk, .int .i64 sl, .string nm, .bool bt, .bool ot, .int .i64 af, .slice pa bl.length pc] ∧ AtC W5 (w.heap.size + 1 + 1) 44 noM ∧ AtC W5 b 44 #[.slice b1 m.xs.length d1, .slice b2 m.ys.length d2, .slice b3 m.is.length d3, .slice b4 m.bs.length d4, .slice b5 m.fs.length d5, .slice b6 m.ds.length d6, .int .i64 m.nx] ∧ MO W5 (fun k => w.heap.size + 1 + 1 + 1 ≤ k ∧ k < b) (.slice b1 m.xs.length d1) (.slice b2 m.ys.length d2) (.slice b3 m.is.length d3) (.slice b4 m.bs.length d4) (.slice b5 m.fs.length d5) (.slice b6 m.ds.length d6) m ∧ Below w.heap.size w W5 ∧ W5.heap.size = b + 1 ∧ w.heap.size + 1 + 1 + 1 ≤ b) := by
    obtain ⟨k1, k2, k3, k4, k5, k6, k7⟩ := HS.out
    rw [← hW5, ← hb]
    exact ⟨k1.other (by omega) _, k2.set 0 _, k3.other (by omega) _, k4.other (by omega) _, k5.of_heap fun k hk _ => heap_setCell_other _ ⟨w.heap.size + 1, 0, none⟩ k _ (by show k ≠ w.heap.size + 1; omega), k6.setCell (by simp) _, by rw [← k7]; simp, hz2⟩
  have HPR : Hid (RInts (W5.alloc (.cells #[] 3)) (.slice pa bl.length pc) bl) := ((HP.out.below H5.out.2.2.2.2.2.1 (Nat.le_refl _))).alloc _
  have HPL : Hid (bl.length ≤ 100000000000) := Nat.le_trans HL.out (by decide)
  have HSTEP : Hid (∀ (v9 : Value) (w9 : World), w9.ownsRow W5.heap.size 3 1 v9 bl.length (ic bl) → (W5.alloc (.cells #[] 3)).grownBy w9 (Value.slice (some ⟨W5.heap.size, 0, none⟩) 0 0).ownBlock → ∃ pb pd W10 ts, v9 = .slice pb bl.length pd ∧ w9.setCell ⟨w.heap.size + 1, 10, none⟩ (.slice pb bl.length pd) = W10 ∧ AtC w9 (w.heap.size + 1) 48 #[.int .i64 m.nx, .int .i64 kd, .int .i64 io, .int .i64 pt, .int .i64 bk, .int .i64 sl, .string nm, .bool bt, .bool ot, .int .i64 af, .slice pa bl.length pc] ∧ AtC W10 (w.heap.size + 1) 48 #[.int .i64 m.nx, .int .i64 kd, .int .i64 io, .int .i64 pt, .int .i64 bk, .int .i64 sl, .string nm, .bool bt, .bool ot, .int .i64 af, .slice pb bl.length pd] ∧ W10.cell? ⟨b, 5, none⟩ = some (.slice b6 m.ds.length d6) ∧ AtC (W10.alloc (.cells #[.int .i64 m.nx, .int .i64 kd, .int .i64 io, .int .i64 pt, .int .i64 bk, .int .i64 sl, .string nm, .bool bt, .bool ot, .int .i64 af, .slice pb bl.length pd] 48)) W10.heap.size 48 #[.int .i64 m.nx, .int .i64 kd, .int .i64 io, .int .i64 pt, .int .i64 bk, .int .i64 sl, .string nm, .bool bt, .bool ot, .int .i64 af, .slice pb bl.length pd] ∧ NOwns (W10.alloc (.cells #[.int .i64 m.nx, .int .i64 kd, .int .i64 io, .int .i64 pt, .int .i64 bk, .int .i64 sl, .string nm, .bool bt, .bool ot, .int .i64 af, .slice pb bl.length pd] 48)) 48 11 (.slice b6 m.ds.length d6) ts ∧ ts.length = m.ds.length ∧
      ∀ v' w', NOwns w' 48 11 v' (ts ++ [(⟨m.nx, kd, io, pt, bk, sl, nm, bt, ot, af, bl⟩ : Dp).row (.slice pb bl.length pd)]) → (W10.alloc (.cells #[.int .i64 m.nx, .int .i64 kd, .int .i64 io, .int .i64 pt, .int .i64 bk, .int .i64 sl, .string nm, .bool bt, .bool ot, .int .i64 af, .slice pb bl.length pd] 48)).grownBy w' (Value.slice b6 m.ds.length d6).ownBlock → (∀ k, v'.ownBlock = some k → (Value.slice b6 m.ds.length d6).ownBlock = some k ∨ (W10.alloc (.cells #[.int .i64 m.nx, .int .i64 kd, .int .i64 io, .int .i64 pt, .int .i64 bk, .int .i64 sl, .string nm, .bool bt, .bool ot, .int .i64 af, .slice pb bl.length pd] 48)).heap.size ≤ k) →
        AtC w' w.heap.size 44 #[.slice a1 m.xs.length c1, .slice a2 m.ys.length c2, .slice a3 m.is.length c3, .slice a4 m.bs.length c4, .slice a5 m.fs.length c5, .slice a6 m.ds.length c6, .int .i64 m.nx] ∧ AtC w' (w.heap.size + 1) 48 #[.int .i64 m.nx, .int .i64 kd, .int .i64 io, .int .i64 pt, .int .i64 bk, .int .i64 sl, .string nm, .bool bt, .bool ot, .int .i64 af, .slice pb bl.length pd] ∧ AtC w' (w.heap.size + 1 + 1) 44 noM ∧ AtC w' b 44 #[.slice b1 m.xs.length d1, .slice b2 m.ys.length d2, .slice b3 m.is.length d3, .slice b4 m.bs.length d4, .slice b5 m.fs.length d5, .slice b6 m.ds.length d6, .int .i64 m.nx] ∧ MO w' (fun k => w.heap.size + 1 + 1 + 1 ≤ k ∧ k ≠ b) (.slice b1 m.xs.length d1) (.slice b2 m.ys.length d2) (.slice b3 m.is.length d3) (.slice b4 m.bs.length d4) (.slice b5 m.fs.length d5) v' ({ m with ds := m.ds ++ [(⟨m.nx, kd, io, pt, bk, sl, nm, bt, ot, af, bl⟩ : Dp)], nx := m.nx + 1 } : MD) ∧ Below w.heap.size w w') := fun v9 w9 R1 R2 => by
    obtain ⟨k1, k2, k3, k4, k5, k6, k7, k8⟩ := H5.out
    obtain ⟨pb, pd, rfl⟩ : ∃ pb pd, v9 = .slice pb bl.length pd := by
      rcases R1.2 with ⟨h1, h0⟩ | ⟨g, cap, cur, h1, -⟩
      · exact ⟨none, 0, by rw [h1, h0]⟩
      · exact ⟨_, _, h1⟩
    have O9 : ROwns w9 W5.heap.size 3 (.slice pb bl.length pd) (ic bl) := by unfold ROwns; rw [ic_length]; exact R1
    have B9 : Below W5.heap.size W5 w9 := below_of_append ((Below.refl _ W5).alloc (Nat.le_refl _) _) (by simp) R2 (fun k hk => by simp [Value.ownBlock] at hk; omega)
    have hs9 := B9.size
    have K9 := k2.over B9
    have O10 : ROwns ((w9.setCell ⟨w.heap.size + 1, 10, none⟩ (.slice pb bl.length pd)).alloc (.cells #[.int .i64 m.nx, .int .i64 kd, .int .i64 io, .int .i64 pt, .int .i64 bk, .int .i64 sl, .string nm, .bool bt, .bool ot, .int .i64 af, .slice pb bl.length pd] 48)) W5.heap.size 3 (.slice pb bl.length pd) (ic bl) := (O9.setCell_other (by omega) _).alloc _
    have hm : ∀ k, (w.heap.size + 1 + 1 + 1 ≤ k ∧ k < b) → k < W5.heap.size → ((w9.setCell ⟨w.heap.size + 1, 10, none⟩ (.slice pb bl.length pd)).alloc (.cells #[.int .i64 m.nx, .int .i64 kd, .int .i64 io, .int .i64 pt, .int .i64 bk, .int .i64 sl, .string nm, .bool bt, .bool ot, .int .i64 af, .slice pb bl.length pd] 48)).heap[k]? = W5.heap[k]? := fun k hk hlt => by
      have e1 : ((w9.setCell ⟨w.heap.size + 1, 10, none⟩ (.slice pb bl.length pd)).alloc (.cells #[.int .i64 m.nx, .int .i64 kd, .int .i64 io, .int .i64 pt, .int .i64 bk, .int .i64 sl, .string nm, .bool bt, .bool ot, .int .i64 af, .slice pb bl.length pd] 48)).heap[k]? = (w9.setCell ⟨w.heap.size + 1, 10, none⟩ (.slice pb bl.length pd)).heap[k]? := ((Below.refl _ _).alloc (Nat.le_refl _) _).block k (by simp; omega)
      rw [e1, heap_setCell_other _ ⟨w.heap.size + 1, 10, none⟩ k _ (by show k ≠ w.heap.size + 1; omega)]
      exact B9.block k hlt
    obtain ⟨ts, t1, t2, t3⟩ := (k5.of_heap hm).appE
    have hz : ((w9.setCell ⟨w.heap.size + 1, 10, none⟩ (.slice pb bl.length pd)).alloc (.cells #[.int .i64 m.nx, .int .i64 kd, .int .i64 io, .int .i64 pt, .int .i64 bk, .int .i64 sl, .string nm, .bool bt, .bool ot, .int .i64 af, .slice pb bl.length pd] 48)).heap.size = w9.heap.size + 1 := by simp
    refine ⟨pb, pd, _, ts, rfl, rfl, K9, K9.set 10 _, ((k4.over B9).other (by omega) _).cell 5, AtC.new _ 48 _, t1, t2, fun v' w' h1 h2 h3 => ?_⟩
    have hown : ∀ k, (Value.slice b6 m.ds.length d6).ownBlock = some k → w.heap.size + 1 + 1 + 1 ≤ k ∧ k < b := fun k hk => MO.soP k5 k hk
    have hst : ∀ (q T : Nat) (cs : Array Value), q < W5.heap.size → ¬ (w.heap.size + 1 + 1 + 1 ≤ q ∧ q < b) → AtC ((w9.setCell ⟨w.heap.size + 1, 10, none⟩ (.slice pb bl.length pd)).alloc (.cells #[.int .i64 m.nx, .int .i64 kd, .int .i64 io, .int .i64 pt, .int .i64 bk, .int .i64 sl, .string nm, .bool bt, .bool ot, .int .i64 af, .slice pb bl.length pd] 48)) q T cs → AtC w' q T cs := fun q T cs hq hn h => h.grown h2 (fun e => hn (hown q e))
    refine ⟨hst _ _ _ (by omega) (by omega) (((k1.over B9).other (by omega) _).alloc _), hst _ _ _ (by omega) (by omega) ((K9.set 10 _).alloc _), hst _ _ _ (by omega) (by omega) (((k3.over B9).other (by omega) _).alloc _), hst _ _ _ (by omega) (by omega) (((k4.over B9).other (by omega) _).alloc _), (t3 w' v' _ (⟨m.nx, kd, io, pt, bk, sl, nm, bt, ot, af, bl⟩ : Dp) ⟨_, rfl, O10.base_le (Nat.zero_le _)⟩ (fun k hk => by have := (O10.lt k hk).1; omega) h1 h2 h3 _).mono fun k hk => ?_, ?_⟩
    · rcases hk with hk | hk | hk
      · omega
      · have := (O10.lt k hk).1; omega
      · rw [hz] at hk; omega
    · exact (((k6.trans (B9.mono k6.size)).setCell (by simp) _).alloc (by simp; omega) _).grown h2 (by simp; omega) (fun k hk => by have := hown k hk; omega)
  have hb3 : w.heap.size + 1 + 1 + 1 ≤ b := H5.out.2.2.2.2.2.2.2
  have g6 := H5.out.1
  have x6' : W5.cell? ⟨w.heap.size, 6, none⟩ = some (.int .i64 m.nx) := g6.cell 6
  have d10' : W5.cell? ⟨w.heap.size + 1, 10, none⟩ = some (.slice pa bl.length pc) := H5.out.2.1.cell 10
  have d10a : (W5.alloc (.cells #[] 3)).cell? ⟨w.heap.size + 1, 10, none⟩ = some (.slice pa bl.length pc) := (H5.out.2.1.alloc _).cell 10
  clear g6 HS HC hz2
  go_wp2_with (first | (at_builtin; refine wpList_append_copy _ rfl _ _ 32 rfl W5.heap.size 3 Tryz.underlying32 _ 1 8 Tryz.i3 rfl (by decide) (by decide) (.slice (some ⟨W5.heap.size, 0, none⟩) 0 0) rfl (lit0_any W5 3 1) (by simp) _ rfl bl.length (ic bl) HPR.out.rc (by rw [ic_length, Nat.mul_one]) (ic_one bl) HPL.out ?_; intro v9 w9 R1 R2 R3; obtain ⟨pb, pd, W10, ts, rfl, hW10, K9, K10, cb5, K11, T11, L11, S11⟩ := HSTEP.out v9 w9 R1 R2; have y10 : w9.cell? ⟨w.heap.size + 1, 10, none⟩ = some (.slice pa bl.length pc) := K9.cell 10; have yf := K9.frozen 10; have kc0 : W10.cell? ⟨w.heap.size + 1, 0, none⟩ = some (.int .i64 m.nx) := K10.cell 0; have kc1 : W10.cell? ⟨w.heap.size + 1, 1, none⟩ = some (.int .i64 kd) := K10.cell 1; have kc2 : W10.cell? ⟨w.heap.size + 1, 2, none⟩ = some (.int .i64 io) := K10.cell 2; have kc3 : W10.cell? ⟨w.heap.size + 1, 3, none⟩ = some (.int .i64 pt) := K10.cell 3; have kc4 : W10.cell? ⟨w.heap.size + 1, 4, none⟩ = some (.int .i64 bk) := K10.cell 4; have kc5 : W10.cell? ⟨w.heap.size + 1, 5, none⟩ = some (.int .i64 sl) := K10.cell 5; have kc6 : W10.cell? ⟨w.heap.size + 1, 6, none⟩ = some (.string nm) := K10.cell 6; have kc7 : W10.cell? ⟨w.heap.size + 1, 7, none⟩ = some (.bool bt) := K10.cell 7; have kc8 : W10.cell? ⟨w.heap.size + 1, 8, none⟩ = some (.bool ot) := K10.cell 8; have kc9 : W10.cell? ⟨w.heap.size + 1, 9, none⟩ = some (.int .i64 af) := K10.cell 9; have kc10 : W10.cell? ⟨w.heap.size + 1, 10, none⟩ = some (.slice pb bl.length pd) := K10.cell 10; have HK11 := hide K11; have HT11 := hide T11; have HS11 := hide S11; have HL11 : Hid (ts.length ≤ 100000000000) := (by have := L11; show ts.length ≤ _; omega); have HLL := hide L11; clear R1 R2 R3 K9 K10 K11 T11 S11 L11) | (at_builtin; refine wpList_step fun K' hK' => ?_; refine step_append_n _ rfl (.tmp 29) (.tmp 31) 42 rfl 48 Tryz.u42 _ 11 104 Tryz.i48 rfl (by decide) (by decide) (.slice b6 m.ds.length d6) ts rfl HT11.out W10.heap.size ((⟨m.nx, kd, io, pt, bk, sl, nm, bt, ot, af, bl⟩ : Dp).row (.slice pb bl.length pd)) rfl rfl (fun i u hu => (HK11.out.at_ i u hu)) (by simp [Dp.row, Value.oneCell']) HL11.out ?_; intro v12 w12 T12 G12 V12; refine hK' _ _ ?_; have D12 := HS11.out v12 w12 T12 G12 V12; obtain ⟨g12, c12, rfl, -⟩ := T12.form; generalize (ts ++ [(⟨m.nx, kd, io, pt, bk, sl, nm, bt, ot, af, bl⟩ : Dp).row (.slice pb bl.length pd)]).length = LL at *; have z5 : w12.cell? ⟨b, 5, none⟩ = some (.slice b6 m.ds.length d6) := D12.2.2.2.1.cell 5; have zf5 := D12.2.2.2.1.frozen 5; obtain ⟨W13, W14, hW13, hW14, y6, zf6, x6b, HF⟩ := put_fin hb3 D12 (m.nx + 1); clear T12 G12 V12 D12 hK'))
  have j2 := HF.out.1
  have j3 := HF.out.2.1
  have j4 := HF.out.2.2.1
  have i0 : W14.cell? ⟨w.heap.size + 1, 0, none⟩ = some (.int .i64 m.nx) := j2.cell 0
  have y0 : W14.cell? ⟨b, 0, none⟩ = some (.slice b1 m.xs.length d1) := j4.cell 0
  have y1 : W14.cell? ⟨b, 1, none⟩ = some (.slice b2 m.ys.length d2) := j4.cell 1
  have y2 : W14.cell? ⟨b, 2, none⟩ = some (.slice b3 m.is.length d3) := j4.cell 2
  have y3 : W14.cell? ⟨b, 3, none⟩ = some (.slice b4 m.bs.length d4) := j4.cell 3
  have y4 : W14.cell? ⟨b, 4, none⟩ = some (.slice b5 m.fs.length d5) := j4.cell 4
  have y5 : W14.cell? ⟨b, 5, none⟩ = some (.slice g12 LL c12) := j4.cell 5
  have y6 : W14.cell? ⟨b, 6, none⟩ = some (.int .i64 (m.nx + 1)) := j4.cell 6
  have r0 : W14.cell? ⟨(w.heap.size + 1 + 1), 0, none⟩ = some (.slice none 0 0) := j3.cell 0
  have r1 : W14.cell? ⟨(w.heap.size + 1 + 1), 1, none⟩ = some (.slice none 0 0) := j3.cell 1
  have r2 : W14.cell? ⟨(w.heap.size + 1 + 1), 2, none⟩ = some (.slice none 0 0) := j3.cell 2
  have r3 : W14.cell? ⟨(w.heap.size + 1 + 1), 3, none⟩ = some (.slice none 0 0) := j3.cell 3
  have r4 : W14.cell? ⟨(w.heap.size + 1 + 1), 4, none⟩ = some (.slice none 0 0) := j3.cell 4
  have r5 : W14.cell? ⟨(w.heap.size + 1 + 1), 5, none⟩ = some (.slice none 0 0) := j3.cell 5
  have r6 : W14.cell? ⟨(w.heap.size + 1 + 1), 6, none⟩ = some (.int .i64 0) := j3.cell 6
  have v0 := j3.frozen 0
  have v1 := j3.frozen 1
  have v2 := j3.frozen 2
  have v3 := j3.frozen 3
  have v4 := j3.frozen 4
  have v5 := j3.frozen 5
  have v6 := j3.frozen 6
  have HM : Hid (MO ((((((((W14.setCell ⟨(w.heap.size + 1 + 1), 0, none⟩ (.slice b1 m.xs.length d1)).setCell ⟨(w.heap.size + 1 + 1), 1, none⟩ (.slice b2 m.ys.length d2)).setCell ⟨(w.heap.size + 1 + 1), 2, none⟩ (.slice b3 m.is.length d3)).setCell ⟨(w.heap.size + 1 + 1), 3, none⟩ (.slice b4 m.bs.length d4)).setCell ⟨(w.heap.size + 1 + 1), 4, none⟩ (.slice b5 m.fs.length d5)).setCell ⟨(w.heap.size + 1 + 1), 5, none⟩ (.slice g12 LL c12)).setCell ⟨(w.heap.size + 1 + 1), 6, none⟩ (.int .i64 (m.nx + 1)))).drew (fun k => w.heap.size ≤ k) (.slice b1 m.xs.length d1) (.slice b2 m.ys.length d2) (.slice b3 m.is.length d3) (.slice b4 m.bs.length d4) (.slice b5 m.fs.length d5) (.slice g12 LL c12) ({ m with ds := m.ds ++ [(⟨m.nx, kd, io, pt, bk, sl, nm, bt, ot, af, bl⟩ : Dp)], nx := m.nx + 1 } : MD) ∧ Below w.heap.size w ((((((((W14.setCell ⟨(w.heap.size + 1 + 1), 0, none⟩ (.slice b1 m.xs.length d1)).setCell ⟨(w.heap.size + 1 + 1), 1, none⟩ (.slice b2 m.ys.length d2)).setCell ⟨(w.heap.size + 1 + 1), 2, none⟩ (.slice b3 m.is.length d3)).setCell ⟨(w.heap.size + 1 + 1), 3, none⟩ (.slice b4 m.bs.length d4)).setCell ⟨(w.heap.size + 1 + 1), 4, none⟩ (.slice b5 m.fs.length d5)).setCell ⟨(w.heap.size + 1 + 1), 5, none⟩ (.slice g12 LL c12)).setCell ⟨(w.heap.size + 1 + 1), 6, none⟩ (.int .i64 (m.nx + 1)))).drew) := by
    exact ⟨(((HF.out.2.2.2.1.of_heap fun k hk _ => ((((((heap_setCell_other _ ⟨(w.heap.size + 1 + 1), 6, none⟩ k _ (by show k ≠ (w.heap.size + 1 + 1); omega)).trans (heap_setCell_other _ ⟨(w.heap.size + 1 + 1), 5, none⟩ k _ (by show k ≠ (w.heap.size + 1 + 1); omega))).trans (heap_setCell_other _ ⟨(w.heap.size + 1 + 1), 4, none⟩ k _ (by show k ≠ (w.heap.size + 1 + 1); omega))).trans (heap_setCell_other _ ⟨(w.heap.size + 1 + 1), 3, none⟩ k _ (by show k ≠ (w.heap.size + 1 + 1); omega))).trans (heap_setCell_other _ ⟨(w.heap.size + 1 + 1), 2, none⟩ k _ (by show k ≠ (w.heap.size + 1 + 1); omega))).trans (heap_setCell_other _ ⟨(w.heap.size + 1 + 1), 1, none⟩ k _ (by show k ≠ (w.heap.size + 1 + 1); omega))).trans (heap_setCell_other _ ⟨(w.heap.size + 1 + 1), 0, none⟩ k _ (by show k ≠ (w.heap.size + 1 + 1); omega))).mono fun k hk => by omega).below (Below.refl _ _).drew (Nat.le_refl _)), ((((((((HF.out.2.2.2.2).setCell (by show w.heap.size ≤ w.heap.size + 1 + 1; omega) _).setCell (by show w.heap.size ≤ w.heap.size + 1 + 1; omega) _).setCell (by show w.heap.size ≤ w.heap.size + 1 + 1; omega) _).setCell (by show w.heap.size ≤ w.heap.size + 1 + 1; omega) _).setCell (by show w.heap.size ≤ w.heap.size + 1 + 1; omega) _).setCell (by show w.heap.size ≤ w.heap.size + 1 + 1; omega) _).setCell (by show w.heap.size ≤ w.heap.size + 1 + 1; omega) _).drew⟩
  clear j2 j3 j4 HF H5 HSTEP HPR HPL HK11 HT11 HS11 HL11 HLL
  go_region
  go_wp2
  refine bodyPost_ret (v := .tuple #[.agg #[.slice b1 m.xs.length d1, .slice b2 m.ys.length d2, .slice b3 m.is.length d3, .slice b4 m.bs.length d4, .slice b5 m.fs.length d5, .slice g12 LL c12, .int .i64 (m.nx + 1)], .int .i64 m.nx]) (by simp [results, go_sem, r0, r1, r2, r3, r4, r5, r6]) rfl ⟨_, _, _, _, _, _, rfl, HM.out.1, HM.out.2⟩

end Go.Proofs.YtaoachljojbnjaaGreat
