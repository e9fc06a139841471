/- Texts of the proof, bundled: Mr, Rg, Rh, Fd, Tp, Idl, Ua, Tw. -/
import Derived.RegionTactic
import Derived.Deep.RegionHeld
import Derived.BigQuiet
import Derived.Deep.AppendLies
import Derived.Deep.Upon
import Derived.Deep.DeepCutAuto
import Derived.Deep.CutRange
import Derived.BigRegion
import Derived.Handy
import Derived.Test.YtljooldjcefkoaaGreatU01
import Derived.Test.YtljooldjcefkoaaGreatU06
/- A region whose order is drawn, in which several operations make memory, each by itself, and the rest goes in one order: one obligation for each maker, one for the rest, whatever the order. No Go function is spoken of. -/
namespace Go.Proofs.YtljooldjcefkoaaGreat.Kit
open Go.RowKit
/-- All lists that a list comes to when some are left out. -/
def subs : List Nat → List (List Nat)
  | [] => [[]]
  | x :: r => subs r ++ (subs r).map fun t => x :: t
theorem filter_subs (p : Nat → Bool) (js : List Nat) : js.filter p ∈ subs js := by
  induction js with
  | nil => simp [subs]
  | cons x r ih =>
    rw [subs, List.mem_append]
    by_cases h : p x = true
    · rw [List.filter_cons_of_pos h]
      exact .inr (List.mem_map.2 ⟨_, ih, rfl⟩)
    · rw [List.filter_cons_of_neg h]
      exact .inl ih
/-- Which of n operations are done. -/
def mask (n : Nat) (s : List Nat) : Array Bool := ((List.range n).map fun i => s.contains i).toArray
theorem mask_set (n : Nat) (s : List Nat) (j : Nat) : (mask n s).setIfInBounds j true = mask n (j :: s) := by
  apply Array.ext
  · simp [mask]
  · intro i h1 h2
    simp only [mask, Array.size_setIfInBounds, List.size_toArray, List.length_map, List.length_range] at h1
    rw [Array.getElem_setIfInBounds (by simpa [mask] using h1)]
    simp only [mask, List.getElem_toArray, List.getElem_map, List.getElem_range, List.contains_cons]
    by_cases e : j = i
    · simp [e]
    · have e' : (i == j) = false := by simp; omega
      simp [e, e']
theorem mask_congr (n : Nat) (s s' : List Nat) (h : ∀ i, i ∈ s ↔ i ∈ s') : mask n s = mask n s' := by
  have e : (fun i => s.contains i) = fun i => s'.contains i := by
    funext i
    have := h i
    by_cases hi : i ∈ s
    · simp [hi, this.1 hi]
    · have : ¬ i ∈ s' := fun q => hi (this.2 q)
      simp [hi, this]
  rw [mask, mask, e]
theorem mask_nil (n : Nat) : mask n [] = Array.replicate n false := by
  apply Array.ext
  · simp [mask]
  · intro i h1 h2
    simp [mask]
def upd {α : Type} (x : Nat → α) (j : Nat) (v : α) : Nat → α := fun i => if i = j then v else x i
theorem upd_self {α : Type} (x : Nat → α) (j : Nat) (v : α) : upd x j v j = v := if_pos rfl
theorem upd_ne {α : Type} (x : Nat → α) (j i : Nat) (v : α) (h : i ≠ j) : upd x j v i = x i := if_neg h
/-- Of the makers s that are done: what each made, in blocks of its own from .1 up to .2. -/
structure PI (W0 : World) (s : List Nat) (Post : Nat → Nat → Nat → World → Value → Prop) (x : Nat → Value) (iv : Nat → Nat × Nat) (w : World) : Prop where
  bel : Below W0.heap.size W0 w
  post : ∀ i ∈ s, Post i (iv i).1 (iv i).2 w (x i)
  lo : ∀ i ∈ s, W0.heap.size ≤ (iv i).1 ∧ (iv i).1 ≤ (iv i).2 ∧ (iv i).2 ≤ w.heap.size
  apart : ∀ i ∈ s, ∀ j ∈ s, i ≠ j → (iv i).2 ≤ (iv j).1 ∨ (iv j).2 ≤ (iv i).1
theorem PI.add {W0 : World} {s : List Nat} {Post : Nat → Nat → Nat → World → Value → Prop} {x : Nat → Value} {iv : Nat → Nat × Nat} {w w' : World} {j : Nat} {v : Value} (h : PI W0 s Post x iv w)
    (stable : ∀ i lo hi w w' v, Post i lo hi w v → Below w.heap.size w w' → Post i lo hi w' v) (hj : ¬ j ∈ s) (hb : Below w.heap.size w w') (hp : Post j w.heap.size w'.heap.size w' v) :
    PI W0 (j :: s) Post (upd x j v) (upd iv j (w.heap.size, w'.heap.size)) w' := by
  have hs := h.bel.size
  have hs2 := hb.size
  have ne : ∀ i ∈ s, i ≠ j := fun i hi e => hj (e ▸ hi)
  refine ⟨h.bel.trans (hb.mono hs), fun i hi => ?_, fun i hi => ?_, fun i hi k hk hne => ?_⟩
  · rcases List.mem_cons.1 hi with rfl | hi
    · rw [upd_self, upd_self]; exact hp
    · rw [upd_ne _ _ _ _ (ne i hi), upd_ne _ _ _ _ (ne i hi)]; exact stable _ _ _ _ _ _ (h.post i hi) hb
  · rcases List.mem_cons.1 hi with rfl | hi
    · rw [upd_self]; exact ⟨hs, hs2, Nat.le_refl _⟩
    · rw [upd_ne _ _ _ _ (ne i hi)]; have := h.lo i hi; omega
  · rcases List.mem_cons.1 hi with ei | hi2
    · rcases List.mem_cons.1 hk with ek | hk2
      · exact absurd (ei.trans ek.symm) hne
      · rw [ei, upd_self, upd_ne _ _ _ _ (ne k hk2)]; exact .inr (h.lo k hk2).2.2
    · rcases List.mem_cons.1 hk with ek | hk2
      · rw [ek, upd_self, upd_ne _ _ _ _ (ne i hi2)]; exact .inl (h.lo i hi2).2.2
      · replace hi := hi2
        replace hk := hk2
        rw [upd_ne _ _ _ _ (ne i hi), upd_ne _ _ _ _ (ne k hk)]; exact h.apart i hi k hk hne
theorem PI.of_mem {W0 : World} {s s' : List Nat} {Post : Nat → Nat → Nat → World → Value → Prop} {x : Nat → Value} {iv : Nat → Nat × Nat} {w : World} (h : PI W0 s Post x iv w) (hs : ∀ i ∈ s', i ∈ s) : PI W0 s' Post x iv w :=
  ⟨h.bel, fun i hi => h.post i (hs i hi), fun i hi => h.lo i (hs i hi), fun i hi j hj => h.apart i (hs i hi) j (hs j hj)⟩
/-- What each of t waits for is in t. -/
def closedB (md : Region.Mode) (ops : Array Oper) (t : List Nat) : Bool := t.all fun i => match ops[i]? with | some o => o.after.all fun e => !Region.binds md e || t.contains e.on | none => true
/-- At each state of the makers some are ready, and no other operation is. -/
def makersOk (md : Region.Mode) (ops : Array Oper) (js : List Nat) : Bool :=
  (subs js).all fun t => t == js || !closedB md ops t || (!(Region.ready md ops (mask ops.size t)).isEmpty && (Region.ready md ops (mask ops.size t)).all fun i => js.contains i && !t.contains i)
/-- Behind them the others come in this order. -/
def lineOk (md : Region.Mode) (ops : Array Oper) : List Nat → List Nat → Bool
  | s, [] => (Region.ready md ops (mask ops.size s)).isEmpty
  | s, i :: r => (Region.ready md ops (mask ops.size s) == [i]) && (ops[i]?).isSome && lineOk md ops (i :: s) r
section
variable {P : Program} {ops : Array Oper} {Q : Exit → Act → World → Prop} {md : Region.Mode}
theorem wpAny_line : ∀ (line s : List Nat) (fuel : Nat) (a : Act) (w : World), lineOk md ops s line = true → line.length ≤ fuel → wpList P ops Q (line.filterMap fun i => ops[i]?) a w → wpAny P md ops Q fuel (mask ops.size s) a w
  | [], s, fuel, a, w, h, _, hw => wpAny_done (by simpa [lineOk] using h) (by simpa [wpList] using hw) fuel
  | i :: r, s, 0, a, w, _, hl, _ => by simp at hl
  | i :: r, s, fuel + 1, a, w, h, hl, hw => by
    simp only [lineOk, Bool.and_eq_true, beq_iff_eq] at h
    obtain ⟨⟨h1, h2⟩, h3⟩ := h
    obtain ⟨o, ho⟩ := Option.isSome_iff_exists.1 h2
    have ih := fun a w hw => wpAny_line r (i :: s) fuel a w h3 (by simpa using hl) hw
    refine wpAny_all h1 (by simp) fun j hj => ?_
    obtain rfl : j = i := by simpa using hj
    rw [mask_set]
    have hw' : wpList P ops Q (o :: r.filterMap fun i => ops[i]?) a w := by simpa [ho] using hw
    refine wpOp_mono (fun a w => ih a w) ?_
    unfold wpOp
    rw [ho]
    exact hw'
/-- What an operation that is ready waits for is done. -/
theorem ready_dep {n : Nat} {s : List Nat} {j : Nat} (h : j ∈ Region.ready md ops (mask n s)) {o : Oper} (ho : ops[j]? = some o) {k : Nat} (he : ∃ e ∈ o.after, e.on = k ∧ Region.binds md e = true) : k ∈ s := by
  obtain ⟨-, o', ho', hall⟩ := mem_ready.1 h
  rw [ho] at ho'
  cases ho'
  obtain ⟨e, he1, rfl, he2⟩ := he
  have := hall e he1 he2
  rw [mask] at this
  by_cases hn : e.on < n
  · simpa [Array.getD, hn] using this
  · simp [Array.getD, hn] at this
theorem wpAny_makers (js : List Nat) (fuel : Nat) (act : (Nat → Value) → Act) (W0 : World) (Post : Nat → Nat → Nat → World → Value → Prop) (Inv : List Nat → (Nat → Value) → World → Prop)
    (stable : ∀ i lo hi w w' v, Post i lo hi w v → Below w.heap.size w w' → Post i lo hi w' v) (ok : makersOk md ops js = true)
    (prod : ∀ j ∈ js, ∀ s x iv W, j ∈ Region.ready md ops (mask ops.size s) → ¬ j ∈ s → PI W0 s Post x iv W → Inv s x W → ∀ K : Act → World → Prop, (∀ v W', Below W.heap.size W W' → Post j W.heap.size W'.heap.size W' v → Inv (j :: s) (upd x j v) W' → K (act (upd x j v)) W') → wpOp P ops Q j K (act x) W)
    (rest : ∀ s x iv W f, fuel ≤ f → (∀ i ∈ js, i ∈ s) → PI W0 js Post x iv W → Inv s x W → wpAny P md ops Q f (mask ops.size js) (act x) W) :
    ∀ (m f : Nat) (s : List Nat) (x : Nat → Value) (iv : Nat → Nat × Nat) (W : World), (js.filter fun i => !s.contains i).length ≤ m → fuel ≤ f → (∀ i ∈ s, i ∈ js) → (∀ i ∈ s, ∀ o, ops[i]? = some o → ∀ e ∈ o.after, Region.binds md e = true → e.on ∈ s) → PI W0 s Post x iv W → Inv s x W → wpAny P md ops Q (f + m) (mask ops.size s) (act x) W := by
  intro m
  induction m with
  | zero =>
    intro f s x iv W hc hf hs hcl hp hv
    have hall : ∀ i ∈ js, i ∈ s := fun i hi => by
      by_cases h : i ∈ s
      · exact h
      · have : i ∈ js.filter fun i => !s.contains i := List.mem_filter.2 ⟨hi, by simpa using h⟩
        rw [List.eq_nil_of_length_eq_zero (Nat.le_zero.1 hc)] at this
        cases this
    rw [mask_congr ops.size s js fun i => ⟨hs i, hall i⟩]
    exact rest s x iv W (f + 0) (by omega) hall (hp.of_mem hall) hv
  | succ m ih =>
    intro f s x iv W hc hf hs hcl hp hv
    by_cases hall : ∀ i ∈ js, i ∈ s
    · rw [mask_congr ops.size s js fun i => ⟨hs i, hall i⟩]
      exact rest s x iv W _ (by omega) hall (hp.of_mem hall) hv
    · have hmask : mask ops.size s = mask ops.size (js.filter fun i => s.contains i) := mask_congr _ _ _ fun i => ⟨fun h => List.mem_filter.2 ⟨hs i h, by simpa using h⟩, fun h => by simpa using (List.mem_filter.1 h).2⟩
      have hk := List.all_eq_true.1 ok _ (filter_subs (fun i => s.contains i) js)
      have hne : ((js.filter fun i => s.contains i) == js) = false := by
        apply Bool.eq_false_iff.2
        intro e
        rw [beq_iff_eq] at e
        exact hall fun i hi => by
          rw [← e] at hi
          simpa using (List.mem_filter.1 hi).2
      have hclo : closedB md ops (js.filter fun i => s.contains i) = true := by
        refine List.all_eq_true.2 fun i hi => ?_
        have his : i ∈ s := by simpa using (List.mem_filter.1 hi).2
        cases ho : ops[i]? with
        | none => rfl
        | some o =>
          simp only
          refine Array.all_eq_true_iff_forall_mem.2 fun e he => ?_
          cases hbi : Region.binds md e with
          | false => rfl
          | true =>
            have := hcl i his o ho e he hbi
            simp [this, hs _ this]
      rw [hne, hclo, Bool.false_or, Bool.not_true, Bool.false_or, Bool.and_eq_true] at hk
      obtain ⟨h1, h2⟩ := hk
      rw [← hmask] at h1 h2
      refine wpAny_all rfl (by intro e; rw [e] at h1; simp at h1) fun j hj => ?_
      have hj2 := List.all_eq_true.1 h2 j hj
      simp only [Bool.and_eq_true, List.contains_iff_mem, Bool.not_eq_true'] at hj2
      have hjs : j ∈ js := by simpa using hj2.1
      have hjn : ¬ j ∈ s := fun h => by
        have : j ∈ js.filter fun i => s.contains i := List.mem_filter.2 ⟨hjs, by simpa using h⟩
        have h3 := hj2.2
        simp [hjs, h] at h3
      rw [mask_set]
      refine prod j hjs s x iv W hj hjn hp hv _ fun v W' hb hpo hv' => ih f (j :: s) _ _ W' ?_ hf (fun i hi => (List.mem_cons.1 hi).elim (fun e => e ▸ hjs) (hs i)) (fun i hi o ho e he hbi => List.mem_cons_of_mem _ ((List.mem_cons.1 hi).elim (fun q => by subst q; exact ready_dep hj ho ⟨e, he, rfl, hbi⟩) (fun q => hcl i q o ho e he hbi))) (hp.add stable hjn hb hpo) hv'
      have hlt : (js.filter fun i => !(j :: s).contains i).length < (js.filter fun i => !s.contains i).length := by
        have e : (js.filter fun i => !(j :: s).contains i) = (js.filter fun i => !s.contains i).filter fun i => !(i == j) := by
          rw [List.filter_filter]
          apply List.filter_congr
          intro i _
          by_cases e1 : i = j <;> by_cases e2 : i ∈ s <;> simp [e1, e2]
        rw [e, List.length_filter_lt_length_iff_exists]
        exact ⟨j, List.mem_filter.2 ⟨hjs, by simpa using hjn⟩, by simp⟩
      omega
/-- The region, whatever order is drawn. -/
theorem wp_region_makers {id : Nat} {w : World} {a0 : Act} (hm : P.follows .mixedOrders = true) (js line : List Nat) (act : (Nat → Value) → Act) (x0 : Nat → Value) (ha : a0 = act x0) (Post : Nat → Nat → Nat → World → Value → Prop) (Inv : List Nat → (Nat → Value) → World → Prop)
    (stable : ∀ i lo hi w w' v, Post i lo hi w v → Below w.heap.size w w' → Post i lo hi w' v) (ok : makersOk .any ops js = true) (okl : lineOk .any ops js line = true) (hsz : line.length + js.length = ops.size) (hv : Inv [] x0 w.drew)
    (prod : ∀ j ∈ js, ∀ s x iv W, j ∈ Region.ready .any ops (mask ops.size s) → ¬ j ∈ s → PI w.drew s Post x iv W → Inv s x W → ∀ K : Act → World → Prop, (∀ v W', Below W.heap.size W W' → Post j W.heap.size W'.heap.size W' v → Inv (j :: s) (upd x j v) W' → K (act (upd x j v)) W') → wpOp P ops Q j K (act x) W)
    (rest : ∀ s x iv W, (∀ i ∈ js, i ∈ s) → PI w.drew js Post x iv W → Inv s x W → wpList P ops Q (line.filterMap fun i => ops[i]?) (act x) W) : (Code.region id ops true).wp P Q a0 w := by
  subst ha
  refine wp_region_any hm ?_
  have h := wpAny_makers (P := P) (Q := Q) (md := .any) js line.length act w.drew Post Inv stable ok prod (fun s x iv W f hf hs hp hi => wpAny_line line js f (act x) W okl hf (rest s x iv W hs hp hi)) js.length line.length [] x0 (fun _ => (0, 0)) w.drew (List.length_filter_le _ _) (Nat.le_refl _) (fun i hi => by cases hi) (fun i hi => by cases hi) ⟨Below.refl _ _, (fun i hi => by cases hi), (fun i hi => by cases hi), (fun i hi => by cases hi)⟩ hv
  rw [hsz, mask_nil] at h
  exact h
end
end Go.Proofs.YtljooldjcefkoaaGreat.Kit
/- A drawn region whose operations only read and make memory, ahead of a line of others: each is told once, by what it yields out of what it waits for. No Go function is spoken of. -/
namespace Go.Proofs.YtljooldjcefkoaaGreat.Kit
open Go.RowKit
/-- What is done so far: each yielded what is told of it, in an interval of new blocks of its own. -/
structure PX (W0 : World) (s : List Nat) (Po : Nat → Nat → Nat → World → (Nat → Value) → Prop) (x : Nat → Value) (iv : Nat → Nat × Nat) (w : World) : Prop where
  bel : Below W0.heap.size W0 w
  post : ∀ i ∈ s, Po i (iv i).1 (iv i).2 w x
  lo : ∀ i ∈ s, W0.heap.size ≤ (iv i).1 ∧ (iv i).1 ≤ (iv i).2 ∧ (iv i).2 ≤ w.heap.size
  apart : ∀ i ∈ s, ∀ j ∈ s, i ≠ j → (iv i).2 ≤ (iv j).1 ∨ (iv j).2 ≤ (iv i).1
theorem PX.add {W0 : World} {s : List Nat} {Po : Nat → Nat → Nat → World → (Nat → Value) → Prop} {x : Nat → Value} {iv : Nat → Nat × Nat} {w w' : World} {j : Nat} {v : Value} (deps : Nat → List Nat) (h : PX W0 s Po x iv w)
    (stable : ∀ i lo hi w w' x, Po i lo hi w x → Below w.heap.size w w' → Po i lo hi w' x) (cong : ∀ i lo hi w x x', x i = x' i → (∀ k ∈ deps i, x k = x' k) → Po i lo hi w x → Po i lo hi w x')
    (hcl : ∀ i ∈ s, ∀ k ∈ deps i, k ∈ s) (hj : ¬ j ∈ s) (hb : Below w.heap.size w w') (hp : Po j w.heap.size w'.heap.size w' (upd x j v)) :
    PX W0 (j :: s) Po (upd x j v) (upd iv j (w.heap.size, w'.heap.size)) w' := by
  have hs := h.bel.size
  have hs2 := hb.size
  have ne : ∀ i ∈ s, i ≠ j := fun i hi e => hj (e ▸ hi)
  refine ⟨h.bel.trans (hb.mono hs), fun i hi => ?_, fun i hi => ?_, fun i hi k hk hne => ?_⟩
  · rcases List.mem_cons.1 hi with rfl | hi
    · rw [upd_self]; exact hp
    · rw [upd_ne _ _ _ _ (ne i hi)]
      exact cong _ _ _ _ _ _ (upd_ne _ _ _ _ (ne i hi)).symm (fun k hk => (upd_ne _ _ _ _ (ne k (hcl i hi k hk))).symm) (stable _ _ _ _ _ _ (h.post i hi) hb)
  · rcases List.mem_cons.1 hi with rfl | hi
    · rw [upd_self]; exact ⟨hs, hs2, Nat.le_refl _⟩
    · rw [upd_ne _ _ _ _ (ne i hi)]; have := h.lo i hi; omega
  · rcases List.mem_cons.1 hi with ei | hi2
    · rcases List.mem_cons.1 hk with ek | hk2
      · exact absurd (ei.trans ek.symm) hne
      · rw [ei, upd_self, upd_ne _ _ _ _ (ne k hk2)]; exact .inr (h.lo k hk2).2.2
    · rcases List.mem_cons.1 hk with ek | hk2
      · rw [ek, upd_self, upd_ne _ _ _ _ (ne i hi2)]; exact .inl (h.lo i hi2).2.2
      · rw [upd_ne _ _ _ _ (ne i hi2), upd_ne _ _ _ _ (ne k hk2)]; exact h.apart i hi2 k hk2 hne
theorem PX.of_mem {W0 : World} {s s' : List Nat} {Po : Nat → Nat → Nat → World → (Nat → Value) → Prop} {x : Nat → Value} {iv : Nat → Nat × Nat} {w : World} (h : PX W0 s Po x iv w) (hs : ∀ i ∈ s', i ∈ s) : PX W0 s' Po x iv w :=
  ⟨h.bel, fun i hi => h.post i (hs i hi), fun i hi => h.lo i (hs i hi), fun i hi j hj => h.apart i (hs i hi) j (hs j hj)⟩
/-- What each waits for is among its edges. -/
def depsOk (ops : Array Oper) (js : List Nat) (deps : Nat → List Nat) : Bool := js.all fun j => match ops[j]? with | some o => (deps j).all fun k => o.after.any fun e => e.on == k && Region.binds .any e | none => false
section
variable {P : Program} {ops : Array Oper} {Q : Exit → Act → World → Prop}
/-- The region, whatever order is drawn. -/
theorem wp_region_gen {id : Nat} {w : World} {a0 : Act} (hm : P.follows .mixedOrders = true) (js line : List Nat) (deps : Nat → List Nat) (act : (Nat → Value) → Act) (x0 : Nat → Value) (ha : a0 = act x0) (Po : Nat → Nat → Nat → World → (Nat → Value) → Prop)
    (stable : ∀ i lo hi w w' x, Po i lo hi w x → Below w.heap.size w w' → Po i lo hi w' x) (cong : ∀ i lo hi w x x', x i = x' i → (∀ k ∈ deps i, x k = x' k) → Po i lo hi w x → Po i lo hi w x')
    (ok : makersOk .any ops js = true) (okl : lineOk .any ops js line = true) (okd : depsOk ops js deps = true) (hsz : line.length + js.length = ops.size)
    (prod : ∀ j ∈ js, ∀ s x iv W, (∀ k ∈ deps j, k ∈ s) → PX w.drew s Po x iv W → ∀ K : Act → World → Prop, (∀ v W', Below W.heap.size W W' → Po j W.heap.size W'.heap.size W' (upd x j v) → K (act (upd x j v)) W') → wpOp P ops Q j K (act x) W)
    (rest : ∀ x iv W, PX w.drew js Po x iv W → wpList P ops Q (line.filterMap fun i => ops[i]?) (act x) W) : (Code.region id ops true).wp P Q a0 w := by
  have dep : ∀ j ∈ js, ∀ s, j ∈ Region.ready .any ops (mask ops.size s) → ∀ k ∈ deps j, k ∈ s := by
    intro j hj s hr k hk
    have h := List.all_eq_true.1 okd j hj
    cases ho : ops[j]? with
    | none => rw [ho] at h; cases h
    | some o =>
      rw [ho] at h
      simp only [List.all_eq_true, Array.any_eq_true] at h
      obtain ⟨i, hi, h2⟩ := h k hk
      simp only [Bool.and_eq_true, beq_iff_eq] at h2
      exact ready_dep hr ho ⟨o.after[i], Array.getElem_mem hi, h2.1, h2.2⟩
  refine wp_region_makers hm js line act x0 ha (fun _ _ _ _ _ => True) (fun s x W => (∀ i ∈ s, ∀ k ∈ deps i, k ∈ s) ∧ ∃ iv, PX w.drew s Po x iv W) (fun _ _ _ _ _ _ _ _ => trivial) ok okl hsz ⟨(fun i hi => by cases hi), fun _ => (0, 0), ⟨Below.refl _ _, (fun i hi => by cases hi), (fun i hi => by cases hi), (fun i hi => by cases hi)⟩⟩ ?_ ?_
  · intro j hj s x iv W hr hns _ hI K hK
    obtain ⟨hcl, iv2, hp⟩ := hI
    have hd := dep j hj s hr
    refine prod j hj s x iv2 W hd hp K fun v W' hb hpo => hK v W' hb trivial ⟨fun i hi k hk => ?_, _, hp.add deps stable cong hcl hns hb hpo⟩
    rcases List.mem_cons.1 hi with rfl | hi
    · exact List.mem_cons_of_mem _ (hd k hk)
    · exact List.mem_cons_of_mem _ (hcl i hi k hk)
  · intro s x iv W hs _ hI
    obtain ⟨-, iv2, hp⟩ := hI
    exact rest x iv2 W (hp.of_mem hs)
end
end Go.Proofs.YtljooldjcefkoaaGreat.Kit
namespace Go.Proofs.YtljooldjcefkoaaGreat.Kit
open Go.RowKit
/-- What is told of one operation's value: out of the interval of its blocks, the world, the value, and the values that it waited for. -/
structure Mk where
  deps : List Nat
  P : Nat → Nat → World → Value → (Nat → Value) → Prop
  st : ∀ lo hi w w' v x, P lo hi w v x → Below w.heap.size w w' → P lo hi w' v x
  cg : ∀ lo hi w v x x', (∀ k ∈ deps, x k = x' k) → P lo hi w v x → P lo hi w v x'
/-- Nothing is told. -/
def Mk.triv : Mk := ⟨[], fun _ _ _ _ _ => True, fun _ _ _ _ _ _ _ _ => trivial, fun _ _ _ _ _ _ _ _ => trivial⟩
/-- The value is known. -/
def Mk.const (deps : List Nat) (C : Value) : Mk := ⟨deps, fun _ _ _ v _ => v = C, fun _ _ _ _ _ _ h _ => h, fun _ _ _ _ _ _ _ h => h⟩
/-- Something is told of the value alone. -/
def Mk.val (deps : List Nat) (R : Nat → Nat → World → Value → Prop) (st : ∀ lo hi w w' v, R lo hi w v → Below w.heap.size w w' → R lo hi w' v) : Mk :=
  ⟨deps, fun lo hi w v _ => R lo hi w v, fun lo hi w w' v _ h hb => st lo hi w w' v h hb, fun _ _ _ _ _ _ _ h => h⟩
/-- Something is told of the value, beside one that it waited for. -/
def Mk.val1 (deps : List Nat) (k : Nat) (hk : k ∈ deps) (R : Nat → Nat → World → Value → Value → Prop) (st : ∀ lo hi w w' u v, R lo hi w u v → Below w.heap.size w w' → R lo hi w' u v) : Mk :=
  ⟨deps, fun lo hi w v x => R lo hi w (x k) v, fun lo hi w w' v x h hb => st lo hi w w' (x k) v h hb, fun lo hi w v x x' e h => by rw [← e k hk]; exact h⟩
/-- The frame with the values of the first operations in their slots. -/
def actOf (a : Act) : List Nat → Nat → (Nat → Value) → Act
  | [], _, _ => a
  | s :: r, i, x => actOf (a.put (some s) (x i)) r (i + 1) x
section
variable {P : Program} {ops : Array Oper} {Q : Exit → Act → World → Prop}
theorem wp_region_mk {id : Nat} {w : World} {a0 : Act} (hm : P.follows .mixedOrders = true) (js line sl : List Nat) (L : Nat → Mk) (x0 : Nat → Value) (ha : a0 = actOf a0 sl 0 x0)
    (ok : makersOk .any ops js = true) (okl : lineOk .any ops js line = true) (okd : depsOk ops js (fun i => (L i).deps) = true) (hsz : line.length + js.length = ops.size)
    (prod : ∀ j ∈ js, ∀ s x iv W, (∀ k ∈ (L j).deps, k ∈ s) → PX w.drew s (fun i lo hi w x => (L i).P lo hi w (x i) x) x iv W → ∀ K : Act → World → Prop, (∀ v W', Below W.heap.size W W' → (L j).P W.heap.size W'.heap.size W' v (upd x j v) → K (actOf a0 sl 0 (upd x j v)) W') → wpOp P ops Q j K (actOf a0 sl 0 x) W)
    (rest : ∀ x iv W, PX w.drew js (fun i lo hi w x => (L i).P lo hi w (x i) x) x iv W → wpList P ops Q (line.filterMap fun i => ops[i]?) (actOf a0 sl 0 x) W) : (Code.region id ops true).wp P Q a0 w :=
  wp_region_gen hm js line (fun i => (L i).deps) (actOf a0 sl 0) x0 ha (fun i lo hi w x => (L i).P lo hi w (x i) x) (fun i lo hi w w' x h hb => (L i).st lo hi w w' (x i) x h hb)
    (fun i lo hi w x x' e1 e2 h => by rw [← e1]; exact (L i).cg lo hi w (x i) x x' e2 h) ok okl okd hsz (fun j hj s x iv W hd hp K hK => prod j hj s x iv W hd hp K fun v W' hb h => hK v W' hb (by rw [upd_self]; exact h)) rest
/-- The same, from the values that lie in the slots. -/
theorem wp_region_mks {id : Nat} {w : World} {a0 : Act} (hm : P.follows .mixedOrders = true) (js line sl : List Nat) (L : Nat → Mk) (ha : a0 = actOf a0 sl 0 (fun i => a0.tmps.getD (sl.getD i 0) undef))
    (ok : makersOk .any ops js = true) (okl : lineOk .any ops js line = true) (okd : depsOk ops js (fun i => (L i).deps) = true) (hsz : line.length + js.length = ops.size)
    (prod : ∀ j ∈ js, ∀ s x iv W, (∀ k ∈ (L j).deps, k ∈ s) → PX w.drew s (fun i lo hi w x => (L i).P lo hi w (x i) x) x iv W → ∀ K : Act → World → Prop, (∀ v W', Below W.heap.size W W' → (L j).P W.heap.size W'.heap.size W' v (upd x j v) → K (actOf a0 sl 0 (upd x j v)) W') → wpOp P ops Q j K (actOf a0 sl 0 x) W)
    (rest : ∀ x iv W, PX w.drew js (fun i lo hi w x => (L i).P lo hi w (x i) x) x iv W → wpList P ops Q (line.filterMap fun i => ops[i]?) (actOf a0 sl 0 x) W) : (Code.region id ops true).wp P Q a0 w :=
  wp_region_mk hm js line sl L _ ha ok okl okd hsz prod rest
/-- The same, with the frame written out. -/
theorem wp_region_frm {id : Nat} {w : World} {a0 : Act} (hm : P.follows .mixedOrders = true) (js line : List Nat) (L : Nat → Mk) (act : (Nat → Value) → Act) (x0 : Nat → Value) (ha : a0 = act x0)
    (ok : makersOk .any ops js = true) (okl : lineOk .any ops js line = true) (okd : depsOk ops js (fun i => (L i).deps) = true) (hsz : line.length + js.length = ops.size)
    (prod : ∀ j ∈ js, ∀ s x iv W, (∀ k ∈ (L j).deps, k ∈ s) → PX w.drew s (fun i lo hi w x => (L i).P lo hi w (x i) x) x iv W → ∀ K : Act → World → Prop, (∀ v W', Below W.heap.size W W' → (L j).P W.heap.size W'.heap.size W' v (upd x j v) → K (act (upd x j v)) W') → wpOp P ops Q j K (act x) W)
    (rest : ∀ x iv W, PX w.drew js (fun i lo hi w x => (L i).P lo hi w (x i) x) x iv W → wpList P ops Q (line.filterMap fun i => ops[i]?) (act x) W) : (Code.region id ops true).wp P Q a0 w :=
  wp_region_gen hm js line (fun i => (L i).deps) act x0 ha (fun i lo hi w x => (L i).P lo hi w (x i) x) (fun i lo hi w w' x h hb => (L i).st lo hi w w' (x i) x h hb)
    (fun i lo hi w x x' e1 e2 h => by rw [← e1]; exact (L i).cg lo hi w (x i) x x' e2 h) ok okl okd hsz (fun j hj s x iv W hd hp K hK => prod j hj s x iv W hd hp K fun v W' hb h => hK v W' hb (by rw [upd_self]; exact h)) rest
end
end Go.Proofs.YtljooldjcefkoaaGreat.Kit
/- A drawn region whose operations only read and make memory, ahead of others that may come in several orders: each way out is told by its lines. No Go function is spoken of. -/
namespace Go.Proofs.YtljooldjcefkoaaGreat.Kit
open Go.RowKit
/-- At each state of the makers some are ready, and no other operation is, but at the states that are listed. -/
def makersOk2 (md : Region.Mode) (ops : Array Oper) (js : List Nat) (exits : List (List Nat)) : Bool :=
  (subs js).all fun t => t == js || exits.contains t || !closedB md ops t || (!(Region.ready md ops (mask ops.size t)).isEmpty && (Region.ready md ops (mask ops.size t)).all fun i => js.contains i && !t.contains i)
/-- At a state each that is ready opens one of the lines. -/
def altOk (md : Region.Mode) (ops : Array Oper) (t : List Nat) (lines : List (List Nat)) : Bool :=
  (Region.ready md ops (mask ops.size t)).all (fun j => lines.any fun l => match l with | i :: r => i == j && (ops[i]?).isSome && lineOk md ops (i :: t) r | [] => false) && !(Region.ready md ops (mask ops.size t)).isEmpty
section
variable {P : Program} {ops : Array Oper} {Q : Exit → Act → World → Prop} {md : Region.Mode}
theorem wpAny_alts (t : List Nat) (lines : List (List Nat)) (fuel : Nat) (a : Act) (w : World) (h : altOk md ops t lines = true) (hl : ∀ l ∈ lines, l.length ≤ fuel) (hw : ∀ l ∈ lines, wpList P ops Q (l.filterMap fun i => ops[i]?) a w) : wpAny P md ops Q fuel (mask ops.size t) a w := by
  simp only [altOk, Bool.and_eq_true, List.all_eq_true, List.any_eq_true] at h
  obtain ⟨h1, h2⟩ := h
  cases fuel with
  | zero =>
    exfalso
    cases hr : Region.ready md ops (mask ops.size t) with
    | nil => rw [hr] at h2; simp at h2
    | cons j r =>
      obtain ⟨l, hl1, hl2⟩ := h1 j (by rw [hr]; simp)
      cases l with
      | nil => simp at hl2
      | cons i r => have := hl _ hl1; simp at this
  | succ fuel =>
    refine wpAny_all rfl (by intro e; rw [e] at h2; simp at h2) fun j hj => ?_
    obtain ⟨l, hl1, hl2⟩ := h1 j hj
    cases l with
    | nil => simp at hl2
    | cons i r =>
      simp only [Bool.and_eq_true, beq_iff_eq] at hl2
      obtain ⟨⟨rfl, h3⟩, h4⟩ := hl2
      obtain ⟨o, ho⟩ := Option.isSome_iff_exists.1 h3
      rw [mask_set]
      have hw' : wpList P ops Q (o :: r.filterMap fun i => ops[i]?) a w := by simpa [ho] using hw _ hl1
      refine wpOp_mono (fun a w hq => wpAny_line r (i :: t) fuel a w h4 (by have := hl _ hl1; simpa using this) hq) ?_
      unfold wpOp
      rw [ho]
      exact hw'
theorem wpAny_makers2 (js : List Nat) (exits : List (List Nat)) (fuel : Nat) (act : (Nat → Value) → Act) (Inv : List Nat → (Nat → Value) → World → Prop) (ok : makersOk2 md ops js exits = true)
    (prod : ∀ j ∈ js, ∀ s x W, j ∈ Region.ready md ops (mask ops.size s) → ¬ j ∈ s → Inv s x W → ∀ K : Act → World → Prop, (∀ v W', Inv (j :: s) (upd x j v) W' → K (act (upd x j v)) W') → wpOp P ops Q j K (act x) W)
    (rest : ∀ s x W f, fuel ≤ f → (∀ i ∈ js, i ∈ s) → Inv s x W → wpAny P md ops Q f (mask ops.size js) (act x) W)
    (out : ∀ t ∈ exits, ∀ s x W f, fuel + (js.filter fun i => !t.contains i).length ≤ f → (∀ i, i ∈ s ↔ i ∈ t) → Inv s x W → wpAny P md ops Q f (mask ops.size t) (act x) W) :
    ∀ (m f : Nat) (s : List Nat) (x : Nat → Value) (W : World), (js.filter fun i => !s.contains i).length ≤ m → fuel ≤ f → (∀ i ∈ s, i ∈ js) → (∀ i ∈ s, ∀ o, ops[i]? = some o → ∀ e ∈ o.after, Region.binds md e = true → e.on ∈ s) → Inv s x W → wpAny P md ops Q (f + m) (mask ops.size s) (act x) W := by
  intro m
  induction m with
  | zero =>
    intro f s x W hc hf hs hcl hv
    have hall : ∀ i ∈ js, i ∈ s := fun i hi => by
      by_cases h : i ∈ s
      · exact h
      · have : i ∈ js.filter fun i => !s.contains i := List.mem_filter.2 ⟨hi, by simpa using h⟩
        rw [List.eq_nil_of_length_eq_zero (Nat.le_zero.1 hc)] at this
        cases this
    rw [mask_congr ops.size s js fun i => ⟨hs i, hall i⟩]
    exact rest s x W (f + 0) (by omega) hall hv
  | succ m ih =>
    intro f s x W hc hf hs hcl hv
    by_cases hall : ∀ i ∈ js, i ∈ s
    · rw [mask_congr ops.size s js fun i => ⟨hs i, hall i⟩]
      exact rest s x W _ (by omega) hall hv
    · have hst : ∀ i, i ∈ s ↔ i ∈ js.filter fun i => s.contains i := fun i => ⟨fun h => List.mem_filter.2 ⟨hs i h, by simpa using h⟩, fun h => by simpa using (List.mem_filter.1 h).2⟩
      have hmask : mask ops.size s = mask ops.size (js.filter fun i => s.contains i) := mask_congr _ _ _ hst
      by_cases hex : (js.filter fun i => s.contains i) ∈ exits
      · rw [hmask]
        refine out _ hex s x W _ ?_ hst hv
        have e : (js.filter fun i => !(js.filter fun i => s.contains i).contains i) = js.filter fun i => !s.contains i := by
          apply List.filter_congr
          intro i hi
          by_cases e2 : i ∈ s <;> simp [hi, e2]
        rw [e]
        omega
      have hk := List.all_eq_true.1 ok _ (filter_subs (fun i => s.contains i) js)
      have hne : ((js.filter fun i => s.contains i) == js) = false := by
        apply Bool.eq_false_iff.2
        intro e
        rw [beq_iff_eq] at e
        exact hall fun i hi => by
          rw [← e] at hi
          simpa using (List.mem_filter.1 hi).2
      have hexf : exits.contains (js.filter fun i => s.contains i) = false := by
        apply Bool.eq_false_iff.2
        intro e
        exact hex (by simpa using e)
      have hclo : closedB md ops (js.filter fun i => s.contains i) = true := by
        refine List.all_eq_true.2 fun i hi => ?_
        have his : i ∈ s := by simpa using (List.mem_filter.1 hi).2
        cases ho : ops[i]? with
        | none => rfl
        | some o =>
          simp only
          refine Array.all_eq_true_iff_forall_mem.2 fun e he => ?_
          cases hbi : Region.binds md e with
          | false => rfl
          | true =>
            have := hcl i his o ho e he hbi
            simp [this, hs _ this]
      rw [hne, hexf, hclo, Bool.false_or, Bool.false_or, Bool.not_true, Bool.false_or, Bool.and_eq_true] at hk
      obtain ⟨h1, h2⟩ := hk
      rw [← hmask] at h1 h2
      refine wpAny_all rfl (by intro e; rw [e] at h1; simp at h1) fun j hj => ?_
      have hj2 := List.all_eq_true.1 h2 j hj
      simp only [Bool.and_eq_true, List.contains_iff_mem, Bool.not_eq_true'] at hj2
      have hjs : j ∈ js := by simpa using hj2.1
      have hjn : ¬ j ∈ s := fun h => by
        have : j ∈ js.filter fun i => s.contains i := List.mem_filter.2 ⟨hjs, by simpa using h⟩
        have h3 := hj2.2
        simp [hjs, h] at h3
      rw [mask_set]
      refine prod j hjs s x W hj hjn hv _ fun v W' hv' => ih f (j :: s) _ W' ?_ hf (fun i hi => (List.mem_cons.1 hi).elim (fun e => e ▸ hjs) (hs i)) (fun i hi o ho e he hbi => List.mem_cons_of_mem _ ((List.mem_cons.1 hi).elim (fun q => by subst q; exact ready_dep hj ho ⟨e, he, rfl, hbi⟩) (fun q => hcl i q o ho e he hbi))) hv'
      have hlt : (js.filter fun i => !(j :: s).contains i).length < (js.filter fun i => !s.contains i).length := by
        have e : (js.filter fun i => !(j :: s).contains i) = (js.filter fun i => !s.contains i).filter fun i => !(i == j) := by
          rw [List.filter_filter]
          apply List.filter_congr
          intro i _
          by_cases e1 : i = j <;> by_cases e2 : i ∈ s <;> simp [e1, e2]
        rw [e, List.length_filter_lt_length_iff_exists]
        exact ⟨j, List.mem_filter.2 ⟨hjs, by simpa using hjn⟩, by simp⟩
      omega
/-- The lines of each way out fit in what is left. -/
def altsOk (md : Region.Mode) (ops : Array Oper) (js line : List Nat) (alts : List (List Nat × List (List Nat))) : Bool :=
  alts.all fun q => altOk md ops q.1 q.2 && q.2.all fun l => decide (l.length ≤ line.length + (js.filter fun i => !q.1.contains i).length)
/-- The region, whatever order is drawn, with the frame written out, and ways out ahead of the end. -/
theorem wp_region_alt {id : Nat} {w : World} {a0 : Act} (hm : P.follows .mixedOrders = true) (js line : List Nat) (alts : List (List Nat × List (List Nat))) (L : Nat → Mk) (act : (Nat → Value) → Act) (x0 : Nat → Value) (ha : a0 = act x0)
    (ok : makersOk2 .any ops js (alts.map (·.1)) = true) (okl : lineOk .any ops js line = true) (oka : altsOk .any ops js line alts = true) (okd : depsOk ops js (fun i => (L i).deps) = true) (hsz : line.length + js.length = ops.size)
    (prod : ∀ j ∈ js, ∀ s x iv W, (∀ k ∈ (L j).deps, k ∈ s) → PX w.drew s (fun i lo hi w x => (L i).P lo hi w (x i) x) x iv W → ∀ K : Act → World → Prop, (∀ v W', Below W.heap.size W W' → (L j).P W.heap.size W'.heap.size W' v (upd x j v) → K (act (upd x j v)) W') → wpOp P ops Q j K (act x) W)
    (rest : ∀ x iv W, PX w.drew js (fun i lo hi w x => (L i).P lo hi w (x i) x) x iv W → wpList P ops Q (line.filterMap fun i => ops[i]?) (act x) W)
    (out : ∀ q ∈ alts, ∀ l ∈ q.2, ∀ x iv W, PX w.drew q.1 (fun i lo hi w x => (L i).P lo hi w (x i) x) x iv W → wpList P ops Q (l.filterMap fun i => ops[i]?) (act x) W) : (Code.region id ops true).wp P Q a0 w := by
  have dep : ∀ j ∈ js, ∀ s, j ∈ Region.ready .any ops (mask ops.size s) → ∀ k ∈ (L j).deps, k ∈ s := by
    intro j hj s hr k hk
    have h := List.all_eq_true.1 okd j hj
    cases ho : ops[j]? with
    | none => rw [ho] at h; cases h
    | some o =>
      rw [ho] at h
      simp only [List.all_eq_true, Array.any_eq_true] at h
      obtain ⟨i, hi, h2⟩ := h k hk
      simp only [Bool.and_eq_true, beq_iff_eq] at h2
      exact ready_dep hr ho ⟨o.after[i], Array.getElem_mem hi, h2.1, h2.2⟩
  subst ha
  refine wp_region_any hm ?_
  have h := wpAny_makers2 (P := P) (Q := Q) (md := .any) js (alts.map (·.1)) line.length act (fun s x W => (∀ i ∈ s, ∀ k ∈ (L i).deps, k ∈ s) ∧ ∃ iv, PX w.drew s (fun i lo hi w x => (L i).P lo hi w (x i) x) x iv W) ok ?_ ?_ ?_ js.length line.length [] x0 w.drew (List.length_filter_le _ _) (Nat.le_refl _) (fun i hi => by cases hi) (fun i hi => by cases hi) ⟨(fun i hi => by cases hi), fun _ => (0, 0), ⟨Below.refl _ _, (fun i hi => by cases hi), (fun i hi => by cases hi), (fun i hi => by cases hi)⟩⟩
  · rw [hsz, mask_nil] at h
    exact h
  · intro j hj s x W hr hns hI K hK
    obtain ⟨hcl, iv2, hp⟩ := hI
    have hd := dep j hj s hr
    refine prod j hj s x iv2 W hd hp K fun v W' hb hpo => hK v W' ⟨fun i hi k hk => ?_, _, hp.add (fun i => (L i).deps) (fun i lo hi w w' x h hb => (L i).st lo hi w w' (x i) x h hb) (fun i lo hi w x x' e1 e2 h => by rw [← e1]; exact (L i).cg lo hi w (x i) x x' e2 h) hcl hns hb (by rw [upd_self]; exact hpo)⟩
    rcases List.mem_cons.1 hi with rfl | hi
    · exact List.mem_cons_of_mem _ (hd k hk)
    · exact List.mem_cons_of_mem _ (hcl i hi k hk)
  · intro s x W f hf hs hI
    obtain ⟨-, iv2, hp⟩ := hI
    exact wpAny_line line js f (act x) W okl hf (rest x iv2 W (hp.of_mem hs))
  · intro t ht s x W f hf hst hI
    obtain ⟨-, iv2, hp⟩ := hI
    obtain ⟨q, hq, rfl⟩ := List.mem_map.1 ht
    have h1 := List.all_eq_true.1 oka q hq
    simp only [Bool.and_eq_true, List.all_eq_true, decide_eq_true_eq] at h1
    exact wpAny_alts q.1 q.2 f (act x) W h1.1 (fun l hl => Nat.le_trans (h1.2 l hl) hf) fun l hl => out q hq l hl x iv2 W (hp.of_mem fun i hi => (hst i).2 hi)
end
end Go.Proofs.YtljooldjcefkoaaGreat.Kit
/- Of the specification: l11Find by its contract. -/
namespace Go.Proofs.YtljooldjcefkoaaGreat.Kit
open Go.RowKit
section
variable {P : Program} {ops : Array Oper} {Q : Exit → Act → World → Prop} {a : Act} {w : World}
theorem line2 {i j : Nat} {o1 o2 : Oper} (h1 : ops[i]? = some o1) (h2 : ops[j]? = some o2) (h : wpList P ops Q [o1, o2] a w) : wpList P ops Q ([i, j].filterMap fun k => ops[k]?) a w := by
  simpa [h1, h2] using h
theorem line3 {i j k : Nat} {o1 o2 o3 : Oper} (h1 : ops[i]? = some o1) (h2 : ops[j]? = some o2) (h3 : ops[k]? = some o3) (h : wpList P ops Q [o1, o2, o3] a w) : wpList P ops Q ([i, j, k].filterMap fun k => ops[k]?) a w := by
  simpa [h1, h2, h3] using h
end
def MkW (T : TypeId) (Z : Array Value) : Mk := .val [] (fun lo hi w v => v = .pointer (some ⟨lo, 0, none⟩) ∧ hi = lo + 1 ∧ AtC w lo T Z) (fun _ _ _ _ _ h hb => ⟨h.1, h.2.1, h.2.2.over hb⟩)
/-- The first of two. -/
def fstOf : Value → Value
  | .tuple xs => xs.getD 0 undef
  | u => u
/-- A block and a flag. -/
def MkBf (k l : Nat) (w0 : World) (d : Bool) (t : ByteArray) (ss : List Sl) (f : Bool) : Mk := .val [k, l] (fun _ _ _ v => ∃ a c, v = .tuple #[.agg #[.bool d, .slice a ss.length c, .string t], .bool f] ∧ RSl w0 (.slice a ss.length c) ss)
  (fun _ _ _ _ _ h _ => h)
def MkBv (k : Nat) (d : Bool) (t : ByteArray) (n : Nat) (f : Bool) : Mk := .val1 [k] k (by simp) (fun _ _ _ u v => u = v ∧ ∃ a c, v = .tuple #[.agg #[.bool d, .slice a n c, .string t], .bool f]) (fun _ _ _ _ _ _ h _ => h)
def MkBx (k : Nat) : Mk := .val1 [k] k (by simp) (fun _ _ _ u v => v = fstOf u) (fun _ _ _ _ _ _ h _ => h)


end Go.Proofs.YtljooldjcefkoaaGreat.Kit
namespace Go.Proofs.YtljooldjcefkoaaGreat
open Go.RowKit Kit
theorem blkAt_len {xs ys : List Bool} {is : List Ino} {bs : List Blk} (hB : Big 1048576 xs ys is bs) (x : Int) : (blkAt bs x).2.1.length ≤ 1048576 := by
  unfold blkAt
  split
  · by_cases h : (x - 1).toNat < bs.length
    · rw [List.getD_eq_getElem?_getD, List.getElem?_eq_getElem h]
      exact (hB.s _ h).1
    · rw [List.getD_eq_getElem?_getD, List.getElem?_eq_none (by omega)]
      exact Nat.zero_le _
  · exact Nat.zero_le _
end Go.Proofs.YtljooldjcefkoaaGreat
/- What is told of the operations of a region that takes the results of a call apart, one of them into a new variable. No Go function is spoken of. -/
namespace Go.Proofs.YtljooldjcefkoaaGreat.Kit
open Go.RowKit
/-- The second of several. -/
def sndOf : Value → Value
  | .tuple xs => xs.getD 1 undef
  | u => u
/-- The third of several. -/
def thdOf : Value → Value
  | .tuple xs => xs.getD 2 undef
  | u => u
/-- Two results, of which something is told. -/
def MkT2 (ds : List Nat) (R : Nat → Nat → World → Value → Value → Prop) (hst : ∀ lo hi w w' a r, R lo hi w a r → Below w.heap.size w w' → R lo hi w' a r) : Mk := .val ds (fun lo hi w v => ∃ a r, v = .tuple #[a, r] ∧ R lo hi w a r)
  (fun lo hi w w' _ h hb => by obtain ⟨a, r, h1, h2⟩ := h; exact ⟨a, r, h1, hst lo hi w w' a r h2 hb⟩)
/-- Three results. -/
def MkT3 (ds : List Nat) (R : Nat → World → Value → Value → Value → Prop) (hst : ∀ lo w w' a r q, R lo w a r q → Below w.heap.size w w' → R lo w' a r q) : Mk := .val ds (fun lo _ w v => ∃ a r q, v = .tuple #[a, r, q] ∧ R lo w a r q)
  (fun lo _ w w' _ h hb => by obtain ⟨a, r, q, h1, h2⟩ := h; exact ⟨a, r, q, h1, hst lo w w' a r q h2 hb⟩)
/-- The same, in another place. -/
def MkMv (k : Nat) : Mk := .val1 [k] k (by simp) (fun _ _ _ u v => u = v ∧ ∃ a r, v = .tuple #[a, r]) (fun _ _ _ _ _ _ h _ => h)
def MkMv3 (k : Nat) : Mk := .val1 [k] k (by simp) (fun _ _ _ u v => u = v ∧ ∃ a r q, v = .tuple #[a, r, q]) (fun _ _ _ _ _ _ h _ => h)
def MkFs (k : Nat) : Mk := .val1 [k] k (by simp) (fun _ _ _ u v => v = fstOf u) (fun _ _ _ _ _ _ h _ => h)
def MkSd (k : Nat) : Mk := .val1 [k] k (by simp) (fun _ _ _ u v => v = sndOf u) (fun _ _ _ _ _ _ h _ => h)
def MkTd (k : Nat) : Mk := .val1 [k] k (by simp) (fun _ _ _ u v => v = thdOf u) (fun _ _ _ _ _ _ h _ => h)
end Go.Proofs.YtljooldjcefkoaaGreat.Kit
/- The states of a region's operations that are closed under what they wait for, counted without the others. No Go function is spoken of. -/
namespace Go.Proofs.YtljooldjcefkoaaGreat.Kit
open Go.RowKit
/-- One of t waits for x. -/
def needs (md : Region.Mode) (ops : Array Oper) (t : List Nat) (x : Nat) : Bool := t.any fun i => match ops[i]? with | some o => o.after.any fun e => Region.binds md e && e.on == x | none => false
def ideals (md : Region.Mode) (ops : Array Oper) : List Nat → List (List Nat)
  | [] => [[]]
  | x :: r => (ideals md ops r).filter (fun t => !needs md ops t x) ++ (ideals md ops r).map fun t => x :: t
theorem subs_sub : ∀ (js t : List Nat), t ∈ subs js → ∀ i ∈ t, i ∈ js
  | [], t, h, i, hi => by simp [subs] at h; subst h; simp at hi
  | x :: r, t, h, i, hi => by
    rw [subs, List.mem_append] at h
    rcases h with h | h
    · exact List.mem_cons_of_mem _ (subs_sub r t h i hi)
    · obtain ⟨t', h', rfl⟩ := List.mem_map.mp h
      rcases List.mem_cons.mp hi with rfl | hi
      · exact List.mem_cons_self
      · exact List.mem_cons_of_mem _ (subs_sub r t' h' i hi)
theorem mem_ideals (md : Region.Mode) (ops : Array Oper) : ∀ (js : List Nat), js.Nodup → ∀ t ∈ subs js, (∀ i ∈ t, ∀ o, ops[i]? = some o → ∀ e ∈ o.after, Region.binds md e = true → e.on ∈ js → e.on ∈ t) → t ∈ ideals md ops js
  | [], _, t, ht, _ => by simpa [subs, ideals] using ht
  | x :: r, hn, t, ht, hc => by
    obtain ⟨hx, hr⟩ := List.nodup_cons.mp hn
    rw [subs, List.mem_append] at ht
    rw [ideals, List.mem_append]
    rcases ht with ht | ht
    · left
      refine List.mem_filter.mpr ⟨mem_ideals md ops r hr t ht fun i hi o ho e he hb hj => hc i hi o ho e he hb (List.mem_cons_of_mem _ hj), ?_⟩
      have hxt : x ∉ t := fun e => hx (subs_sub r t ht x e)
      simp only [Bool.not_eq_true', needs, List.any_eq_false]
      intro i hi
      cases ho : ops[i]? with
      | none => simp
      | some o =>
        intro hh
        obtain ⟨k, hk, hh⟩ := Array.any_eq_true.mp hh
        simp only [Bool.and_eq_true, beq_iff_eq] at hh
        obtain ⟨hb, he⟩ := hh
        exact hxt (he ▸ hc i hi o ho o.after[k] (Array.getElem_mem hk) hb (by rw [he]; exact List.mem_cons_self))
    · right
      obtain ⟨t', h', rfl⟩ := List.mem_map.mp ht
      refine List.mem_map.mpr ⟨t', mem_ideals md ops r hr t' h' fun i hi o ho e he hb hj => ?_, rfl⟩
      rcases List.mem_cons.mp (hc i (List.mem_cons_of_mem _ hi) o ho e he hb (List.mem_cons_of_mem _ hj)) with q | q
      · exact absurd (q ▸ hj) hx
      · exact q
def makersOkI (md : Region.Mode) (ops : Array Oper) (js : List Nat) (exits : List (List Nat)) : Bool :=
  (ideals md ops js).all fun t => t == js || exits.contains t || !closedB md ops t || (!(Region.ready md ops (mask ops.size t)).isEmpty && (Region.ready md ops (mask ops.size t)).all fun i => js.contains i && !t.contains i)
theorem makersOk2_of {md : Region.Mode} {ops : Array Oper} {js : List Nat} {exits : List (List Nat)} (hn : decide js.Nodup = true) (h : makersOkI md ops js exits = true) : makersOk2 md ops js exits = true := by
  unfold makersOk2
  refine List.all_eq_true.mpr fun t ht => ?_
  by_cases hc : closedB md ops t = true
  · refine List.all_eq_true.mp h t (mem_ideals md ops js (of_decide_eq_true hn) t ht fun i hi o ho e he hb _ => ?_)
    have := List.all_eq_true.mp hc i hi
    rw [ho] at this
    obtain ⟨k, hk, rfl⟩ := Array.mem_iff_getElem.mp he
    have := Array.all_eq_true.mp this k hk
    rw [hb] at this
    simpa using this
  · simp [hc]
theorem makersOk_of {md : Region.Mode} {ops : Array Oper} {js : List Nat} (hn : decide js.Nodup = true) (h : makersOkI md ops js [] = true) : makersOk md ops js = true := by
  have := makersOk2_of hn h
  unfold makersOk2 at this
  unfold makersOk
  simpa using this
end Go.Proofs.YtljooldjcefkoaaGreat.Kit
/- Small facts of texts and appends. No Go function is spoken of. -/
namespace Go.Proofs.YtljooldjcefkoaaGreat.Kit
open Go.RowKit
/-- Texts as cells. -/
def stc (l : List ByteArray) : List Value := l.map fun z => Value.string z
theorem stc_length (l : List ByteArray) : (stc l).length = l.length := by simp [stc]
theorem stc_append (a b : List ByteArray) : stc (a ++ b) = stc a ++ stc b := by simp [stc]
theorem step_append_one {P : Program} (W : World) {ops : Array Oper} {o : Oper} {a : Act} {K : Act → World → Prop} {Q : Exit → Act → World → Prop} {E : Prop} (hgd : o.guard = none) (s x : Operand) (t : TypeId)
    (ho : o.op = .call { callee := .builtin .append, args := #[s, x], argTypes := #[t, t] }) (base : Nat) (e : TypeId) (ht : P.underlying t = some (.slice e)) (z : Value) (bytes : Nat)
    (hi : (P.info? e).map (fun i => (i.zero, i.size, i.bytes)) = some (some z, 1, bytes)) (hzc : z.cells.size = 1) (hby : bytes ≤ 640) (v : Value) (l : List Value) (hs : a.eval s = v) (hown : ROwns W base e v l) (hbase : base ≤ W.heap.size)
    (g : Nat) (y : Value) (hx : a.eval x = .slice (some ⟨g, 0, none⟩) 1 1) (hc : W.cell? ⟨g, 0, none⟩ = some y) (h1 : y.oneCell' = true) (hl : l.length ≤ 100000000000)
    (h : ∀ v' w', ROwns w' base e v' (l ++ [y]) → W.grownBy w' v.ownBlock → (∀ k, v'.ownBlock = some k → v.ownBlock = some k ∨ W.heap.size ≤ k) → K (a.put o.dst v') w') :
    if Region.wanted o (yielded ops a.tmps) = true then Oper.wp P o a W K Q else E := by
  obtain ⟨i0, hi, hz0, hz1, hz2⟩ := info_parts hi
  refine step_append_lies _ hgd s x t ho base e i0 z 1 bytes ht hi hz0 hz1 hz2 hzc (by decide) v l.length l hs hown ⟨g, 0, none⟩ 1 1 [y] hx rfl ?_ (by simpa using h1) (by decide) ?_ ?_ hbase W.heap.size rfl ?_
  · intro j u hj
    cases j with
    | zero => simp only [List.getElem?_cons_zero, Option.some.injEq] at hj; subst hj; simpa [Addr.add] using hc
    | succ j => simp at hj
  · unfold maxLen; omega
  · have : (l.length + 1) * bytes ≤ 100000000001 * 640 := Nat.mul_le_mul (by omega) hby
    omega
  · intro g' cap w' hown' hgrow hat _
    refine h _ w' ?_ hgrow fun k hk => ?_
    · unfold ROwns
      rw [List.length_append]
      exact hown'
    · simp only [Value.ownBlock, Option.some.injEq] at hk
      subst hk
      rcases hat with hat | hat
      · exact .inl hat
      · exact .inr (by omega)
/-- What l11Block answers: a block that is there, or none. -/
def BlkR (w0 : World) (bd : Bool) (btx : ByteArray) (bss : List Sl) (F : Bool) (_ _ : Nat) (_ : World) (a r : Value) : Prop := ∃ (sa : Option Addr) (sc : Nat), a = .agg #[.bool bd, .slice sa bss.length sc, .string btx] ∧ r = .bool F ∧ RSl w0 (.slice sa bss.length sc) bss
theorem BlkR.below {w0 : World} {bd : Bool} {btx : ByteArray} {bss : List Sl} {F : Bool} (lo hi : Nat) (w w' : World) (a r : Value) (h : BlkR w0 bd btx bss F lo hi w a r) (_ : Below w.heap.size w w') : BlkR w0 bd btx bss F lo hi w' a r := h
theorem beq_empty {a : ByteArray} (h : ¬ a = ⟨#[]⟩) : (a.toList == ([] : List UInt8)) = false := by
  have := beq_false (b := ⟨#[]⟩) h
  rwa [show (⟨#[]⟩ : ByteArray).toList = [] from by rw [ByteArray.toList_eq]] at this
theorem blkAt_in {bs : List Blk} {x : Int} (h : inB x 1 bs.length = true) : ∃ (jb : Nat) (hb : jb < bs.length), x = (jb : Int) + 1 ∧ blkAt bs x = bs[jb] := by
  obtain ⟨h1, h2⟩ := inB_true h
  refine ⟨(x - 1).toNat, by omega, by omega, ?_⟩
  unfold blkAt
  rw [h, if_pos rfl]
  rw [List.getD_eq_getElem?_getD, List.getElem?_eq_getElem (show (x - 1).toNat < bs.length by omega)]
  rfl
end Go.Proofs.YtljooldjcefkoaaGreat.Kit
/- What the specification's walk tells, as a plain function. No Go function is spoken of. -/
namespace Go.Proofs.YtljooldjcefkoaaGreat
open Go.RowKit Kit
theorem flatMap_len {α β : Type} {f : α → List β} {m : Nat} : ∀ (l : List α), (∀ x ∈ l, (f x).length ≤ m) → (l.flatMap f).length ≤ l.length * m
  | [], _ => by simp
  | x :: r, h => by
    have h1 := h x (by simp)
    have h2 := flatMap_len r (fun y hy => h y (by simp [hy]))
    rw [List.flatMap_cons, List.length_append, List.length_cons, Nat.add_mul]
    omega
/-- A disk that is right, as far as trees go. -/
structure RD (is : List Ino) (bs : List Blk) : Prop where
  hi : is.length = 8
  hb : bs.length = 16
  kd : ∀ q ∈ is, q.1 = 0 ∨ q.1 = 1 ∨ q.1 = 2
  two : ∀ q ∈ is, q.2.2.length = 2
  four : ∀ q ∈ bs, q.2.1.length ≤ 4
  text : ∀ q ∈ bs, q.1 = false → q.2.1 = []
  nm : ∀ q ∈ bs, ∀ s ∈ q.2.1, s.1 = ⟨#[]⟩ ∨ nameOk s.1 = true
  tx : ∀ q ∈ bs, q.2.2.size ≤ 16
theorem blkAt_cases (bs : List Blk) (x : Int) : blkAt bs x = (false, [], ⟨#[]⟩) ∨ blkAt bs x ∈ bs := by
  cases h : inB x 1 bs.length with
  | false => exact .inl (blkAt_no h)
  | true =>
    obtain ⟨jb, hb, -, e⟩ := blkAt_in h
    exact .inr (by rw [e]; exact List.getElem_mem hb)
theorem kindAt_cases {is : List Ino} (i : Int) : (kindAt is i = 0 ∧ ptrsAt is i = []) ∨ ∃ q ∈ is, kindAt is i = q.1 ∧ ptrsAt is i = q.2.2 := by
  cases h : inB i 1 is.length with
  | false => exact .inl ⟨kindAt_out h, by unfold ptrsAt; rw [h]; rfl⟩
  | true =>
    obtain ⟨h1, h2⟩ := inB_true h
    obtain ⟨j, rfl⟩ : ∃ j : Nat, i = (j : Int) + 1 := ⟨(i - 1).toNat, by omega⟩
    have hj : j < is.length := by omega
    exact .inr ⟨is[j], List.getElem_mem hj, (kindAt_in hj).1, (kindAt_in hj).2⟩
theorem RD.kind {is : List Ino} {bs : List Blk} (h : RD is bs) (i : Int) : kindAt is i = 0 ∨ kindAt is i = 1 ∨ kindAt is i = 2 := by
  rcases kindAt_cases (is := is) i with ⟨e, -⟩ | ⟨q, hq, e, -⟩
  · exact .inl e
  · rw [e]; exact h.kd q hq
theorem RD.blk4 {is : List Ino} {bs : List Blk} (h : RD is bs) (x : Int) : (blkAt bs x).2.1.length ≤ 4 := by
  rcases blkAt_cases bs x with e | e
  · rw [e]; simp
  · exact h.four _ e
theorem nmd_len {is : List Ino} {bs : List Blk} (h : RD is bs) (x : Int) : (nmd (blkAt bs x)).length ≤ 4 := by
  unfold nmd
  split
  · exact Nat.le_trans (List.length_filter_le _ _) (h.blk4 x)
  · simp
theorem RD.named8 {is : List Ino} {bs : List Blk} (h : RD is bs) (i : Int) : (named is bs i).length ≤ 8 := by
  unfold named
  split
  · have h1 := flatMap_len (m := 4) (f := fun p => nmd (blkAt bs p)) (ptrsAt is i) (fun p _ => nmd_len h p)
    have h2 : (ptrsAt is i).length ≤ 2 := by
      rcases kindAt_cases (is := is) i with ⟨-, e⟩ | ⟨q, hq, -, e⟩
      · rw [e]; simp
      · rw [e, h.two q hq]; exact Nat.le_refl _
    have : nmdP bs (ptrsAt is i) = (ptrsAt is i).flatMap (fun p => nmd (blkAt bs p)) := rfl
    rw [this]
    have : (ptrsAt is i).length * 4 ≤ 2 * 4 := Nat.mul_le_mul_right _ h2
    omega
  · simp
theorem RD.name {is : List Ino} {bs : List Blk} (h : RD is bs) {i : Int} {s : Sl} (hs : s ∈ named is bs i) : nameOk s.1 = true := by
  unfold named at hs
  split at hs
  · obtain ⟨p, -, hp⟩ := List.mem_flatMap.1 hs
    unfold nmd at hp
    split at hp
    · obtain ⟨h1, h2⟩ := mem_nmdS hp
      rcases blkAt_cases bs p with e | e
      · rw [e] at h1; simp at h1
      · exact (h.nm _ e s h1).resolve_left h2
    · simp at hp
  · simp at hs
theorem nameOk_size {s : ByteArray} (h : nameOk s = true) : 1 ≤ s.size ∧ s.size ≤ 6 := (of_decide_eq_true h).1
end Go.Proofs.YtljooldjcefkoaaGreat
