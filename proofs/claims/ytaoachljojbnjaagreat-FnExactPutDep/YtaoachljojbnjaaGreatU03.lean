/- Texts of the proof, bundled: Ln, Cm, Srt, So, Nd, Pt, Fo, Io, Ct, Mw, Lo, Nm, Rm, Pi, Rh, Pr, Ml, Md, Mp. -/
import Derived.Maps.RangeWalk
import Derived.Maps.OwnSet
import Derived.BigQuiet
import Derived.Shelf.SlSortCmp.NoneTotal
import Derived.Test.YtaoachljojbnjaaGreatProg
import Derived.MapKept
import Derived.WalkKit
import Derived.Test.YtaoachljojbnjaaGreatU01
import Derived.Test.YtaoachljojbnjaaGreatU02
/- Leaners: a map of pointers by Id; how they lie. No Go function is spoken of. -/
namespace Go.Proofs.YtaoachljojbnjaaGreat.Kit
open Go.RowKit Go.Maps
/-- A leaner: its place, what it holds, its block. -/
structure Ln where
  pl : Nat
  d : Dp
  b : Nat
/-- A pointer to a block, or none. -/
def ptrV : Option Nat → Value
  | none => .pointer none
  | some b => .pointer (some ⟨b, 0, none⟩)
def datP : Option Nat → DataW Nat
  | none => .nil
  | some b => .held b
/-- How such a pointer reads. -/
def ptrE : Value → Option (DataW Nat × List MemPlace)
  | .pointer none => some (.nil, [])
  | .pointer (some ⟨b, 0, none⟩) => some (.held b, [])
  | _ => none
theorem ptrE_mk (o : Option Nat) : ptrE (ptrV o) = some (datP o, []) := by cases o <;> rfl
theorem ptrE_inv {v : Value} {y : DataW Nat × List MemPlace} (h : ptrE v = some y) : ∃ o, v = ptrV o ∧ y = (datP o, []) := by
  unfold ptrE at h
  split at h
  · cases h; exact ⟨none, rfl, rfl⟩
  · cases h; exact ⟨some _, rfl, rfl⟩
  · cases h
theorem datP_inj {o o' : Option Nat} (h : datP o = datP o') : o = o' := by
  cases o <;> cases o' <;> simp [datP] at h ⊢
  exact h
/-- The last one's block with this Id. -/
def lastP (id : Int) (E : List Ln) : Option Nat := E.foldl (fun acc e => if e.d.id = id then some e.b else acc) none
theorem lastP_nil (id : Int) : lastP id [] = none := rfl
theorem lastP_snoc (id : Int) (E : List Ln) (e : Ln) : lastP id (E ++ [e]) = if e.d.id = id then some e.b else lastP id E := by simp [lastP, List.foldl_append]
theorem lastP_take (id : Int) (E : List Ln) (j : Nat) (h : j < E.length) : lastP id (E.take (j + 1)) = if E[j].d.id = id then some E[j].b else lastP id (E.take j) := by
  rw [← List.take_append_getElem h, lastP_snoc]
theorem lastP_spec (id : Int) (E : List Ln) : ∀ (t : Nat), t ≤ E.length → (lastP id (E.take t) = none ∧ ∀ (j : Nat) (h : j < E.length), j < t → E[j].d.id ≠ id) ∨ ∃ (i : Nat) (h : i < E.length), i < t ∧ lastP id (E.take t) = some E[i].b ∧ E[i].d.id = id ∧ ∀ (j : Nat) (h : j < E.length), i < j → j < t → E[j].d.id ≠ id := by
  intro t
  induction t with
  | zero => exact fun _ => .inl ⟨by simp [lastP], fun j _ h => by omega⟩
  | succ t ih =>
    intro ht
    rw [lastP_take id E t (by omega)]
    by_cases e : E[t].d.id = id
    · refine .inr ⟨t, by omega, by omega, by rw [if_pos e], e, fun j hj h1 h2 => by omega⟩
    · rw [if_neg e]
      rcases ih (by omega) with ⟨h1, h2⟩ | ⟨i, hi, h1, h2, h3, h4⟩
      · exact .inl ⟨h1, fun j hj hjt => by
          by_cases e2 : j = t
          · subst e2; exact e
          · exact h2 j hj (by omega)⟩
      · exact .inr ⟨i, hi, by omega, h2, h3, fun j hj h5 h6 => by
          by_cases e2 : j = t
          · subst e2; exact e
          · exact h4 j hj h5 (by omega)⟩
/-- The cells of a leaner. -/
def lnRow (d : Dp) (p : Value) (pl : Nat) (o : Option Nat) : Array Value := #[.int .i64 d.id, .int .i64 d.kd, .int .i64 d.io, .int .i64 d.pt, .int .i64 d.bk, .int .i64 d.sl, .string d.nm, .bool d.bt, .bool d.ot, .int .i64 d.af, p, .int .i64 (pl : Int), ptrV o]
/-- The map in block B holds the leaners E, whose lists are ps; all of it in blocks from L on. -/
structure LEN (P : Program) (w : World) (L B : Nat) (E : List Ln) (ps : List Value) (N : Nat) : Prop where
  len : ps.length = E.length
  map : ∃ D, w.ownsMap P 3 ptrE B N D ∧ (∀ id, (Lit.int .i64 id).wf = true → D.atKey (.int .i64 id) .nil = datP (lastP id E)) ∧ ∀ id, (Lit.int .i64 id).wf = true → Maps.has D (.int .i64 id) = (lastP id E).isSome
  cell : ∀ (j : Nat) (h : j < E.length) (h' : j < ps.length), AtC w E[j].b 88 (lnRow E[j].d ps[j] E[j].pl (lastP E[j].d.id (E.take j)))
  own : ∀ (j : Nat) (h : j < E.length) (h' : j < ps.length), ROwns w 0 3 ps[j] (ic E[j].d.bl)
  loB : L ≤ B
  lob : ∀ (j : Nat) (h : j < E.length), L ≤ E[j].b
  lop : ∀ (j : Nat) (h : j < ps.length) (k : Nat), ps[j].ownBlock = some k → L ≤ k
  nb : ∀ (i j : Nat) (hi : i < E.length) (hj : j < E.length), i ≠ j → E[i].b ≠ E[j].b
  nB : ∀ (j : Nat) (h : j < E.length), E[j].b ≠ B
  np : ∀ (i j : Nat) (hi : i < ps.length) (hj : j < ps.length), i ≠ j → ∀ k, ps[i].ownBlock = some k → ps[j].ownBlock ≠ some k
  npb : ∀ (i j : Nat) (hi : i < ps.length) (hj : j < E.length) (k : Nat), ps[i].ownBlock = some k → E[j].b ≠ k
  npB : ∀ (i : Nat) (hi : i < ps.length) (k : Nat), ps[i].ownBlock = some k → k ≠ B
  wf : ∀ (j : Nat) (h : j < E.length), (Lit.int .i64 E[j].d.id).wf = true
/-- The same, the map no longer than the list. -/
abbrev LE (P : Program) (w : World) (L B : Nat) (E : List Ln) (ps : List Value) : Prop := LEN P w L B E ps E.length
namespace LEN
variable {P : Program} {w w' w1 w2 : World} {L B : Nat} {E : List Ln} {ps : List Value} {N : Nat}
theorem lt (h : LEN P w L B E ps N) : B < w.heap.size := by obtain ⟨D, h1, -⟩ := h.map; exact h1.lt
theorem below (h : LEN P w L B E ps N) (hb : Below w.heap.size w w') : LEN P w' L B E ps N := by
  obtain ⟨D, h1, h2, h3⟩ := h.map
  exact ⟨h.len, ⟨D, h1.kept (grownBy_below hb none) (by simp), h2, h3⟩, fun j hj hj' => (h.cell j hj hj').over hb, fun j hj hj' => (h.own j hj hj').below hb (Nat.le_refl _), h.loB, h.lob, h.lop, h.nb, h.nB, h.np, h.npb, h.npB, h.wf⟩
theorem mono (h : LEN P w L B E ps N) {L' : Nat} (hl : L' ≤ L) : LEN P w L' B E ps N :=
  ⟨h.len, h.map, h.cell, h.own, Nat.le_trans hl h.loB, fun j hj => Nat.le_trans hl (h.lob j hj), fun j hj k hk => Nat.le_trans hl (h.lop j hj k hk), h.nb, h.nB, h.np, h.npb, h.npB, h.wf⟩
/-- What lies at an Id. -/
theorem look (h : LEN P w L B E ps N) {t e : TypeId} (hk : P.underlying 3 = some (.int .i64)) (ht : P.underlying t = some (.map 3 e)) (hz : ∀ w, (zeroValue e).run P w = .ok (.pointer none) w) {id : Int} (hw : (Lit.int .i64 id).wf = true) :
    (Instr.lookup t (.map (some B)) (.int .i64 id) false).run P w = .ok (ptrV (lastP id E)) w := by
  obtain ⟨D, h1, h2, -⟩ := h.map
  obtain ⟨v, q, hr, hv⟩ := h1.lookup (int_keyed hk) ht (hz w) (ptrE_mk none) (keyOf_int_mk hk hw)
  obtain ⟨o, rfl, ho⟩ := ptrE_inv hv
  have e1 : D.atKey (.int .i64 id) .nil = datP o := by
    have := congrArg Prod.fst ho
    exact this
  rw [h2 id hw] at e1
  rw [hr, datP_inj e1]
end LEN
namespace LE
variable {P : Program} {w w' w1 w2 : World} {L B : Nat} {E : List Ln} {ps : List Value}
theorem nil (P : Program) (w : World) : LE P (w.alloc (.map #[] 0)) w.heap.size w.heap.size [] [] :=
  ⟨rfl, ⟨_, World.ownsMap_made _ _ _ _, fun id _ => rfl, fun id _ => rfl⟩, fun j h => by simp at h, fun j h => by simp at h, Nat.le_refl _, fun j h => by simp at h, fun j h => by simp at h, fun i j h => by simp at h, fun j h => by simp at h, fun i j h => by simp at h, fun i j h => by simp at h, fun i h => by simp at h, fun j h => by simp at h⟩
/-- A leaner is put: in a world w1 that has only grown it lies in a block of its own, its list too; then the map is stored into. -/
theorem put (h : LE P w L B E ps) (hk : P.underlying 3 = some (.int .i64)) (hb : Below w.heap.size w w1) {g : Nat} {p : Value} {d : Dp} {pl : Nat} (hg : AtC w1 g 88 (lnRow d p pl (lastP d.id E))) (hgl : w.heap.size ≤ g) (hp : ROwns w1 0 3 p (ic d.bl)) (hpl : ∀ k, p.ownBlock = some k → w.heap.size ≤ k ∧ k ≠ g) (hw : (Lit.int .i64 d.id).wf = true) (hL : L ≤ w.heap.size) :
    ∃ D, w1.ownsMap P 3 ptrE B E.length D ∧ ∀ w2, w2.ownsMap P 3 ptrE B (E.length + 1) (D.put (.int .i64 d.id) (.held g)) → w1.grownBy w2 (some B) → LE P w2 L B (E ++ [⟨pl, d, g⟩]) (ps ++ [p]) := by
  have h1 := h.below hb
  have hBl := h.lt
  have hbl : ∀ (j : Nat) (hj : j < E.length), E[j].b < w.heap.size := fun j hj => (h.cell j hj (by rw [h.len]; exact hj)).lt
  have hpl0 : ∀ (j : Nat) (hj : j < ps.length) (k : Nat), ps[j].ownBlock = some k → k < w.heap.size := fun j hj k hk => ((h.own j (by rw [← h.len]; exact hj) hj).lt k hk).2
  obtain ⟨D, m1, m2, m3⟩ := h1.map
  refine ⟨D, m1, fun w2 hm hgr => ?_⟩
  have hsz := hb.size
  have oth : ∀ k, k < w1.heap.size → k ≠ B → w2.heap[k]? = w1.heap[k]? := fun k hk hne => hgr.block k hk (fun e => hne (by cases e; rfl))
  have hkl : WideAt.IsKeyLit (.int .i64 d.id) := (int_keyed hk).key (keyOf_int_mk hk hw)
  have hlen := h.len
  have at_e : ∀ (j : Nat) (hj : j < (E ++ [(⟨pl, d, g⟩ : Ln)]).length), (∃ h' : j < E.length, (E ++ [(⟨pl, d, g⟩ : Ln)])[j] = E[j] ∧ (E ++ [(⟨pl, d, g⟩ : Ln)]).take j = E.take j) ∨ (j = E.length ∧ (E ++ [(⟨pl, d, g⟩ : Ln)])[j] = ⟨pl, d, g⟩ ∧ (E ++ [(⟨pl, d, g⟩ : Ln)]).take j = E) := fun j hj => by
    by_cases e : j < E.length
    · exact .inl ⟨e, List.getElem_append_left e, List.take_append_of_le_length (Nat.le_of_lt e)⟩
    · have e2 : j = E.length := by simp at hj; omega
      subst e2
      exact .inr ⟨rfl, by simp, by simp⟩
  have at_p : ∀ (j : Nat) (hj : j < (ps ++ [p]).length), (∃ h' : j < ps.length, (ps ++ [p])[j] = ps[j]) ∨ (j = ps.length ∧ (ps ++ [p])[j] = p) := fun j hj => by
    by_cases e : j < ps.length
    · exact .inl ⟨e, List.getElem_append_left e⟩
    · have e2 : j = ps.length := by simp at hj; omega
      subst e2
      exact .inr ⟨rfl, by simp⟩
  refine ⟨by simp [hlen], ⟨_, by rw [List.length_append]; exact hm, fun id hid => ?_, fun id hid => ?_⟩, fun j hj hj' => ?_, fun j hj hj' => ?_, h.loB, fun j hj => ?_, fun j hj k hk => ?_, fun i j hi hj hne => ?_, fun j hj => ?_, fun i j hi hj hne k e1 e2 => ?_, fun i j hi hj k e1 => ?_, fun i hi k e1 => ?_, fun j hj => ?_⟩
  · rw [lastP_snoc]
    by_cases e : d.id = id
    · subst e
      rw [if_pos rfl, atKey_put_same m1.isMap hkl]
      rfl
    · rw [if_neg e, atKey_put_other (fun q => e (by injection q with _ q2; exact q2.symm)), m2 id hid]
  · rw [lastP_snoc]
    by_cases e : d.id = id
    · subst e
      rw [if_pos rfl, has_put_same m1.isMap hkl]
      rfl
    · rw [if_neg e, has_put_other (fun q => e (by injection q with _ q2; exact q2.symm)), m3 id hid]
  · rcases at_e j hj with ⟨h', q1, q2⟩ | ⟨q0, q1, q2⟩
    · rcases at_p j hj' with ⟨h2, r1⟩ | ⟨r0, -⟩
      · rw [q1, q2, r1]
        exact (oth _ (by have := hbl j h'; omega) (h.nB j h')).trans (h1.cell j h' h2)
      · omega
    · rcases at_p j hj' with ⟨h2, -⟩ | ⟨-, r1⟩
      · omega
      · rw [q1, q2, r1]
        exact (oth g hg.lt (by omega)).trans hg
  · rcases at_e j hj with ⟨h', q1, -⟩ | ⟨q0, q1, -⟩
    · rcases at_p j hj' with ⟨h2, r1⟩ | ⟨r0, -⟩
      · rw [q1, r1]
        exact (h1.own j h' h2).of_heap fun k hk => oth k (by have := hpl0 j h2 k hk; omega) (h.npB j h2 k hk)
      · omega
    · rcases at_p j hj' with ⟨h2, -⟩ | ⟨-, r1⟩
      · omega
      · rw [q1, r1]
        exact hp.of_heap fun k hk => oth k (hp.lt k hk).2 (by have := (hpl k hk).1; omega)
  · rcases at_e j hj with ⟨h', q1, -⟩ | ⟨-, q1, -⟩
    · rw [q1]; exact h.lob j h'
    · rw [q1]; show L ≤ g; omega
  · rcases at_p j hj with ⟨h2, r1⟩ | ⟨-, r1⟩
    · rw [r1] at hk; exact h.lop j h2 k hk
    · rw [r1] at hk; have := (hpl k hk).1; omega
  · rcases at_e i hi with ⟨h1', q1, -⟩ | ⟨q0, q1, -⟩ <;> rcases at_e j hj with ⟨h2', r1, -⟩ | ⟨r0, r1, -⟩ <;> rw [q1, r1]
    · exact h.nb i j h1' h2' hne
    · have := hbl i h1'; show E[i].b ≠ g; omega
    · have := hbl j h2'; show g ≠ E[j].b; omega
    · omega
  · rcases at_e j hj with ⟨h', q1, -⟩ | ⟨-, q1, -⟩
    · rw [q1]; exact h.nB j h'
    · rw [q1]; show g ≠ B; omega
  · rcases at_p i hi with ⟨h1', q1⟩ | ⟨q0, q1⟩ <;> rcases at_p j hj with ⟨h2', r1⟩ | ⟨r0, r1⟩ <;> rw [q1] at e1 <;> rw [r1] at e2
    · exact h.np i j h1' h2' hne k e1 e2
    · have := hpl0 i h1' k e1; have := (hpl k e2).1; omega
    · have := hpl0 j h2' k e2; have := (hpl k e1).1; omega
    · omega
  · rcases at_p i hi with ⟨h1', q1⟩ | ⟨q0, q1⟩ <;> rcases at_e j hj with ⟨h2', r1, -⟩ | ⟨r0, r1, -⟩ <;> rw [q1] at e1 <;> rw [r1]
    · exact h.npb i j h1' h2' k e1
    · have := hpl0 i h1' k e1; show g ≠ k; omega
    · have := (hpl k e1).1; have := hbl j h2'; show E[j].b ≠ k; omega
    · exact fun e => (hpl k e1).2 e.symm
  · rcases at_p i hi with ⟨h1', q1⟩ | ⟨q0, q1⟩ <;> rw [q1] at e1
    · exact h.npB i h1' k e1
    · have := (hpl k e1).1; omega
  · rcases at_e j hj with ⟨h', q1, -⟩ | ⟨-, q1, -⟩
    · rw [q1]; exact h.wf j h'
    · rw [q1]; exact hw
end LE
end Go.Proofs.YtaoachljojbnjaaGreat.Kit
/- Places are compared: cmp.Compare at ints, and the closure of leaners.inOrder. -/
namespace Go.Proofs.YtaoachljojbnjaaGreat
open Go.RowKit Kit
def cmpI (x y : Int) : Int := if x < y then -1 else if y < x then 1 else 0
theorem isNaN_any (x : Int) (w : World) : Calls Tryz.prog 86 #[.int .i64 x] w fun e w' => e = .returned (.bool false) ∧ w' = w := by
  go_enter Tryz.func86, Tryz.ntmps86
  go_wp2
  go_ret
  simp
theorem compare_any (x y : Int) (w : World) : Calls Tryz.prog 75 #[.int .i64 x, .int .i64 y] w fun e w' => e = .returned (.int .i64 (cmpI x y)) ∧ w' = w := by
  unfold cmpI
  go_enter Tryz.func75, Tryz.ntmps75
  by_cases h : x < y
  · go_wp2_with (go_at_call 86; refine (isNaN_any _ _).mono ?_; rintro e w1 ⟨rfl, rfl⟩)
    go_ret
    simp
  · by_cases h2 : y < x
    · go_wp2_with (go_at_call 86; refine (isNaN_any _ _).mono ?_; rintro e w1 ⟨rfl, rfl⟩)
      go_ret
      simp
    · go_wp2_with (go_at_call 86; refine (isNaN_any _ _).mono ?_; rintro e w1 ⟨rfl, rfl⟩)
      go_ret
      simp
theorem byPlace_any (g1 g2 : Nat) (x y : Int) (w : World) (h1 : w.cell? ⟨g1, 11, none⟩ = some (.int .i64 x)) (h2 : w.cell? ⟨g2, 11, none⟩ = some (.int .i64 y)) :
    Calls Tryz.prog 74 #[.pointer (some ⟨g1, 0, none⟩), .pointer (some ⟨g2, 0, none⟩)] w fun e w' => e = .returned (.int .i64 (cmpI x y)) ∧ ∃ q, w' = w.drewN q := by
  go_enter Tryz.func74, Tryz.ntmps74
  go_wp2
  go_quiet ((go_at_call 75; exact Calls.quiet_of_same (compare_any _ _ _)))
  go_wp2_with fail
  go_ret
  exact ⟨rfl, _, rfl⟩
end Go.Proofs.YtaoachljojbnjaaGreat
/- Library contracts laid at this translation by the shelf (its own tool, plain mode). -/
namespace Go.Proofs.YtaoachljojbnjaaGreat
open Go.Shelf
def Tryz.sortL_ren : Go.Shelf.Ren := ⟨fun | 6 => 73 | 15 => 85 | 14 => 84 | 28 => 98 | 29 => 99 | 20 => 90 | 21 => 91 | 22 => 92 | 23 => 93 | 24 => 94 | 25 => 95 | 26 => 96 | 27 => 97 | 46 => 101 | 47 => 102 | 48 => 103 | 49 => 104 | 50 => 105 | 57 => 106 | n => n, fun | 22 => 114 | 24 => 85 | 25 => 117 | 3 => 3 | 39 => 129 | 0 => 0 | 53 => 145 | 55 => 147 | 4 => 4 | 46 => 138 | 45 => 137 | 50 => 142 | 5 => 5 | 9 => 9 | 66 => 149 | 70 => 153 | 76 => 155 | 77 => 156 | n => n, fun | n => n⟩
theorem Tryz.sortL : Go.Proofs.SlLaysF.n6 Tryz.prog Tryz.sortL_ren := {
  mixed := by kernel_rfl
  f6 := ⟨Tryz.f73.name, by decide, Tryz.func73.trans (congrArg some (by kernel_rfl))⟩
  f14 := ⟨Tryz.f84.name, by decide, Tryz.func84.trans (congrArg some (by kernel_rfl))⟩
  f15 := Tryz.func85.trans (congrArg some (by kernel_rfl))
  f20 := ⟨Tryz.f90.name, by decide, Tryz.func90.trans (congrArg some (by kernel_rfl))⟩
  f21 := ⟨Tryz.f91.name, by decide, Tryz.func91.trans (congrArg some (by kernel_rfl))⟩
  f22 := ⟨Tryz.f92.name, by decide, Tryz.func92.trans (congrArg some (by kernel_rfl))⟩
  f23 := ⟨Tryz.f93.name, by decide, Tryz.func93.trans (congrArg some (by kernel_rfl))⟩
  f24 := ⟨Tryz.f94.name, by decide, Tryz.func94.trans (congrArg some (by kernel_rfl))⟩
  f25 := ⟨Tryz.f95.name, by decide, Tryz.func95.trans (congrArg some (by kernel_rfl))⟩
  f26 := ⟨Tryz.f96.name, by decide, Tryz.func96.trans (congrArg some (by kernel_rfl))⟩
  f27 := ⟨Tryz.f97.name, by decide, Tryz.func97.trans (congrArg some (by kernel_rfl))⟩
  f28 := Tryz.func98.trans (congrArg some (by kernel_rfl))
  f29 := Tryz.func99.trans (congrArg some (by kernel_rfl))
  f46 := ⟨Tryz.f101.name, by decide, Tryz.func101.trans (congrArg some (by kernel_rfl))⟩
  f47 := Tryz.func102.trans (congrArg some (by kernel_rfl))
  f48 := Tryz.func103.trans (congrArg some (by kernel_rfl))
  f49 := ⟨Tryz.f104.name, by decide, Tryz.func104.trans (congrArg some (by kernel_rfl))⟩
  f50 := ⟨Tryz.f105.name, by decide, Tryz.func105.trans (congrArg some (by kernel_rfl))⟩
  f57 := ⟨Tryz.f106.name, by decide, Tryz.func106.trans (congrArg some (by kernel_rfl))⟩
  t0 := Tryz.underlying0
  a0 := Tryz.isAgg0
  z0 := Tryz.sizeOf0
  v0 := Tryz.zeroValue0
  t3 := Tryz.underlying3
  a3 := Tryz.isAgg3
  z3 := Tryz.sizeOf3
  v3 := Tryz.zeroValue3
  t4 := Tryz.underlying4
  a4 := Tryz.isAgg4
  z4 := Tryz.sizeOf4
  v4 := Tryz.zeroValue4
  t5 := Tryz.underlying5
  a5 := Tryz.isAgg5
  z5 := Tryz.sizeOf5
  v5 := Tryz.zeroValue5
  t9 := Tryz.underlying9
  a9 := Tryz.isAgg9
  z9 := Tryz.sizeOf9
  v9 := Tryz.zeroValue9
  t22 := Tryz.underlying114
  a22 := Tryz.isAgg114
  z22 := Tryz.sizeOf114
  v22 := Tryz.zeroValue114
  a24 := Tryz.isAgg85
  z24 := Tryz.sizeOf85
  t25 := Tryz.underlying117
  a25 := Tryz.isAgg117
  z25 := Tryz.sizeOf117
  v25 := Tryz.zeroValue117
  t39 := Tryz.underlying129
  a39 := Tryz.isAgg129
  z39 := Tryz.sizeOf129
  v39 := Tryz.zeroValue129
  t45 := Tryz.underlying137
  a45 := Tryz.isAgg137
  z45 := Tryz.sizeOf137
  v45 := Tryz.zeroValue137
  t46 := Tryz.underlying138
  a46 := Tryz.isAgg138
  z46 := Tryz.sizeOf138
  v46 := Tryz.zeroValue138
  t50 := Tryz.underlying142
  a50 := Tryz.isAgg142
  z50 := Tryz.sizeOf142
  v50 := Tryz.zeroValue142
  t53 := Tryz.underlying145
  a53 := Tryz.isAgg145
  z53 := Tryz.sizeOf145
  v53 := Tryz.zeroValue145
  t55 := Tryz.underlying147
  a55 := Tryz.isAgg147
  z55 := Tryz.sizeOf147
  v55 := Tryz.zeroValue147
  t66 := Tryz.underlying149
  a66 := Tryz.isAgg149
  z66 := Tryz.sizeOf149
  v66 := Tryz.zeroValue149
  t70 := Tryz.underlying153
  a70 := Tryz.isAgg153
  z70 := Tryz.sizeOf153
  v70 := Tryz.zeroValue153
  t76 := Tryz.underlying155
  a76 := Tryz.isAgg155
  z76 := Tryz.sizeOf155
  v76 := Tryz.zeroValue155
  t77 := Tryz.underlying156
  a77 := Tryz.isAgg156
  z77 := Tryz.sizeOf156
  v77 := Tryz.zeroValue156 }
end Go.Proofs.YtaoachljojbnjaaGreat
/- Pointers to leaners are sorted by place: slices.SortFunc at them. -/
namespace Go.Proofs.YtaoachljojbnjaaGreat
open Go.Shelf Go.RowKit Go.Lib Go.Sort Kit
theorem sortWorld_old {α : Type} [Inhabited α] (enc : α → Value) (w : World) (blk off m : Nat) (dk : Array α) (os : Array Obj) (k : Nat) (h1 : k ≠ blk) (h2 : k < w.heap.size) : (sortWorld enc w blk off m dk os).heap[k]? = w.heap[k]? := by
  unfold sortWorld
  have hs : (putRow enc (Sort.ahead w m) blk off dk).heap.size = w.heap.size := by simp [putRow, mapBlock, Sort.ahead]
  rw [heap_grow_old _ _ (by rw [hs]; exact h2)]
  simp only [putRow, mapBlock, Sort.ahead, Array.getElem?_modify]
  rw [if_neg (fun e => h1 e.symm)]
theorem cell_old {α : Type} [Inhabited α] (enc : α → Value) (w : World) (blk off m : Nat) (dk : Array α) (os : Array Obj) (a : Addr) (h1 : a.block ≠ blk) (h2 : a.block < w.heap.size) : (sortWorld enc w blk off m dk os).cell? a = w.cell? a := by
  simp only [World.cell?, sortWorld_old enc w blk off m dk os a.block h1 h2]
theorem sortWorld_below {α : Type} [Inhabited α] (enc : α → Value) (w : World) (blk off m : Nat) (dk : Array α) (os : Array Obj) (B : Nat) (hB : B ≤ blk) (hb : blk < w.heap.size) : Below B w (sortWorld enc w blk off m dk os) := by
  refine ⟨rfl, rfl, rfl, ?_, fun k hk => sortWorld_old enc w blk off m dk os k (by omega) (by omega)⟩
  have hs : (putRow enc (Sort.ahead w m) blk off dk).heap.size = w.heap.size := by simp [putRow, mapBlock, Sort.ahead]
  unfold sortWorld
  rw [size_grow, hs]
  omega
theorem cmpI_neg (x y : Int) : (cmpI x y < 0) ↔ x < y := by
  unfold cmpI
  split
  · simp; assumption
  · split
    · simp; omega
    · simp; omega
/-- All of them, sorted by place, stand in their order. -/
theorem sorted_fin (n : Nat) (F : List (Fin n)) (hF : F.Nodup) (hall : ∀ j, j ∈ F) (le : Fin n → Fin n → Bool) (hle : ∀ i j, le i j = decide (i ≤ j)) : F.mergeSort le = List.finRange n := by
  have hp : (F.mergeSort le).Perm (List.finRange n) := (List.mergeSort_perm F le).trans ((List.perm_ext_iff_of_nodup hF (List.nodup_finRange n)).2 fun a => ⟨fun _ => List.mem_finRange a, fun _ => hall a⟩)
  refine List.Perm.eq_of_pairwise (le := fun i j => le i j = true) (fun a b _ _ h1 h2 => ?_) (List.pairwise_mergeSort (fun a b c h1 h2 => ?_) (fun a b => ?_) F) ?_ hp
  · rw [hle] at h1 h2
    have h1 := of_decide_eq_true h1
    have h2 := of_decide_eq_true h2
    exact Fin.le_antisymm h1 h2
  · rw [hle] at h1 h2 ⊢
    have h1 := of_decide_eq_true h1
    have h2 := of_decide_eq_true h2
    exact decide_eq_true (Fin.le_trans h1 h2)
  · rw [hle, hle]
    rcases Fin.le_total a b with h | h <;> simp [h]
  · exact (List.pairwise_le_finRange n).imp fun h => by rw [hle]; exact decide_eq_true h
theorem sortL_any (E : List Ln) (F : List (Fin E.length)) (blk cap : Nat) (w : World) (hc : ∀ j : Fin E.length, w.cell? ⟨E[j].b, 11, none⟩ = some (.int .i64 (E[j].pl : Int))) (hlt : ∀ j : Fin E.length, E[j].b < w.heap.size) (hne : ∀ j : Fin E.length, E[j].b ≠ blk) (hpl : ∀ i j : Fin E.length, i < j → E[i].pl < E[j].pl)
    (hF : F.Nodup) (hall : ∀ j, j ∈ F) (h0 : 0 < E.length) (hl : E.length ≤ 1048576) (hblk : blk < w.heap.size)
    (hH : ∀ (k : Nat) (h : k < F.length), w.cell? ⟨blk, k, none⟩ = some (.pointer (some ⟨E[F[k]].b, 0, none⟩)) ∧ w.frozen? ⟨blk, k, none⟩ = false) :
    Calls Tryz.prog 73 #[.slice (some ⟨blk, 0, none⟩) F.length cap, .func (.func 74) #[] #[]] w fun e w' => e = .returned (.tuple #[]) ∧ Below blk w w' ∧ (∀ k, k ≠ blk → k < w.heap.size → w'.heap[k]? = w.heap[k]?) ∧ ∀ (k : Nat) (h : k < E.length), w'.cell? ⟨blk, k, none⟩ = some (.pointer (some ⟨E[k].b, 0, none⟩)) := by
  haveI : Inhabited (Fin E.length) := ⟨⟨0, h0⟩⟩
  have hFl : F.length = E.length := by
    have := ((List.perm_ext_iff_of_nodup hF (List.nodup_finRange E.length)).2 fun a => ⟨fun _ => List.mem_finRange a, fun _ => hall a⟩).length_eq
    simpa using this
  have hlt' : ∀ i j : Fin E.length, ltOf (fun i j : Fin E.length => cmpI (E[i].pl : Int) (E[j].pl : Int)) i j = decide (i < j) := fun i j => by
    unfold ltOf
    by_cases h : i < j
    · have := hpl i j h
      rw [decide_eq_true ((cmpI_neg _ _).2 (by omega)), decide_eq_true h]
    · rw [decide_eq_false h, decide_eq_false]
      rw [cmpI_neg]
      by_cases e : i = j
      · subst e; omega
      · have := hpl j i (by omega)
        omega
  have eg : ∀ args w, (callFunc 74 args).run Tryz.prog w = .ok (.enter 74 args) w := enters_of Tryz.func74 (by kernel_rfl) rfl
  have hcon := Any.slices_SortFunc_total Tryz.sortL (fun j : Fin E.length => Value.pointer (some ⟨E[j].b, 0, none⟩)) (fun _ => rfl) (fun i j : Fin E.length => cmpI (E[i].pl : Int) (E[j].pl : Int))
    ⟨fun x => by rw [hlt']; simp, fun x y z h1 h2 => by rw [hlt'] at *; simp at *; omega, fun x y z h1 h2 => by rw [hlt'] at *; simp at *; omega⟩ 74 #[] blk 0 cap F.toArray w eg
    (CmpReads.lays fun m os dk _ x y => byPlace_any _ _ _ _ _ (by rw [cell_old _ _ _ _ _ _ _ _ (hne x) (hlt x)]; exact hc x) (by rw [cell_old _ _ _ _ _ _ _ _ (hne y) (hlt y)]; exact hc y))
    (fun k hk => by
      have hk' : k < F.length := by simpa using hk
      have := hH k hk'
      rw [Nat.zero_add]
      refine ⟨this.1.trans ?_, this.2⟩
      rw [getElem!_pos F.toArray k hk]
      rfl) hblk (by simp; omega) (fun x y h1 h2 => by rw [hlt'] at *; simp at *; omega)
  change Calls Tryz.prog 73 _ _ _ at hcon
  rw [List.size_toArray] at hcon
  refine hcon.mono ?_
  rintro e w' ⟨rfl, n, os, rfl⟩
  rw [show F.toArray.toList.mergeSort (fun x y => !(ltOf (fun i j : Fin E.length => cmpI (E[i].pl : Int) (E[j].pl : Int)) y x)) = List.finRange E.length from sorted_fin _ _ hF hall _ fun i j => by rw [hlt']; by_cases h : i ≤ j <;> simp [h] <;> omega]
  refine ⟨rfl, sortWorld_below _ _ _ _ _ _ _ _ (Nat.le_refl _) hblk, fun k h1 h2 => sortWorld_old _ _ _ _ _ _ _ k h1 h2, fun k hk => ?_⟩
  have h1 := (holds_sortWorld (fun j : Fin E.length => Value.pointer (some ⟨E[j].b, 0, none⟩)) w blk 0 n F.toArray (List.finRange E.length).toArray os hblk (fun k hk => by
      have hk' : k < F.length := by simpa using hk
      have := hH k hk'
      rw [Nat.zero_add]
      refine ⟨this.1.trans ?_, this.2⟩
      rw [getElem!_pos F.toArray k hk]
      rfl) (by simp [hFl]) k (by simpa using hk)).1
  rw [Nat.zero_add] at h1
  rw [h1, getElem!_pos _ k (by simpa using hk)]
  simp
end Go.Proofs.YtaoachljojbnjaaGreat
/- impl.newDep by its contract. -/
namespace Go.Proofs.YtaoachljojbnjaaGreat
open Go.RowKit Kit
set_option maxRecDepth 100000 in
set_option maxHeartbeats 1600000 in
theorem newDep_any (id kd io pt bk sl : Int) (nm : ByteArray) (bt ot : Bool) (af : Int) (bl : List Int) (p : Value) (w : World) (hv : RInts w p bl) (hl : bl.length ≤ 1048576) (hn : nm.size ≤ 1048576) :
    Calls Tryz.prog 48 #[.agg #[.int .i64 id, .int .i64 kd, .int .i64 io, .int .i64 pt, .int .i64 bk, .int .i64 sl, .string nm, .bool bt, .bool ot, .int .i64 af, p]] w fun e w' => ∃ u, e = .returned (.agg #[.int .i64 id, .int .i64 kd, .int .i64 io, .int .i64 pt, .int .i64 bk, .int .i64 sl, .string nm, .bool bt, .bool ot, .int .i64 af, u]) ∧ ROwns w' w.heap.size 3 u (ic bl) ∧ Below w.heap.size w w' := by
  have HV := hide hv
  obtain ⟨a, c, rfl⟩ := hv.form
  clear hv
  go_enter Tryz.func48, Tryz.ntmps48
  go_wp2_with fail
  refine (clone_any nm _ (Nat.le_trans hn (by decide))).mono ?_
  rintro e w1 ⟨rfl, B1⟩
  have K0 : AtC w1 w.heap.size 48 #[.int .i64 id, .int .i64 kd, .int .i64 io, .int .i64 pt, .int .i64 bk, .int .i64 sl, .string nm, .bool bt, .bool ot, .int .i64 af, .slice a bl.length c] := ((AtC.new w 48 _).alloc _).over B1
  have K1 : AtC w1 (w.heap.size + 1) 48 #[.int .i64 0, .int .i64 0, .int .i64 0, .int .i64 0, .int .i64 0, .int .i64 0, .string ⟨#[]⟩, .bool false, .bool false, .int .i64 0, .slice none 0 0] := by
    have := (AtC.new (w.alloc (.cells #[.int .i64 id, .int .i64 kd, .int .i64 io, .int .i64 pt, .int .i64 bk, .int .i64 sl, .string nm, .bool bt, .bool ot, .int .i64 af, .slice a bl.length c] 48)) 48 #[.int .i64 0, .int .i64 0, .int .i64 0, .int .i64 0, .int .i64 0, .int .i64 0, .string ⟨#[]⟩, .bool false, .bool false, .int .i64 0, .slice none 0 0]).over B1
    simpa using this
  have BW : Below w.heap.size w w1 := (((Below.refl _ w).alloc (Nat.le_refl _) _).alloc (by simp) _).trans (B1.mono (by simp; omega))
  have hs1 : w.heap.size + 1 + 1 ≤ w1.heap.size := by have := B1.size; simpa using this
  have p6 : w1.cell? ⟨w.heap.size, 6, none⟩ = some (.string nm) := K0.cell 6
  have y6 := K0.frozen 6
  have HK : Hid (AtC (w1.setCell ⟨w.heap.size, 6, none⟩ (.string nm)) w.heap.size 48 #[.int .i64 id, .int .i64 kd, .int .i64 io, .int .i64 pt, .int .i64 bk, .int .i64 sl, .string nm, .bool bt, .bool ot, .int .i64 af, .slice a bl.length c] ∧ AtC (w1.setCell ⟨w.heap.size, 6, none⟩ (.string nm)) (w.heap.size + 1) 48 #[.int .i64 0, .int .i64 0, .int .i64 0, .int .i64 0, .int .i64 0, .int .i64 0, .string ⟨#[]⟩, .bool false, .bool false, .int .i64 0, .slice none 0 0] ∧ Below w.heap.size w (w1.setCell ⟨w.heap.size, 6, none⟩ (.string nm))) := ⟨K0.set 6 (.string nm), K1.other (by omega) _, BW.setCell (by simp) _⟩
  obtain ⟨W1, hW1⟩ : ∃ W1, w1.setCell ⟨w.heap.size, 6, none⟩ (.string nm) = W1 := ⟨_, rfl⟩
  have hsz1 : W1.heap.size = w1.heap.size := by rw [← hW1]; simp
  rw [hW1] at HK
  have r10 : W1.cell? ⟨w.heap.size, 10, none⟩ = some (.slice a bl.length c) := HK.out.1.cell 10
  clear B1 K0 K1 BW
  go_wp2_with fail
  refine (newI_any _ bl _ (HV.out.below HK.out.2.2 (Nat.le_refl _)) hl).mono ?_
  rintro e w2 ⟨u, rfl, O2, B2⟩
  obtain ⟨a1, c1, rfl⟩ := O2.rints.form
  have L0 := HK.out.1.over B2
  have L1 := HK.out.2.1.over B2
  have O3 : ROwns w2 (w.heap.size + 1 + 1) 3 (.slice a1 bl.length c1) (ic bl) := O2.base_le (by omega)
  have B3 := HK.out.2.2.trans (B2.mono HK.out.2.2.size)
  have d0 : w2.cell? ⟨w.heap.size, 0, none⟩ = some (.int .i64 id) := L0.cell 0
  have d1 : w2.cell? ⟨w.heap.size, 1, none⟩ = some (.int .i64 kd) := L0.cell 1
  have d2 : w2.cell? ⟨w.heap.size, 2, none⟩ = some (.int .i64 io) := L0.cell 2
  have d3 : w2.cell? ⟨w.heap.size, 3, none⟩ = some (.int .i64 pt) := L0.cell 3
  have d4 : w2.cell? ⟨w.heap.size, 4, none⟩ = some (.int .i64 bk) := L0.cell 4
  have d5 : w2.cell? ⟨w.heap.size, 5, none⟩ = some (.int .i64 sl) := L0.cell 5
  have d6 : w2.cell? ⟨w.heap.size, 6, none⟩ = some (.string nm) := L0.cell 6
  have d7 : w2.cell? ⟨w.heap.size, 7, none⟩ = some (.bool bt) := L0.cell 7
  have d8 : w2.cell? ⟨w.heap.size, 8, none⟩ = some (.bool ot) := L0.cell 8
  have d9 : w2.cell? ⟨w.heap.size, 9, none⟩ = some (.int .i64 af) := L0.cell 9
  have d10 : w2.cell? ⟨w.heap.size, 10, none⟩ = some (.slice a bl.length c) := L0.cell 10
  have q0 : w2.cell? ⟨w.heap.size + 1, 0, none⟩ = some (.int .i64 0) := L1.cell 0
  have z0 := L1.frozen 0
  have q1 : w2.cell? ⟨w.heap.size + 1, 1, none⟩ = some (.int .i64 0) := L1.cell 1
  have z1 := L1.frozen 1
  have q2 : w2.cell? ⟨w.heap.size + 1, 2, none⟩ = some (.int .i64 0) := L1.cell 2
  have z2 := L1.frozen 2
  have q3 : w2.cell? ⟨w.heap.size + 1, 3, none⟩ = some (.int .i64 0) := L1.cell 3
  have z3 := L1.frozen 3
  have q4 : w2.cell? ⟨w.heap.size + 1, 4, none⟩ = some (.int .i64 0) := L1.cell 4
  have z4 := L1.frozen 4
  have q5 : w2.cell? ⟨w.heap.size + 1, 5, none⟩ = some (.int .i64 0) := L1.cell 5
  have z5 := L1.frozen 5
  have q6 : w2.cell? ⟨w.heap.size + 1, 6, none⟩ = some (.string ⟨#[]⟩) := L1.cell 6
  have z6 := L1.frozen 6
  have q7 : w2.cell? ⟨w.heap.size + 1, 7, none⟩ = some (.bool false) := L1.cell 7
  have z7 := L1.frozen 7
  have q8 : w2.cell? ⟨w.heap.size + 1, 8, none⟩ = some (.bool false) := L1.cell 8
  have z8 := L1.frozen 8
  have q9 : w2.cell? ⟨w.heap.size + 1, 9, none⟩ = some (.int .i64 0) := L1.cell 9
  have z9 := L1.frozen 9
  have q10 : w2.cell? ⟨w.heap.size + 1, 10, none⟩ = some (.slice none 0 0) := L1.cell 10
  have z10 := L1.frozen 10
  have y10 := L0.frozen 10
  have HO := hide O3
  have HB := hide B3
  clear O2 O3 B2 B3 L0 L1 HK r10 p6 y6 hW1 hsz1
  go_wp2
  refine bodyPost_ret (v := .agg #[.int .i64 id, .int .i64 kd, .int .i64 io, .int .i64 pt, .int .i64 bk, .int .i64 sl, .string nm, .bool bt, .bool ot, .int .i64 af, .slice a1 bl.length c1]) (by simp [results, go_sem, q0, q1, q2, q3, q4, q5, q6, q7, q8, q9, q10]) rfl ⟨_, rfl, ?_, ?_⟩
  · exact ((((((((((((HO.out.setCell_other (by omega) _).setCell_other (by omega) _).setCell_other (by omega) _).setCell_other (by omega) _).setCell_other (by omega) _).setCell_other (by omega) _).setCell_other (by omega) _).setCell_other (by omega) _).setCell_other (by omega) _).setCell_other (by omega) _).setCell_other (by omega) _).setCell_other (by omega) _).base_le (by omega)
  · exact ((((((((((((HB.out.setCell (by simp) _).setCell (by simp) _).setCell (by simp) _).setCell (by simp) _).setCell (by simp) _).setCell (by simp) _).setCell (by simp) _).setCell (by simp) _).setCell (by simp) _).setCell (by simp) _).setCell (by simp) _).setCell (by simp) _)
end Go.Proofs.YtaoachljojbnjaaGreat
/- A leaner is put: leaners.put by its contract. -/
namespace Go.Proofs.YtaoachljojbnjaaGreat.Kit
open Go.RowKit Go.Maps
theorem lnRow_mk (d : Dp) (p : Value) (pl : Nat) (o : Option Nat) : lnRow d p pl o = #[.int .i64 d.id, .int .i64 d.kd, .int .i64 d.io, .int .i64 d.pt, .int .i64 d.bk, .int .i64 d.sl, .string d.nm, .bool d.bt, .bool d.ot, .int .i64 d.af, p, .int .i64 (pl : Int), ptrV o] := rfl
/-- One that leans, copied. -/
def MkPv (k : Nat) (d : Dp) : Mk := .val [k] (fun lo hi w v => ∃ a c, v = .agg (d.row (.slice a d.bl.length c)).toArray ∧ ROwns w lo 3 (.slice a d.bl.length c) (ic d.bl) ∧ ∀ i, (Value.slice a d.bl.length c).ownBlock = some i → i < hi)
  (fun _ _ _ _ _ h hb => by obtain ⟨a, c, h1, h2, h3⟩ := h; exact ⟨a, c, h1, h2.below hb (Nat.le_refl _), h3⟩)
/-- A leaner built. -/
def MkPl (k i j : Nat) (d : Dp) (pl : Nat) (o : Option Nat) : Mk := ⟨[k, i, j], fun _ _ _ v x => ∃ a c, x k = .agg (d.row (.slice a d.bl.length c)).toArray ∧ v = .agg (lnRow d (.slice a d.bl.length c) pl o), fun _ _ _ _ _ _ h _ => h, fun _ _ _ _ x x' e h => by
  obtain ⟨a, c, h1, h2⟩ := h
  exact ⟨a, c, by rw [← e k (by simp), h1], h2⟩⟩
/-- A leaner in a block. -/
def MkPb (k : Nat) (d : Dp) (pl : Nat) (o : Option Nat) : Mk := .val1 [k] k (by simp) (fun lo hi w u v => v = .pointer (some ⟨lo, 0, none⟩) ∧ hi = lo + 1 ∧ ∃ a c, u = .agg (lnRow d (.slice a d.bl.length c) pl o) ∧ AtC w lo 88 (lnRow d (.slice a d.bl.length c) pl o))
  (fun _ _ _ _ _ _ h hb => by obtain ⟨h1, h2, a, c, h3, h4⟩ := h; exact ⟨h1, h2, a, c, h3, h4.over hb⟩)
end Go.Proofs.YtaoachljojbnjaaGreat.Kit
namespace Go.Proofs.YtaoachljojbnjaaGreat
open Go.RowKit Kit Go.Maps
theorem Tryz.u3 : Tryz.prog.underlying 3 = some (.int .i64) := by kernel_rfl
theorem Tryz.u67 : Tryz.prog.underlying 67 = some (.map 3 85) := by kernel_rfl
theorem Tryz.z98 (w : World) : (zeroValue 85).run Tryz.prog w = .ok (.pointer none) w := by kernel_rfl
set_option maxRecDepth 100000 in
set_option maxHeartbeats 1600000 in
theorem put_any (L B : Nat) (E : List Ln) (ps : List Value) (pl : Nat) (id kd io pt bk sl : Int) (nm : ByteArray) (bt ot : Bool) (af : Int) (bl : List Int) (p : Value) (w : World) (h : LE Tryz.prog w L B E ps) (hv : RInts w p bl) (hl : bl.length ≤ 1048576) (hn : nm.size ≤ 1048576) (hw : (Lit.int .i64 id).wf = true) (hE : E.length < 1048576) (hL : L ≤ w.heap.size) :
    Calls Tryz.prog 28 #[.map (some B), .agg #[.int .i64 id, .int .i64 kd, .int .i64 io, .int .i64 pt, .int .i64 bk, .int .i64 sl, .string nm, .bool bt, .bool ot, .int .i64 af, p], .int .i64 (pl : Int)] w fun e w' => e = .returned (.tuple #[]) ∧ ∃ g u, LE Tryz.prog w' L B (E ++ [⟨pl, (⟨id, kd, io, pt, bk, sl, nm, bt, ot, af, bl⟩ : Dp), g⟩]) (ps ++ [u]) ∧ w.grownBy w' (some B) := by
  have H := hide h
  have HV := hide hv
  have HW := hide hw
  have HE := hide hE
  have HL := hide hL
  obtain ⟨a, c, rfl⟩ := hv.form
  clear h hv hw hE hL
  go_enter Tryz.func28, Tryz.ntmps28
  go_wp2_with fail
  have HC : Hid (∀ W, Below (w.alloc (.cells #[.int .i64 id, .int .i64 kd, .int .i64 io, .int .i64 pt, .int .i64 bk, .int .i64 sl, .string nm, .bool bt, .bool ot, .int .i64 af, .slice a bl.length c] 48)).drew.heap.size (w.alloc (.cells #[.int .i64 id, .int .i64 kd, .int .i64 io, .int .i64 pt, .int .i64 bk, .int .i64 sl, .string nm, .bool bt, .bool ot, .int .i64 af, .slice a bl.length c] 48)).drew W → AtC W w.heap.size 48 #[.int .i64 id, .int .i64 kd, .int .i64 io, .int .i64 pt, .int .i64 bk, .int .i64 sl, .string nm, .bool bt, .bool ot, .int .i64 af, .slice a bl.length c] ∧ Below w.heap.size w W ∧ w.heap.size + 1 ≤ W.heap.size) := fun W b => by
    have b2 := of_drew b
    have sz := b2.size
    simp at sz
    exact ⟨(AtC.new w 48 _).over b2, ((Below.refl _ w).alloc (Nat.le_refl _) _).trans (b2.mono (by simp)), sz⟩
  refine wp_region_frm (by kernel_rfl) [0, 1, 2, 3, 4, 5, 6, 7, 8, 9, 10, 11] [12] (fun i => match i with | 0 => .const [] (.map (some B)) | 1 => .const [] (.pointer (some ⟨w.heap.size, 0, none⟩)) | 2 => .const [1] (.int .i64 id) | 3 => .const [] (.agg #[.int .i64 id, .int .i64 kd, .int .i64 io, .int .i64 pt, .int .i64 bk, .int .i64 sl, .string nm, .bool bt, .bool ot, .int .i64 af, .slice a bl.length c]) | 4 => MkPv 3 (⟨id, kd, io, pt, bk, sl, nm, bt, ot, af, bl⟩ : Dp) | 5 => .const [] (.int .i64 (pl : Int)) | 6 => .const [] (.map (some B)) | 7 => .const [] (.pointer (some ⟨w.heap.size, 0, none⟩)) | 8 => .const [7] (.int .i64 id) | 9 => .const [6, 8] (ptrV (lastP id E)) | 10 => MkPl 4 5 9 (⟨id, kd, io, pt, bk, sl, nm, bt, ot, af, bl⟩ : Dp) pl (lastP id E) | 11 => MkPb 10 (⟨id, kd, io, pt, bk, sl, nm, bt, ot, af, bl⟩ : Dp) pl (lastP id E) | _ => .triv) (fun x => ⟨#[Value.map (some B), Value.agg #[Value.int IntKind.i64 id, Value.int IntKind.i64 kd, Value.int IntKind.i64 io, Value.int IntKind.i64 pt, Value.int IntKind.i64 bk, Value.int IntKind.i64 sl, Value.string nm, Value.bool bt, Value.bool ot, Value.int IntKind.i64 af, Value.slice a bl.length c], Value.int IntKind.i64 ↑pl, undef, Value.pointer (some { block := w.heap.size, off := 0 }), undef, x 0, x 1, x 2, x 3, x 4, x 5, x 6, x 7, x 8, x 9, x 10, x 11], []⟩) (fun i => match i with | 0 => undef | 1 => undef | 2 => undef | 3 => undef | 4 => undef | 5 => undef | 6 => undef | 7 => undef | 8 => undef | 9 => undef | 10 => undef | 11 => undef | _ => undef) rfl (by kernel_rfl) (by kernel_rfl) (by kernel_rfl) rfl ?_ ?_
  · intro jo hj so x iw W hd hp K hK
    simp only [List.mem_cons, List.not_mem_nil, or_false] at hj
    rcases hj with rfl | rfl | rfl | rfl | rfl | rfl | rfl | rfl | rfl | rfl | rfl | rfl
    · refine wpOp_step (o := _) rfl fun K' hK' => ?_
      have HK : Hid (∀ v W', Below W.heap.size W W' → ((Mk.const [] (.map (some B)) : Mk)).P W.heap.size W'.heap.size W' v (upd x 0 v) → K' ⟨#[Value.map (some B), Value.agg #[Value.int IntKind.i64 id, Value.int IntKind.i64 kd, Value.int IntKind.i64 io, Value.int IntKind.i64 pt, Value.int IntKind.i64 bk, Value.int IntKind.i64 sl, Value.string nm, Value.bool bt, Value.bool ot, Value.int IntKind.i64 af, Value.slice a bl.length c], Value.int IntKind.i64 ↑pl, undef, Value.pointer (some { block := w.heap.size, off := 0 }), undef, v, x 1, x 2, x 3, x 4, x 5, x 6, x 7, x 8, x 9, x 10, x 11], []⟩ W') := fun v W' h1 h2 => hK' _ _ (hK v W' h1 h2)
      clear hK hK' hp hd
      go_simp
      exact HK.out _ _ (Below.refl _ _) rfl
    · refine wpOp_step (o := _) rfl fun K' hK' => ?_
      have HK : Hid (∀ v W', Below W.heap.size W W' → ((Mk.const [] (.pointer (some ⟨w.heap.size, 0, none⟩)) : Mk)).P W.heap.size W'.heap.size W' v (upd x 1 v) → K' ⟨#[Value.map (some B), Value.agg #[Value.int IntKind.i64 id, Value.int IntKind.i64 kd, Value.int IntKind.i64 io, Value.int IntKind.i64 pt, Value.int IntKind.i64 bk, Value.int IntKind.i64 sl, Value.string nm, Value.bool bt, Value.bool ot, Value.int IntKind.i64 af, Value.slice a bl.length c], Value.int IntKind.i64 ↑pl, undef, Value.pointer (some { block := w.heap.size, off := 0 }), undef, x 0, v, x 2, x 3, x 4, x 5, x 6, x 7, x 8, x 9, x 10, x 11], []⟩ W') := fun v W' h1 h2 => hK' _ _ (hK v W' h1 h2)
      clear hK hK' hp hd
      go_simp
      exact HK.out _ _ (Below.refl _ _) rfl
    · refine wpOp_step (o := _) rfl fun K' hK' => ?_
      have HK : Hid (∀ v W', Below W.heap.size W W' → ((Mk.const [1] (.int .i64 id) : Mk)).P W.heap.size W'.heap.size W' v (upd x 2 v) → K' ⟨#[Value.map (some B), Value.agg #[Value.int IntKind.i64 id, Value.int IntKind.i64 kd, Value.int IntKind.i64 io, Value.int IntKind.i64 pt, Value.int IntKind.i64 bk, Value.int IntKind.i64 sl, Value.string nm, Value.bool bt, Value.bool ot, Value.int IntKind.i64 af, Value.slice a bl.length c], Value.int IntKind.i64 ↑pl, undef, Value.pointer (some { block := w.heap.size, off := 0 }), undef, x 0, x 1, v, x 3, x 4, x 5, x 6, x 7, x 8, x 9, x 10, x 11], []⟩ W') := fun v W' h1 h2 => hK' _ _ (hK v W' h1 h2)
      have e1 : x 1 = .pointer (some ⟨w.heap.size, 0, none⟩) := hp.post 1 (hd 1 (show 1 ∈ [1] from by decide))
      have q0 : W.cell? ⟨w.heap.size, 0, none⟩ = some (.int .i64 id) := (HC.out W hp.bel).1.cell 0
      clear hK hK' hp hd
      simp only [e1] at HK ⊢
      go_simp
      exact HK.out _ _ (Below.refl _ _) rfl
    · refine wpOp_step (o := _) rfl fun K' hK' => ?_
      have HK : Hid (∀ v W', Below W.heap.size W W' → ((Mk.const [] (.agg #[.int .i64 id, .int .i64 kd, .int .i64 io, .int .i64 pt, .int .i64 bk, .int .i64 sl, .string nm, .bool bt, .bool ot, .int .i64 af, .slice a bl.length c]) : Mk)).P W.heap.size W'.heap.size W' v (upd x 3 v) → K' ⟨#[Value.map (some B), Value.agg #[Value.int IntKind.i64 id, Value.int IntKind.i64 kd, Value.int IntKind.i64 io, Value.int IntKind.i64 pt, Value.int IntKind.i64 bk, Value.int IntKind.i64 sl, Value.string nm, Value.bool bt, Value.bool ot, Value.int IntKind.i64 af, Value.slice a bl.length c], Value.int IntKind.i64 ↑pl, undef, Value.pointer (some { block := w.heap.size, off := 0 }), undef, x 0, x 1, x 2, v, x 4, x 5, x 6, x 7, x 8, x 9, x 10, x 11], []⟩ W') := fun v W' h1 h2 => hK' _ _ (hK v W' h1 h2)
      have k0 := (HC.out W hp.bel).1
      have q0 : W.cell? ⟨w.heap.size, 0, none⟩ = some (.int .i64 id) := k0.cell 0
      have q1 : W.cell? ⟨w.heap.size, 1, none⟩ = some (.int .i64 kd) := k0.cell 1
      have q2 : W.cell? ⟨w.heap.size, 2, none⟩ = some (.int .i64 io) := k0.cell 2
      have q3 : W.cell? ⟨w.heap.size, 3, none⟩ = some (.int .i64 pt) := k0.cell 3
      have q4 : W.cell? ⟨w.heap.size, 4, none⟩ = some (.int .i64 bk) := k0.cell 4
      have q5 : W.cell? ⟨w.heap.size, 5, none⟩ = some (.int .i64 sl) := k0.cell 5
      have q6 : W.cell? ⟨w.heap.size, 6, none⟩ = some (.string nm) := k0.cell 6
      have q7 : W.cell? ⟨w.heap.size, 7, none⟩ = some (.bool bt) := k0.cell 7
      have q8 : W.cell? ⟨w.heap.size, 8, none⟩ = some (.bool ot) := k0.cell 8
      have q9 : W.cell? ⟨w.heap.size, 9, none⟩ = some (.int .i64 af) := k0.cell 9
      have q10 : W.cell? ⟨w.heap.size, 10, none⟩ = some (.slice a bl.length c) := k0.cell 10
      clear k0
      clear hK hK' hp hd
      go_simp
      exact HK.out _ _ (Below.refl _ _) rfl
    · refine wpOp_step (o := _) rfl fun K' hK' => ?_
      have HK : Hid (∀ v W', Below W.heap.size W W' → (MkPv 3 (⟨id, kd, io, pt, bk, sl, nm, bt, ot, af, bl⟩ : Dp)).P W.heap.size W'.heap.size W' v (upd x 4 v) → K' ⟨#[Value.map (some B), Value.agg #[Value.int IntKind.i64 id, Value.int IntKind.i64 kd, Value.int IntKind.i64 io, Value.int IntKind.i64 pt, Value.int IntKind.i64 bk, Value.int IntKind.i64 sl, Value.string nm, Value.bool bt, Value.bool ot, Value.int IntKind.i64 af, Value.slice a bl.length c], Value.int IntKind.i64 ↑pl, undef, Value.pointer (some { block := w.heap.size, off := 0 }), undef, x 0, x 1, x 2, x 3, v, x 5, x 6, x 7, x 8, x 9, x 10, x 11], []⟩ W') := fun v W' h1 h2 => hK' _ _ (hK v W' h1 h2)
      have e3 : x 3 = .agg #[.int .i64 id, .int .i64 kd, .int .i64 io, .int .i64 pt, .int .i64 bk, .int .i64 sl, .string nm, .bool bt, .bool ot, .int .i64 af, .slice a bl.length c] := hp.post 3 (hd 3 (show 3 ∈ [3] from by decide))
      have bl1 := (HC.out W hp.bel).2.1
      clear hK hK' hp hd
      simp only [e3] at HK ⊢
      go_simp
      refine (newDep_any id kd io pt bk sl nm bt ot af bl _ W (HV.out.below bl1 (Nat.le_refl _)) hl hn).mono ?_
      rintro e w6 ⟨u, rfl, O6, B6⟩
      obtain ⟨b1, d1, rfl⟩ := O6.rints.form
      go_simp
      exact HK.out _ _ B6 ⟨b1, d1, rfl, O6, fun i hi => (O6.lt i hi).2⟩
    · refine wpOp_step (o := _) rfl fun K' hK' => ?_
      have HK : Hid (∀ v W', Below W.heap.size W W' → ((Mk.const [] (.int .i64 (pl : Int)) : Mk)).P W.heap.size W'.heap.size W' v (upd x 5 v) → K' ⟨#[Value.map (some B), Value.agg #[Value.int IntKind.i64 id, Value.int IntKind.i64 kd, Value.int IntKind.i64 io, Value.int IntKind.i64 pt, Value.int IntKind.i64 bk, Value.int IntKind.i64 sl, Value.string nm, Value.bool bt, Value.bool ot, Value.int IntKind.i64 af, Value.slice a bl.length c], Value.int IntKind.i64 ↑pl, undef, Value.pointer (some { block := w.heap.size, off := 0 }), undef, x 0, x 1, x 2, x 3, x 4, v, x 6, x 7, x 8, x 9, x 10, x 11], []⟩ W') := fun v W' h1 h2 => hK' _ _ (hK v W' h1 h2)
      clear hK hK' hp hd
      go_simp
      exact HK.out _ _ (Below.refl _ _) rfl
    · refine wpOp_step (o := _) rfl fun K' hK' => ?_
      have HK : Hid (∀ v W', Below W.heap.size W W' → ((Mk.const [] (.map (some B)) : Mk)).P W.heap.size W'.heap.size W' v (upd x 6 v) → K' ⟨#[Value.map (some B), Value.agg #[Value.int IntKind.i64 id, Value.int IntKind.i64 kd, Value.int IntKind.i64 io, Value.int IntKind.i64 pt, Value.int IntKind.i64 bk, Value.int IntKind.i64 sl, Value.string nm, Value.bool bt, Value.bool ot, Value.int IntKind.i64 af, Value.slice a bl.length c], Value.int IntKind.i64 ↑pl, undef, Value.pointer (some { block := w.heap.size, off := 0 }), undef, x 0, x 1, x 2, x 3, x 4, x 5, v, x 7, x 8, x 9, x 10, x 11], []⟩ W') := fun v W' h1 h2 => hK' _ _ (hK v W' h1 h2)
      clear hK hK' hp hd
      go_simp
      exact HK.out _ _ (Below.refl _ _) rfl
    · refine wpOp_step (o := _) rfl fun K' hK' => ?_
      have HK : Hid (∀ v W', Below W.heap.size W W' → ((Mk.const [] (.pointer (some ⟨w.heap.size, 0, none⟩)) : Mk)).P W.heap.size W'.heap.size W' v (upd x 7 v) → K' ⟨#[Value.map (some B), Value.agg #[Value.int IntKind.i64 id, Value.int IntKind.i64 kd, Value.int IntKind.i64 io, Value.int IntKind.i64 pt, Value.int IntKind.i64 bk, Value.int IntKind.i64 sl, Value.string nm, Value.bool bt, Value.bool ot, Value.int IntKind.i64 af, Value.slice a bl.length c], Value.int IntKind.i64 ↑pl, undef, Value.pointer (some { block := w.heap.size, off := 0 }), undef, x 0, x 1, x 2, x 3, x 4, x 5, x 6, v, x 8, x 9, x 10, x 11], []⟩ W') := fun v W' h1 h2 => hK' _ _ (hK v W' h1 h2)
      clear hK hK' hp hd
      go_simp
      exact HK.out _ _ (Below.refl _ _) rfl
    · refine wpOp_step (o := _) rfl fun K' hK' => ?_
      have HK : Hid (∀ v W', Below W.heap.size W W' → ((Mk.const [7] (.int .i64 id) : Mk)).P W.heap.size W'.heap.size W' v (upd x 8 v) → K' ⟨#[Value.map (some B), Value.agg #[Value.int IntKind.i64 id, Value.int IntKind.i64 kd, Value.int IntKind.i64 io, Value.int IntKind.i64 pt, Value.int IntKind.i64 bk, Value.int IntKind.i64 sl, Value.string nm, Value.bool bt, Value.bool ot, Value.int IntKind.i64 af, Value.slice a bl.length c], Value.int IntKind.i64 ↑pl, undef, Value.pointer (some { block := w.heap.size, off := 0 }), undef, x 0, x 1, x 2, x 3, x 4, x 5, x 6, x 7, v, x 9, x 10, x 11], []⟩ W') := fun v W' h1 h2 => hK' _ _ (hK v W' h1 h2)
      have e7 : x 7 = .pointer (some ⟨w.heap.size, 0, none⟩) := hp.post 7 (hd 7 (show 7 ∈ [7] from by decide))
      have q0 : W.cell? ⟨w.heap.size, 0, none⟩ = some (.int .i64 id) := (HC.out W hp.bel).1.cell 0
      clear hK hK' hp hd
      simp only [e7] at HK ⊢
      go_simp
      exact HK.out _ _ (Below.refl _ _) rfl
    · refine wpOp_step (o := _) rfl fun K' hK' => ?_
      have HK : Hid (∀ v W', Below W.heap.size W W' → ((Mk.const [6, 8] (ptrV (lastP id E)) : Mk)).P W.heap.size W'.heap.size W' v (upd x 9 v) → K' ⟨#[Value.map (some B), Value.agg #[Value.int IntKind.i64 id, Value.int IntKind.i64 kd, Value.int IntKind.i64 io, Value.int IntKind.i64 pt, Value.int IntKind.i64 bk, Value.int IntKind.i64 sl, Value.string nm, Value.bool bt, Value.bool ot, Value.int IntKind.i64 af, Value.slice a bl.length c], Value.int IntKind.i64 ↑pl, undef, Value.pointer (some { block := w.heap.size, off := 0 }), undef, x 0, x 1, x 2, x 3, x 4, x 5, x 6, x 7, x 8, v, x 10, x 11], []⟩ W') := fun v W' h1 h2 => hK' _ _ (hK v W' h1 h2)
      have e6 : x 6 = .map (some B) := hp.post 6 (hd 6 (show 6 ∈ [6, 8] from by decide))
      have e8 : x 8 = .int .i64 id := hp.post 8 (hd 8 (show 8 ∈ [6, 8] from by decide))
      have lk := (H.out.below (HC.out W hp.bel).2.1).look Tryz.u3 Tryz.u67 Tryz.z98 HW.out
      clear hK hK' hp hd
      simp only [e6, e8] at HK ⊢
      go_simp
      exact HK.out _ _ (Below.refl _ _) rfl
    · refine wpOp_step (o := _) rfl fun K' hK' => ?_
      have HK : Hid (∀ v W', Below W.heap.size W W' → (MkPl 4 5 9 (⟨id, kd, io, pt, bk, sl, nm, bt, ot, af, bl⟩ : Dp) pl (lastP id E)).P W.heap.size W'.heap.size W' v (upd x 10 v) → K' ⟨#[Value.map (some B), Value.agg #[Value.int IntKind.i64 id, Value.int IntKind.i64 kd, Value.int IntKind.i64 io, Value.int IntKind.i64 pt, Value.int IntKind.i64 bk, Value.int IntKind.i64 sl, Value.string nm, Value.bool bt, Value.bool ot, Value.int IntKind.i64 af, Value.slice a bl.length c], Value.int IntKind.i64 ↑pl, undef, Value.pointer (some { block := w.heap.size, off := 0 }), undef, x 0, x 1, x 2, x 3, x 4, x 5, x 6, x 7, x 8, x 9, v, x 11], []⟩ W') := fun v W' h1 h2 => hK' _ _ (hK v W' h1 h2)
      have e4 : ∃ a c, x 4 = .agg ((⟨id, kd, io, pt, bk, sl, nm, bt, ot, af, bl⟩ : Dp).row (.slice a (⟨id, kd, io, pt, bk, sl, nm, bt, ot, af, bl⟩ : Dp).bl.length c)).toArray ∧ ROwns W (iw 4).1 3 (.slice a (⟨id, kd, io, pt, bk, sl, nm, bt, ot, af, bl⟩ : Dp).bl.length c) (ic (⟨id, kd, io, pt, bk, sl, nm, bt, ot, af, bl⟩ : Dp).bl) ∧ ∀ i, (Value.slice a (⟨id, kd, io, pt, bk, sl, nm, bt, ot, af, bl⟩ : Dp).bl.length c).ownBlock = some i → i < (iw 4).2 := hp.post 4 (hd 4 (show 4 ∈ [4, 5, 9] from by decide))
      have e5 : x 5 = .int .i64 (pl : Int) := hp.post 5 (hd 5 (show 5 ∈ [4, 5, 9] from by decide))
      have e9 : x 9 = ptrV (lastP id E) := hp.post 9 (hd 9 (show 9 ∈ [4, 5, 9] from by decide))
      clear hK hK' hp hd
      obtain ⟨b1, d1, e4, -⟩ := e4
      have HE4 := hide e4
      have HL4 : Hid (∀ o, lastP id E = o → lastP id E = o) := fun _ h => h
      rw [e4, e5, e9] at HK ⊢
      clear e4 e5 e9
      generalize lastP id E = o at HK ⊢
      cases o <;> simp only [ptrV, Dp.row] at HK ⊢ <;> go_simp <;> exact HK.out _ _ (Below.refl _ _) ⟨b1, d1, by rw [upd_ne _ _ _ _ (by decide)]; exact HE4.out, rfl⟩
    · refine wpOp_step (o := _) rfl fun K' hK' => ?_
      have HK : Hid (∀ v W', Below W.heap.size W W' → (MkPb 10 (⟨id, kd, io, pt, bk, sl, nm, bt, ot, af, bl⟩ : Dp) pl (lastP id E)).P W.heap.size W'.heap.size W' v (upd x 11 v) → K' ⟨#[Value.map (some B), Value.agg #[Value.int IntKind.i64 id, Value.int IntKind.i64 kd, Value.int IntKind.i64 io, Value.int IntKind.i64 pt, Value.int IntKind.i64 bk, Value.int IntKind.i64 sl, Value.string nm, Value.bool bt, Value.bool ot, Value.int IntKind.i64 af, Value.slice a bl.length c], Value.int IntKind.i64 ↑pl, undef, Value.pointer (some { block := w.heap.size, off := 0 }), undef, x 0, x 1, x 2, x 3, x 4, x 5, x 6, x 7, x 8, x 9, x 10, v], []⟩ W') := fun v W' h1 h2 => hK' _ _ (hK v W' h1 h2)
      have e10 : ∃ a c, x 4 = .agg ((⟨id, kd, io, pt, bk, sl, nm, bt, ot, af, bl⟩ : Dp).row (.slice a (⟨id, kd, io, pt, bk, sl, nm, bt, ot, af, bl⟩ : Dp).bl.length c)).toArray ∧ x 10 = .agg (lnRow (⟨id, kd, io, pt, bk, sl, nm, bt, ot, af, bl⟩ : Dp) (.slice a (⟨id, kd, io, pt, bk, sl, nm, bt, ot, af, bl⟩ : Dp).bl.length c) pl (lastP id E)) := hp.post 10 (hd 10 (show 10 ∈ [10] from by decide))
      clear hK hK' hp hd
      obtain ⟨b1, d1, -, e10⟩ := e10
      have HE4 := hide e10
      simp only [e10] at HK ⊢
      clear e10
      generalize lastP id E = o at *
      cases o <;> simp only [ptrV, lnRow] at HK ⊢ <;> go_simp <;> exact HK.out _ _ ((Below.refl _ W).alloc (Nat.le_refl _) _) ⟨rfl, by simp, b1, d1, by rw [upd_ne _ _ _ _ (by decide)]; exact HE4.out, AtC.new W 88 _⟩
  · intro x iw W hp
    have e0 : x 0 = .map (some B) := hp.post 0 (by decide)
    have e2 : x 2 = .int .i64 id := hp.post 2 (by decide)
    obtain ⟨b1, d1, e4, O4, lt4⟩ := hp.post 4 (by decide)
    obtain ⟨b2, d2, k4, e10⟩ := hp.post 10 (by decide)
    obtain ⟨e11, z11, b3, d3, k10, A11⟩ := hp.post 11 (by decide)
    rw [e4] at k4
    rw [e10] at k10
    simp only [Dp.row, lnRow_mk, Value.agg.injEq, Array.mk.injEq, List.cons.injEq, Value.slice.injEq, true_and, and_true] at k4 k10
    obtain ⟨rfl, rfl⟩ := k4
    obtain ⟨rfl, rfl⟩ := k10
    have p411 := hp.apart 4 (by decide) 11 (by decide) (by decide)
    have l4 := hp.lo 4 (by decide)
    have l11 := hp.lo 11 (by decide)
    simp [World.drew] at l4 l11
    obtain ⟨kA, bel, -⟩ := HC.out W hp.bel
    have hlast : lastP ((⟨id, kd, io, pt, bk, sl, nm, bt, ot, af, bl⟩ : Dp)).id E = lastP id E := rfl
    obtain ⟨D, m1, m2⟩ := H.out.put (g := (iw 11).1) (p := .slice b1 bl.length d1) (d := (⟨id, kd, io, pt, bk, sl, nm, bt, ot, af, bl⟩ : Dp)) (pl := pl) Tryz.u3 bel A11 (by omega) (O4.base_le (Nat.zero_le _)) (fun k hk => by
      have q1 := (O4.lt k hk).1
      have q2 := lt4 k hk
      omega) HW.out HL.out
    generalize (iw 11).1 = g at *
    simp only [e0, e2, e11]
    clear hp O4 lt4 e4 e10 kA z11 p411 l4 l11 e0 e2 e11
    refine wpList_mapUpdate_own (H := Nat) _ rfl _ _ _ 67 rfl 3 85 (int_keyed Tryz.u3) Tryz.u67 ptrE B E.length D rfl m1 (by have := HE.out; show E.length < maxLen; exact Nat.lt_trans this (by decide)) _ _ (.int .i64 id) rfl rfl (keyOf_int_mk Tryz.u3 HW.out) (.held g) [] rfl ?_
    intro w2 o2 g2
    have LE2 := m2 w2 o2 g2
    have HL2 := hide (And.intro LE2 (grownBy_trans (grownBy_below bel _) g2))
    clear m1 m2 o2 g2 LE2 bel
    go_wp2
    go_end0
    exact ⟨rfl, g, _, HL2.out.1, HL2.out.2⟩
end Go.Proofs.YtaoachljojbnjaaGreat
/- The leaners in their order: leaners.inOrder by its contract. -/
namespace Go.Proofs.YtaoachljojbnjaaGreat.Kit
open Go.RowKit Go.Maps
def lenOf : Value → Nat
  | .slice _ n _ => n
  | _ => 0
/-- Pointers found so far, in memory of their own. -/
structure Fo (w : World) (E : List Ln) (wr : World) (v : Value) (F : List (Fin E.length)) : Prop where
  own : NOwns wr 85 1 v (F.map fun j => [Value.pointer (some ⟨E[j].b, 0, none⟩)])
  lo : ∀ k, v.ownBlock = some k → w.heap.size < k
  bel : Below w.heap.size w wr
  sz : w.heap.size < wr.heap.size
  nd : F.Nodup
namespace Fo
variable {w wr w' : World} {E : List Ln} {v v' : Value} {F : List (Fin E.length)}
theorem len (h : Fo w E wr v F) : F.length ≤ E.length := by
  have := List.Nodup.length_le_of_subset h.nd (l₂ := List.finRange E.length) (fun a _ => List.mem_finRange a)
  simpa using this
theorem lenV (h : Fo w E wr v F) : lenOf v = F.length := by
  obtain ⟨a, c, rfl, -⟩ := h.own.form
  simp [lenOf]
theorem turn (h : Fo w E wr v F) (hg : wr.grownBy w' (some w.heap.size)) : Fo w E w' v F :=
  ⟨h.own.of_heap fun k hk => hg.block k (h.own.lt k hk) (fun e => by have := h.lo k hk; cases e; omega), h.lo, h.bel.grown hg (Nat.le_of_lt h.sz) (fun k hk => by cases hk; exact Nat.le_refl _), Nat.lt_of_lt_of_le h.sz hg.size, h.nd⟩
theorem app (h : Fo w E wr v F) (i : Fin E.length) (hi : i ∉ F) {o : Obj} (h1 : NOwns w' 85 1 v' ((F.map fun j => [Value.pointer (some ⟨E[j].b, 0, none⟩)]) ++ [[Value.pointer (some ⟨E[i].b, 0, none⟩)]])) (h2 : (wr.alloc o).grownBy w' v.ownBlock) (h3 : ∀ k, v'.ownBlock = some k → v.ownBlock = some k ∨ (wr.alloc o).heap.size ≤ k) : Fo w E w' v' (F ++ [i]) := by
  have hz := h.sz
  have hs : (wr.alloc o).heap.size = wr.heap.size + 1 := by simp
  refine ⟨by rw [List.map_append]; exact h1, fun k hk => ?_, ?_, ?_, ?_⟩
  · rcases h3 k hk with e | e
    · exact h.lo k e
    · omega
  · exact (h.bel.alloc (Nat.le_of_lt hz) o).grown h2 (by omega) (fun k hk => Nat.le_of_lt (h.lo k hk))
  · have := h2.size
    omega
  · rw [List.nodup_append]
    exact ⟨h.nd, by simp, fun a ha b hb => by simp at hb; subst hb; exact fun e => hi (e ▸ ha)⟩
end Fo
theorem sameKey_int (x y : Int) : (Lit.int .i64 x).sameKey (.int .i64 y) = decide (x = y) := by
  simp [Lit.sameKey]
theorem lastP_some (E : List Ln) (j : Nat) (hj : j < E.length) : lastP E[j].d.id E ≠ none := by
  intro e
  rcases lastP_spec E[j].d.id E E.length (Nat.le_refl _) with ⟨-, h⟩ | ⟨i, hi, -, h, -⟩
  · exact h j hj hj rfl
  · rw [List.take_length, e] at h
    cases h
/-- What leans, in rows. -/
def rowsL (E : List Ln) (ps : List Value) : List Row := List.zipWith (fun e p => e.d.row p) E ps
theorem rowsL_length {E : List Ln} {ps : List Value} (h : ps.length = E.length) : (rowsL E ps).length = E.length := by simp [rowsL, h]
theorem rowsL_at {E : List Ln} {ps : List Value} (j : Nat) (h : j < (rowsL E ps).length) (h1 : j < E.length) (h2 : j < ps.length) : (rowsL E ps)[j] = E[j].d.row ps[j] := by simp [rowsL]
/-- The list of all is made of what the leaners hold. -/
theorem LEN.list {P : Program} {w w2 : World} {L B N : Nat} {E : List Ln} {ps : List Value} (h : LEN P w L B E ps N) {lv : Value} (hn : NOwns w2 48 11 lv (rowsL E ps)) (hlo : ∀ k, lv.ownBlock = some k → w.heap.size ≤ k) (hb : Below w.heap.size w w2) :
    GN KDep w2 (fun k => (∃ (i : Nat) (hi : i < ps.length), ps[i].ownBlock = some k) ∨ w.heap.size ≤ k) lv (rowsL E ps) (E.map (·.d)) := by
  have hl := h.len
  have hlr := rowsL_length hl
  have hps : ∀ (j : Nat) (hj : j < (rowsL E ps).length), ∃ (h2 : j < ps.length), KDep.p (rowsL E ps)[j] = ps[j] := fun j hj => ⟨by omega, by rw [rowsL_at j hj (by omega) (by omega)]; rfl⟩
  have hlt : ∀ (j : Nat) (hj : j < ps.length) (k : Nat), ps[j].ownBlock = some k → k < w.heap.size := fun j hj k hk => ((h.own j (by omega) hj).lt k hk).2
  refine ⟨by simp [hlr], hn, fun j hj hj' => ?_, fun i j hi hj hne k e1 e2 => ?_, fun j hj k e1 e2 => ?_, fun k e => .inr (hlo k e), fun j hj k e => ?_⟩
  · refine ⟨ps[j]'(by omega), ?_, ?_⟩
    · rw [rowsL_at j hj (by omega) (by omega), List.getElem_map]
    · rw [List.getElem_map]
      exact (h.own j (by omega) (by omega)).below hb (Nat.le_refl _)
  · obtain ⟨q1, r1⟩ := hps i hi
    obtain ⟨q2, r2⟩ := hps j hj
    rw [r1] at e1
    rw [r2] at e2
    exact h.np i j q1 q2 hne k e1 e2
  · obtain ⟨q1, r1⟩ := hps j hj
    rw [r1] at e1
    have := hlt j q1 k e1
    have := hlo k e2
    omega
  · obtain ⟨q1, r1⟩ := hps j hj
    rw [r1] at e
    exact .inl ⟨j, q1, e⟩
end Go.Proofs.YtaoachljojbnjaaGreat.Kit
namespace Go.Proofs.YtaoachljojbnjaaGreat
open Go.RowKit Kit Go.Maps
theorem Tryz.u114 : Tryz.prog.underlying 114 = some (.slice 85) := by kernel_rfl
theorem Tryz.i85 : (Tryz.prog.info? 85).map (fun i => (i.zero, i.size, i.bytes)) = some (some (.pointer none), 1, 8) := by kernel_rfl
end Go.Proofs.YtaoachljojbnjaaGreat
/- The leaners in their order: leaners.inOrder by its contract. -/
namespace Go.Proofs.YtaoachljojbnjaaGreat
open Go.RowKit Kit Go.Maps
set_option maxRecDepth 100000 in
set_option maxHeartbeats 1600000 in
theorem inOrder_any {N : Nat} (L B : Nat) (E : List Ln) (ps : List Value) (w : World) (h : LEN Tryz.prog w L B E ps N) (hpl : ∀ i j : Fin E.length, i < j → E[i].pl < E[j].pl) (hE : E.length ≤ 1048576) :
    Calls Tryz.prog 51 #[.map (some B)] w fun e w' => ∃ lv ts, e = .returned lv ∧ GN KDep w' (fun k => (∃ (i : Nat) (hi : i < ps.length), ps[i].ownBlock = some k) ∨ w.heap.size ≤ k) lv ts (E.map (·.d)) ∧ Below w.heap.size w w' := by
  have H := hide h
  have HPL := hide hpl
  have HE := hide hE
  obtain ⟨D, hown, hat, hhas⟩ := h.map
  have HAT := hide hat
  have HAS := hide hhas
  clear h hpl hE hat hhas
  go_enter Tryz.func51, Tryz.ntmps51
  go_wp2_with (first | (at_range; refine wpList_range_own (H := Nat) _ rfl _ 67 rfl 3 85 (int_keyed Tryz.u3) Tryz.u67 ptrE B N D rfl hown ?_; intro w0 hrg0 hg0 hs0) | go_in)
  go_frame
  go_loopw [3] (fun fv wr => Hid (∃ left cnt F, wr.ranges Tryz.prog 3 ptrE B w.heap.size N D left cnt ∧ Fo w E wr fv F ∧ ∀ j : Fin E.length, j ∈ F ↔ left (.int .i64 E[j].d.id) = false)) (fun fv wr => wr.rangeLeft B w.heap.size)
  case atStart =>
    refine ⟨_, _, [], hrg0, ⟨NOwns.nil _ _ _, (fun k hk => by cases hk), ?_, by omega, List.nodup_nil⟩, fun j => ?_⟩
    · exact (Below.refl _ w).grown hg0 (Nat.le_refl _) (fun k hk => by cases hk)
    · have e1 := HAS.out E[j].d.id (H.out.wf j j.2)
      have e2 := lastP_some E j j.2
      rw [e1]
      constructor
      · intro e; cases e
      · intro e
        cases e3 : lastP E[j].d.id E with
        | none => exact absurd e3 e2
        | some b => rw [e3] at e; cases e
  case round =>
    obtain ⟨left, cnt, F, hrg, hF, hmem⟩ := hrel.out
    have HF := hide (And.intro hrg (And.intro hF hmem))
    clear hF hmem hrel hrg0 hg0 hs0
    go_wp2_with (at_next; refine wpList_next_ranges (H := Nat) _ rfl _ rfl 3 (int_keyed Tryz.u3) ptrE (Value.int .i64) ptrV (fun key kl hkey => by obtain ⟨x, rfl, _⟩ := Maps.keyOf_int_inv Tryz.u3 hkey; exact ⟨x, rfl⟩) (fun v y hv => by obtain ⟨o, rfl, _⟩ := ptrE_inv hv; exact ⟨o, rfl⟩) B w.heap.size N D left cnt rfl hrg ?_ ?_)
    · intro hc0 hl0
      have hall : ∀ j : Fin E.length, j ∈ F := fun j => (HF.out.2.2 j).2 (hl0 _)
      have hFo := HF.out.2.1
      have hsz := hFo.bel.size
      have HALL := hide hall
      have HFO := hide hFo
      have HCALL : Hid (Calls Tryz.prog 73 #[u3, .func (.func 74) #[] #[]] wr fun e w' => e = .returned (.tuple #[]) ∧ ∃ a c, u3 = .slice a E.length c ∧ (∀ (k : Nat) (h : k < E.length), ∃ g, a = some ⟨g, 0, none⟩ ∧ g < w'.heap.size ∧ w'.cell? ⟨g, k, none⟩ = some (.pointer (some ⟨E[k].b, 0, none⟩))) ∧ Below w.heap.size w w') := by
        have hFl : F.length = E.length := by
          have := ((List.perm_ext_iff_of_nodup hFo.nd (List.nodup_finRange E.length)).2 fun a => ⟨fun _ => List.mem_finRange a, fun _ => hall a⟩).length_eq
          simpa using this
        obtain ⟨a, c, e3, hc, ha0⟩ := hFo.own.form
        rw [List.length_map] at e3 hc
        by_cases e0 : E.length = 0
        · have e00 : u3 = .slice a 0 c := by rw [e3, hFl, e0]
          rw [e00]
          have hcon := AnyF.slices_SortFunc_none { Tryz.sortL with } a c (.func (.func 74) #[] #[]) wr
          change Calls Tryz.prog 73 _ _ _ at hcon
          refine hcon.mono ?_
          rintro e w' ⟨rfl, rfl⟩
          exact ⟨rfl, a, c, by rw [e0], fun k hk => by omega, hFo.bel⟩
        · obtain ⟨g, cap, e4, -, hfr, hg, -⟩ := hFo.own.at 0 (by rw [List.length_map]; omega)
          rw [List.length_map] at e4
          have hlo : w.heap.size < g := hFo.lo g (by rw [e4]; rfl)
          have hLE := H.out.below hFo.bel
          have hb0 : ∀ j : Fin E.length, E[j].b < w.heap.size := fun j => (H.out.cell j j.2 (by have := H.out.len; omega)).lt
          rw [e4]
          refine Calls.mono (sortL_any E F g cap wr (fun j => ?_) (fun j => ?_) (fun j => ?_) HPL.out hFo.nd hall (by omega) HE.out hg (fun k hk => ?_)) ?_
          · exact (hLE.cell j j.2 (by have := H.out.len; omega)).cell 11
          · have := hb0 j; omega
          · have := hb0 j; omega
          · obtain ⟨g2, cap2, e5, hcell, hfr2, -, -⟩ := hFo.own.at k (by rw [List.length_map]; exact hk)
            rw [e4] at e5
            simp only [Value.slice.injEq, Option.some.injEq, Addr.mk.injEq] at e5
            obtain ⟨⟨rfl, -⟩, -⟩ := e5
            refine ⟨?_, hfr2 k⟩
            have := hcell 0 (by decide)
            rw [Nat.mul_one, Nat.add_zero] at this
            rw [this]
            simp
          · rintro e w' ⟨rfl, b1, -, b3⟩
            exact ⟨rfl, _, _, by rw [hFl], fun k hk => ⟨g, rfl, Nat.lt_of_lt_of_le hg b1.size, b3 k hk⟩, hFo.bel.trans (b1.mono (by omega))⟩
      clear hall hFo hsz hl0
      go_wp2_with (go_at_call 73; refine HCALL.out.mono ?_; rintro e w9 ⟨rfl, a9, c9, rfl, C9, B9⟩; have HC9 := hide C9; have HB9 := hide B9; clear C9 B9)
      clear HCALL HF hrg hc0
      go_loopw [29, 6] (fun i lv wr => ∃ j : Nat, j ≤ E.length ∧ i = .int .i64 j ∧ Hid (NOwns wr 48 11 lv ((rowsL E ps).take j) ∧ (∀ k, lv.ownBlock = some k → w9.heap.size ≤ k) ∧ Below w9.heap.size w9 wr)) (fun i lv _ => E.length - (intOf i).toNat)
      case atStart => exact ⟨0, Nat.zero_le _, rfl, NOwns.nil _ _ _, (fun k hk => by cases hk), Below.refl _ _⟩
      case round =>
        obtain ⟨j, hj, rfl, HR⟩ := hrel
        by_cases hlt : j < E.length
        · obtain ⟨hn, hlo, hbl⟩ := HR.out
          obtain ⟨g, rfl, hg, hcj⟩ := HC9.out j hlt
          have hlm := H.out.len
          have hbw : Below w.heap.size w wr := HB9.out.trans (hbl.mono HB9.out.size)
          have cj : wr.cell? ⟨g, j, none⟩ = some (.pointer (some ⟨E[j].b, 0, none⟩)) := (hbl.cell (p := ⟨g, j, none⟩) hg).trans hcj
          have kc := (H.out.below hbw).cell j hlt (by omega)
          have own := (H.out.below hbw).own j hlt (by omega)
          have hrl := rowsL_length hlm
          have htk : (rowsL E ps).take j ++ [E[j].d.row (ps[j]'(by omega))] = (rowsL E ps).take (j + 1) := by
            rw [← rowsL_at j (by omega) hlt (by omega)]
            exact List.take_append_getElem (by omega)
          obtain ⟨X, hX⟩ : ∃ X, E[j].d = X := ⟨_, rfl⟩
          obtain ⟨p, hp⟩ : ∃ p, ps[j]'(by omega) = p := ⟨_, rfl⟩
          rw [hX, hp] at kc own htk
          obtain ⟨id, kd, io, pt, bk, sl, nm, bt, ot, af, bl⟩ := X
          obtain ⟨pa, pc, rfl⟩ := own.rints.form
          simp only [lnRow_mk] at kc
          obtain ⟨eb, heb⟩ : ∃ eb, E[j].b = eb := ⟨_, rfl⟩
          rw [heb] at kc cj
          obtain ⟨a1, c1, e1, hc1, -⟩ := hn.form
          have htl : ((rowsL E ps).take j).length = j := by rw [List.length_take]; omega
          have d0 : wr.cell? ⟨eb, 0, none⟩ = some (.int .i64 id) := kc.cell 0
          have d1 : wr.cell? ⟨eb, 1, none⟩ = some (.int .i64 kd) := kc.cell 1
          have d2 : wr.cell? ⟨eb, 2, none⟩ = some (.int .i64 io) := kc.cell 2
          have d3 : wr.cell? ⟨eb, 3, none⟩ = some (.int .i64 pt) := kc.cell 3
          have d4 : wr.cell? ⟨eb, 4, none⟩ = some (.int .i64 bk) := kc.cell 4
          have d5 : wr.cell? ⟨eb, 5, none⟩ = some (.int .i64 sl) := kc.cell 5
          have d6 : wr.cell? ⟨eb, 6, none⟩ = some (.string nm) := kc.cell 6
          have d7 : wr.cell? ⟨eb, 7, none⟩ = some (.bool bt) := kc.cell 7
          have d8 : wr.cell? ⟨eb, 8, none⟩ = some (.bool ot) := kc.cell 8
          have d9 : wr.cell? ⟨eb, 9, none⟩ = some (.int .i64 af) := kc.cell 9
          have d10 : wr.cell? ⟨eb, 10, none⟩ = some (.slice pa bl.length pc) := kc.cell 10
          have HT : Hid (NOwns (wr.alloc (.cells #[.int .i64 id, .int .i64 kd, .int .i64 io, .int .i64 pt, .int .i64 bk, .int .i64 sl, .string nm, .bool bt, .bool ot, .int .i64 af, .slice pa bl.length pc] 48)) 48 11 u6 ((rowsL E ps).take j)) := hn.of_heap fun k hk => ((Below.refl _ wr).alloc (Nat.le_refl _) _).block k (hn.lt k hk)
          have HTL : Hid (((rowsL E ps).take j).length ≤ 100000000000) := by
            have q2 := HE.out
            show _ ≤ _
            omega
          have HSTEP : Hid (∀ v' w', NOwns w' 48 11 v' ((rowsL E ps).take j ++ [(⟨id, kd, io, pt, bk, sl, nm, bt, ot, af, bl⟩ : Dp).row (.slice pa bl.length pc)]) → (wr.alloc (.cells #[.int .i64 id, .int .i64 kd, .int .i64 io, .int .i64 pt, .int .i64 bk, .int .i64 sl, .string nm, .bool bt, .bool ot, .int .i64 af, .slice pa bl.length pc] 48)).grownBy w' u6.ownBlock → (∀ k, v'.ownBlock = some k → u6.ownBlock = some k ∨ (wr.alloc (.cells #[.int .i64 id, .int .i64 kd, .int .i64 io, .int .i64 pt, .int .i64 bk, .int .i64 sl, .string nm, .bool bt, .bool ot, .int .i64 af, .slice pa bl.length pc] 48)).heap.size ≤ k) → NOwns w' 48 11 v' ((rowsL E ps).take (j + 1)) ∧ (∀ k, v'.ownBlock = some k → w9.heap.size ≤ k) ∧ Below w9.heap.size w9 w') := fun v' w' q1 q2 q3 => by
            have hsz := hbl.size
            refine ⟨by rw [htk] at q1; exact q1, fun k hk => ?_, ?_⟩
            · rcases q3 k hk with e | e
              · exact hlo k e
              · simp at e; omega
            · exact (hbl.alloc hsz _).grown q2 (by simp; omega) (fun k hk => hlo k hk)
          have hE1 : E.length ≤ 1048576 := HE.out
          have j0 : (0 : Int) ≤ (j : Int) := by omega
          have j1 : (j : Int) < (E.length : Int) := by omega
          clear HR hn hlo hbl hcj hbw kc own htk hX hp heb e1 hc1 hg
          go_wp2_with (at_builtin; refine wpList_step fun K' hK' => ?_; refine step_append_n _ rfl (.tmp 33) (.tmp 38) 42 rfl 48 Tryz.u42 _ 11 104 Tryz.i48 rfl (by decide) (by decide) u6 _ rfl HT.out wr.heap.size ((⟨id, kd, io, pt, bk, sl, nm, bt, ot, af, bl⟩ : Dp).row (.slice pa bl.length pc)) rfl rfl (fun i u hu => (AtC.new wr 48 #[.int .i64 id, .int .i64 kd, .int .i64 io, .int .i64 pt, .int .i64 bk, .int .i64 sl, .string nm, .bool bt, .bool ot, .int .i64 af, .slice pa bl.length pc]).at_ i u hu) (by simp [Dp.row, Value.oneCell']) HTL.out ?_; intro v12 w12 T12 G12 V12; refine hK' _ _ ?_; have HR12 := hide (HSTEP.out v12 w12 T12 G12 V12); clear T12 G12 V12 hK')
          go_roundw
          case rel => exact ⟨j + 1, by omega, by go_num, HR12.out⟩
          case measure => simp [intOf]; omega
        · have hj2 : j = E.length := by omega
          subst hj2
          go_wp2
          go_ret
          obtain ⟨hn, hlo, hbl⟩ := HR.out
          have hbw : Below w.heap.size w wr := HB9.out.trans (hbl.mono HB9.out.size)
          have hrl := rowsL_length H.out.len
          rw [← hrl, List.take_length] at hn
          exact ⟨_, _, rfl, H.out.list hn (fun k hk => Nat.le_trans HB9.out.size (hlo k hk)) hbw, hbw⟩
    · intro x c kl ya yb w1 cnt1 hkey hlk hv hzat hrg1 hlt hg1 hs1 hen
      obtain ⟨x', ex, rfl, hwx⟩ := Maps.keyOf_int_inv Tryz.u3 hkey
      cases ex
      have hc : lastP x E = c := by
        have e1 := HAT.out x hwx
        rw [hzat] at e1
        rw [ptrE_mk] at hv
        simp only [Option.some.injEq, Prod.mk.injEq] at hv
        rw [← hv.1] at e1
        exact (datP_inj e1).symm
      subst hc
      have HI := hide (And.intro hrg1 (And.intro (HF.out.2.1.turn hg1) HF.out.2.2))
      have HLK := hide hlk
      have HLT := hide (And.intro hlt hrg)
      clear hkey hv hzat hrg hrg1 hlk hlt hg1 hs1 HF
      go_wp2_with fail
      go_loopw [5, 3] (fun one fv wr => Hid (∃ t F, t ≤ E.length ∧ one = ptrV (lastP x (E.take t)) ∧ wr.ranges Tryz.prog 3 ptrE B w.heap.size N D (fun z => left z && !z.sameKey (.int .i64 x)) cnt1 ∧ Fo w E wr fv F ∧ ∀ j : Fin E.length, j ∈ F ↔ (left (.int .i64 E[j].d.id) = false ∨ (E[j].d.id = x ∧ t ≤ j.1)))) (fun one fv wr => E.length - lenOf fv)
      case atStart => exact ⟨E.length, F, Nat.le_refl _, by rw [List.take_length], HI.out.1, HI.out.2.1, fun j => (HI.out.2.2 j).trans ⟨.inl, fun e => e.elim id fun e => absurd e.2 (by have := j.2; omega)⟩⟩
      case round =>
        obtain ⟨t, F2, ht, e5, hrg2, hF2, hm2⟩ := hrel.out
        clear hrel
        rcases lastP_spec x E t ht with ⟨h1, h2⟩ | ⟨i, hi, hit, h1, h3, h4⟩
        · rw [h1] at e5
          simp only [ptrV] at e5
          subst e5
          go_wp2
          go_roundw
          case rel =>
            refine ⟨_, cnt1, F2, hrg2, hF2, fun j => (hm2 j).trans ⟨fun e => ?_, fun e => ?_⟩⟩
            · rcases e with e | e
              · show (left (.int .i64 E[j].d.id) && !(Lit.int .i64 E[j].d.id).sameKey (.int .i64 x)) = false
                rw [e]; rfl
              · show (left (.int .i64 E[j].d.id) && !(Lit.int .i64 E[j].d.id).sameKey (.int .i64 x)) = false
                rw [sameKey_int, e.1]; simp
            · by_cases e2 : E[j].d.id = x
              · exact .inr ⟨e2, by
                  by_cases q : t ≤ j.1
                  · exact q
                  · exact absurd e2 (h2 j j.2 (by omega))⟩
              · refine .inl ?_
                have e' : (left (.int .i64 E[j].d.id) && !(Lit.int .i64 E[j].d.id).sameKey (.int .i64 x)) = false := e
                rw [sameKey_int, decide_eq_false e2, Bool.not_false, Bool.and_true] at e'
                exact e'
          case measure => rw [hrg2.left_eq, HLT.out.2.left_eq]; exact HLT.out.1
        · rw [h1] at e5
          simp only [ptrV] at e5
          subst e5
          have hlm := H.out.len
          have hni : (⟨i, hi⟩ : Fin E.length) ∉ F2 := fun q => by
            rcases (hm2 ⟨i, hi⟩).1 q with e | e
            · have e' : left (.int .i64 E[i].d.id) = false := e
              rw [h3, HLK.out] at e'
              cases e'
            · have := e.2
              simp only at this
              omega
          have HT : Hid (NOwns (wr.alloc (.cells #[.pointer (some ⟨E[i].b, 0, none⟩)] 85)) 85 1 u3 (F2.map fun j => [Value.pointer (some ⟨E[j].b, 0, none⟩)])) := hF2.own.of_heap fun k hk => ((Below.refl _ wr).alloc (Nat.le_refl _) _).block k (hF2.own.lt k hk)
          have HTL : Hid ((F2.map fun j => [Value.pointer (some ⟨E[j].b, 0, none⟩)]).length ≤ 100000000000) := by
            have q1 := hF2.len
            have q2 := HE.out
            show _ ≤ _
            rw [List.length_map]
            omega
          have HSTEP : Hid (∀ v' w', NOwns w' 85 1 v' ((F2.map fun j => [Value.pointer (some ⟨E[j].b, 0, none⟩)]) ++ [[Value.pointer (some ⟨E[i].b, 0, none⟩)]]) → (wr.alloc (.cells #[.pointer (some ⟨E[i].b, 0, none⟩)] 85)).grownBy w' u3.ownBlock → (∀ k, v'.ownBlock = some k → u3.ownBlock = some k ∨ (wr.alloc (.cells #[.pointer (some ⟨E[i].b, 0, none⟩)] 85)).heap.size ≤ k) → w'.cell? ⟨E[i].b, 12, none⟩ = some (ptrV (lastP x (E.take i))) ∧ lenOf v' = F2.length + 1 ∧ ∃ t F, t ≤ E.length ∧ ptrV (lastP x (E.take i)) = ptrV (lastP x (E.take t)) ∧ w'.ranges Tryz.prog 3 ptrE B w.heap.size N D (fun z => left z && !z.sameKey (.int .i64 x)) cnt1 ∧ Fo w E w' v' F ∧ ∀ j : Fin E.length, j ∈ F ↔ (left (.int .i64 E[j].d.id) = false ∨ (E[j].d.id = x ∧ t ≤ j.1))) := fun v' w' q1 q2 q3 => by
            have hF3 := hF2.app ⟨i, hi⟩ hni q1 q2 q3
            have hsz := hF2.sz
            refine ⟨?_, ?_, i, _, Nat.le_of_lt hi, rfl, ?_, hF3, fun j => ?_⟩
            · have k := ((H.out.below hF3.bel).cell i hi (by omega)).cell 12
              rw [h3] at k
              exact k
            · rw [hF3.lenV, List.length_append]; rfl
            · refine (hrg2.alloc _).kept q2 (fun e => ?_) (fun e => ?_)
              · have := hF2.lo B e.symm
                have := H.out.lt
                omega
              · have := hF2.lo w.heap.size e.symm
                omega
            · rw [List.mem_append, hm2 j]
              constructor
              · rintro ((q | q) | q)
                · exact .inl q
                · exact .inr ⟨q.1, by omega⟩
                · have q' : j = ⟨i, hi⟩ := by simpa using q
                  subst q'
                  exact .inr ⟨h3, Nat.le_refl _⟩
              · rintro (q | q)
                · exact .inl (.inl q)
                · by_cases e : t ≤ j.1
                  · exact .inl (.inr ⟨q.1, e⟩)
                  · by_cases e2 : i = j.1
                    · right
                      rw [List.mem_singleton]
                      exact Fin.ext e2.symm
                    · exact absurd q.1 (h4 j j.2 (by omega) (by omega))
          have hlv := hF2.lenV
          have hlen2 : F2.length + 1 ≤ E.length := by
            have := List.Nodup.length_le_of_subset (l₁ := F2 ++ [⟨i, hi⟩]) (l₂ := List.finRange E.length) (by
              rw [List.nodup_append]
              exact ⟨hF2.nd, by simp, fun a ha b hb => by simp at hb; subst hb; exact fun e => hni (e ▸ ha)⟩) (fun a _ => List.mem_finRange a)
            simpa using this
          have HLV := hide (And.intro hlv hlen2)
          clear hrg2 hF2 hm2 h4 h1 hni hlv hlen2
          generalize E[i].b = eb at *
          go_wp2_with (at_builtin; refine wpList_step fun K' hK' => ?_; refine step_append_n _ rfl (.tmp 21) (.tmp 23) 114 rfl 85 Tryz.u114 _ 1 8 Tryz.i85 rfl (by decide) (by decide) u3 _ rfl HT.out wr.heap.size [.pointer (some ⟨eb, 0, none⟩)] rfl rfl (fun j u hu => (AtC.new wr 85 #[.pointer (some ⟨eb, 0, none⟩)]).at_ j u hu) (by simp [Value.oneCell']) HTL.out ?_; intro v12 w12 T12 G12 V12; refine hK' _ _ ?_; obtain ⟨c12, l12, R12⟩ := HSTEP.out v12 w12 T12 G12 V12; have HR12 := hide R12; clear R12 T12 G12 V12 hK')
          go_roundw
          case rel => exact HR12.out
          case measure =>
            have q := HLV.out
            simp only [l12, q.1]
            omega
end Go.Proofs.YtaoachljojbnjaaGreat
/- A copy of a disk: impl.newDisk by its contract. -/
namespace Go.Proofs.YtaoachljojbnjaaGreat.Kit
open Go.RowKit
/-- A copied list of flags. -/
def MkF (k : Nat) (xs : List Bool) : Mk := .val [k] (fun lo hi w v => ∃ a c, v = .slice a xs.length c ∧ ROwns w lo 4 v (fc xs) ∧ ∀ i, v.ownBlock = some i → i < hi)
  (fun _ _ _ _ _ h hb => by obtain ⟨a, c, h1, h2, h3⟩ := h; exact ⟨a, c, h1, h2.below hb (Nat.le_refl _), h3⟩)
/-- Two lists, the k-th and the l-th value, as a struct. -/
def Mk2 (k l n m : Nat) : Mk := ⟨[k, l], fun _ _ _ v x => ∃ a c a' c', x k = .slice a n c ∧ x l = .slice a' m c' ∧ v = .agg #[.slice a n c, .slice a' m c'], fun _ _ _ _ _ _ h _ => h, fun _ _ _ _ x x' e h => by
  obtain ⟨a, c, a', c', h1, h2, h3⟩ := h
  exact ⟨a, c, a', c', by rw [← e k (by simp), h1], by rw [← e l (by simp), h2], h3⟩⟩
/-- A disk of bits alone, out of the k-th value. -/
def Mk4 (k n m : Nat) : Mk := ⟨[k], fun _ _ _ v x => ∃ a c a' c', x k = .agg #[.slice a n c, .slice a' m c'] ∧ v = .agg #[.slice a n c, .slice a' m c', .slice none 0 0, .slice none 0 0], fun _ _ _ _ _ _ h _ => h, fun _ _ _ _ x x' e h => by
  obtain ⟨a, c, a', c', h1, h3⟩ := h
  exact ⟨a, c, a', c', by rw [← e k (by simp), h1], h3⟩⟩
/-- A new variable. -/
def MkV (T : TypeId) (Z : Array Value) : Mk := .val [] (fun lo hi w v => v = .pointer (some ⟨lo, 0, none⟩) ∧ hi = lo + 1 ∧ AtC w lo T Z) (fun _ _ _ _ _ h hb => ⟨h.1, h.2.1, h.2.2.over hb⟩)
/-- The variable is stored. -/
theorem dz_stored {w W : World} {A : Array Value} {b : Nat} {u v : Value} {xs ys : List Bool} (hA : AtC W w.heap.size 41 A) (hR : AtC W (w.heap.size + 1) 41 noD) (hb : AtC W b 41 noD) (T : Two W (w.heap.size + 1 + 1) u v xs ys) (hne : ∀ k, (u.ownBlock = some k ∨ v.ownBlock = some k) → k ≠ b)
    (bel : Below w.heap.size w W) (hbb : w.heap.size + 1 < b) : Dz w ((((W.setCell ⟨b, 0, none⟩ u).setCell ⟨b, 1, none⟩ v).setCell ⟨b, 2, none⟩ (.slice none 0 0)).setCell ⟨b, 3, none⟩ (.slice none 0 0)) A b u v (.slice none 0 0) (.slice none 0 0) xs ys [] [] := by
  have hoth : ∀ k, k ≠ b → ((((W.setCell ⟨b, 0, none⟩ u).setCell ⟨b, 1, none⟩ v).setCell ⟨b, 2, none⟩ (.slice none 0 0)).setCell ⟨b, 3, none⟩ (.slice none 0 0)).heap[k]? = W.heap[k]? := fun k hk =>
    (((heap_setCell_other _ ⟨b, 3, none⟩ k _ hk).trans (heap_setCell_other _ ⟨b, 2, none⟩ k _ hk)).trans (heap_setCell_other _ ⟨b, 1, none⟩ k _ hk)).trans (heap_setCell_other _ ⟨b, 0, none⟩ k _ hk)
  refine ⟨(hoth _ (by omega)).trans hA, (hoth _ (by omega)).trans hR, (((hb.set 0 u).set 1 v).set 2 (.slice none 0 0)).set 3 (.slice none 0 0), ?_, (((bel.setCell (by show w.heap.size ≤ b; omega) _).setCell (by show w.heap.size ≤ b; omega) _).setCell (by show w.heap.size ≤ b; omega) _).setCell (by show w.heap.size ≤ b; omega) _, hbb⟩
  have hlt : ∀ k, (u.ownBlock = some k ∨ v.ownBlock = some k) → w.heap.size + 1 < k ∧ k ≠ b := fun k hk => ⟨hk.elim (fun e => by have := T.a.lt k e; omega) (fun e => by have := T.b.lt k e; omega), hne k hk⟩
  refine ⟨fun k => u.ownBlock = some k ∨ v.ownBlock = some k, fun _ => False, fun _ => False, [], [], ⟨(T.a.of_heap fun k hk => hoth k (hne k (.inl hk))).base_le (Nat.zero_le _), (T.b.of_heap fun k hk => hoth k (hne k (.inr hk))).base_le (Nat.zero_le _), T.ne⟩, fun k hk => hk, ⟨rfl, TOwns.nil _ _, fun j hj => by simp at hj, fun i j hi => by simp at hi, fun j hj => by simp at hj, (fun k e => by cases e), fun j hj => by simp at hj⟩, ⟨rfl, TOwns.nil _ _, fun j hj => by simp at hj, fun i j hi => by simp at hi, fun j hj => by simp at hj, (fun k e => by cases e), fun j hj => by simp at hj⟩, fun k hk => ⟨id, id⟩, fun k hk => hk.elim, fun k hk => hk.elim (hlt k) (fun e => e.elim (fun e => e.elim) (fun e => e.elim))⟩
end Go.Proofs.YtaoachljojbnjaaGreat.Kit
namespace Go.Proofs.YtaoachljojbnjaaGreat
open Go.RowKit Kit
set_option maxRecDepth 100000 in
set_option maxHeartbeats 3200000 in
theorem newDisk_any (u v iv bv : Value) (xs ys : List Bool) (is : List Ino) (bs : List Blk) (w : World) (h : DR w u v iv bv xs ys is bs) (hB : Big 1048576 xs ys is bs) :
    Calls Tryz.prog 49 #[.agg #[u, v, iv, bv]] w fun e w' => ∃ u' v' i' b', e = .returned (.agg #[u', v', i', b']) ∧ DO w' (fun k => w.heap.size ≤ k) u' v' i' b' xs ys is bs ∧ Below w.heap.size w w' := by
  have H := hide h
  have HG := hide hB
  have hil : is.length ≤ 1048576 := hB.i
  have hbl : bs.length ≤ 1048576 := hB.b
  obtain ⟨a1, c1, a2, c2, a3, c3, a4, c4, rfl, rfl, rfl, rfl⟩ := h.form
  clear hB h
  go_enter Tryz.func49, Tryz.ntmps49
  go_wp2_with fail
  have HC : Hid (∀ W, Below ((w.alloc (.cells #[.slice a1 xs.length c1, .slice a2 ys.length c2, .slice a3 is.length c3, .slice a4 bs.length c4] 41)).alloc (.cells noD 41)).drew.heap.size ((w.alloc (.cells #[.slice a1 xs.length c1, .slice a2 ys.length c2, .slice a3 is.length c3, .slice a4 bs.length c4] 41)).alloc (.cells noD 41)).drew W → AtC W w.heap.size 41 #[.slice a1 xs.length c1, .slice a2 ys.length c2, .slice a3 is.length c3, .slice a4 bs.length c4] ∧ AtC W (w.heap.size + 1) 41 noD ∧ Below w.heap.size w W ∧ w.heap.size + 1 + 1 ≤ W.heap.size) := fun W b => by
    have b2 := of_drew b
    have k1 := (AtC.new (w.alloc (.cells #[.slice a1 xs.length c1, .slice a2 ys.length c2, .slice a3 is.length c3, .slice a4 bs.length c4] 41)) 41 noD).over b2
    have sz := b2.size
    simp at k1 sz
    exact ⟨((AtC.new w 41 _).alloc _).over b2, k1, (((Below.refl _ w).alloc (Nat.le_refl _) _).alloc (by simp) _).trans (b2.mono (by simp; omega)), sz⟩
  refine wp_region_frm (by kernel_rfl) [0, 1, 2, 3, 4, 5, 6, 7, 8, 9, 10] [11] (fun i => match i with | 0 => .const [] (.pointer (some ⟨w.heap.size, 0, none⟩)) | 1 => .const [0] (.pointer (some ⟨w.heap.size, 0, none⟩)) | 2 => .const [1] (.slice a1 xs.length c1) | 3 => MkF 2 xs | 4 => .const [] (.pointer (some ⟨w.heap.size, 0, none⟩)) | 5 => .const [4] (.pointer (some ⟨w.heap.size, 1, none⟩)) | 6 => .const [5] (.slice a2 ys.length c2) | 7 => MkF 6 ys | 8 => Mk2 3 7 xs.length ys.length | 9 => Mk4 8 xs.length ys.length | 10 => MkV 41 noD | _ => .triv) (fun x => ⟨#[Value.agg #[Value.slice a1 xs.length c1, Value.slice a2 ys.length c2, Value.slice a3 is.length c3, Value.slice a4 bs.length c4], Value.pointer (some { block := w.heap.size, off := 0 }), Value.pointer (some { block := w.heap.size + 1, off := 0 }), x 10, undef, undef, undef, undef, x 0, x 1, x 2, x 3, x 4, x 5, x 6, x 7, x 8, x 9, undef, undef, undef, undef, undef, undef, undef, undef, undef, undef, undef, undef, undef, undef, undef, undef, undef, undef, undef, undef, undef, undef, undef, undef, undef, undef, undef, undef, undef, undef, undef, undef, undef, undef], []⟩) (fun i => match i with | 0 => undef | 1 => undef | 2 => undef | 3 => undef | 4 => undef | 5 => undef | 6 => undef | 7 => undef | 8 => undef | 9 => undef | 10 => undef | _ => undef) rfl (by kernel_rfl) (by kernel_rfl) (by kernel_rfl) rfl ?_ ?_
  · intro jo hj so x iw W hd hp K hK
    simp only [List.mem_cons, List.not_mem_nil, or_false] at hj
    rcases hj with rfl | rfl | rfl | rfl | rfl | rfl | rfl | rfl | rfl | rfl | rfl
    · refine wpOp_step (o := _) rfl fun K' hK' => ?_
      have HK : Hid (∀ v W', Below W.heap.size W W' → ((Mk.const [] (.pointer (some ⟨w.heap.size, 0, none⟩)) : Mk)).P W.heap.size W'.heap.size W' v (upd x 0 v) → K' ⟨#[Value.agg #[Value.slice a1 xs.length c1, Value.slice a2 ys.length c2, Value.slice a3 is.length c3, Value.slice a4 bs.length c4], Value.pointer (some { block := w.heap.size, off := 0 }), Value.pointer (some { block := w.heap.size + 1, off := 0 }), x 10, undef, undef, undef, undef, v, x 1, x 2, x 3, x 4, x 5, x 6, x 7, x 8, x 9, undef, undef, undef, undef, undef, undef, undef, undef, undef, undef, undef, undef, undef, undef, undef, undef, undef, undef, undef, undef, undef, undef, undef, undef, undef, undef, undef, undef, undef, undef, undef, undef, undef, undef], []⟩ W') := fun v W' h1 h2 => hK' _ _ (hK v W' h1 h2)
      clear hK hK' hp hd
      go_simp
      exact HK.out _ _ (Below.refl _ _) rfl
    · refine wpOp_step (o := _) rfl fun K' hK' => ?_
      have HK : Hid (∀ v W', Below W.heap.size W W' → ((Mk.const [0] (.pointer (some ⟨w.heap.size, 0, none⟩)) : Mk)).P W.heap.size W'.heap.size W' v (upd x 1 v) → K' ⟨#[Value.agg #[Value.slice a1 xs.length c1, Value.slice a2 ys.length c2, Value.slice a3 is.length c3, Value.slice a4 bs.length c4], Value.pointer (some { block := w.heap.size, off := 0 }), Value.pointer (some { block := w.heap.size + 1, off := 0 }), x 10, undef, undef, undef, undef, x 0, v, x 2, x 3, x 4, x 5, x 6, x 7, x 8, x 9, undef, undef, undef, undef, undef, undef, undef, undef, undef, undef, undef, undef, undef, undef, undef, undef, undef, undef, undef, undef, undef, undef, undef, undef, undef, undef, undef, undef, undef, undef, undef, undef, undef, undef], []⟩ W') := fun v W' h1 h2 => hK' _ _ (hK v W' h1 h2)
      have e0 : x 0 = .pointer (some ⟨w.heap.size, 0, none⟩) := hp.post 0 (hd 0 (show 0 ∈ [0] from by decide))
      clear hK hK' hp hd
      simp only [e0] at HK ⊢
      go_simp
      exact HK.out _ _ (Below.refl _ _) rfl
    · refine wpOp_step (o := _) rfl fun K' hK' => ?_
      have HK : Hid (∀ v W', Below W.heap.size W W' → ((Mk.const [1] (.slice a1 xs.length c1) : Mk)).P W.heap.size W'.heap.size W' v (upd x 2 v) → K' ⟨#[Value.agg #[Value.slice a1 xs.length c1, Value.slice a2 ys.length c2, Value.slice a3 is.length c3, Value.slice a4 bs.length c4], Value.pointer (some { block := w.heap.size, off := 0 }), Value.pointer (some { block := w.heap.size + 1, off := 0 }), x 10, undef, undef, undef, undef, x 0, x 1, v, x 3, x 4, x 5, x 6, x 7, x 8, x 9, undef, undef, undef, undef, undef, undef, undef, undef, undef, undef, undef, undef, undef, undef, undef, undef, undef, undef, undef, undef, undef, undef, undef, undef, undef, undef, undef, undef, undef, undef, undef, undef, undef, undef], []⟩ W') := fun v W' h1 h2 => hK' _ _ (hK v W' h1 h2)
      have e1 : x 1 = .pointer (some ⟨w.heap.size, 0, none⟩) := hp.post 1 (hd 1 (show 1 ∈ [1] from by decide))
      have q0 : W.cell? ⟨w.heap.size, 0, none⟩ = some (.slice a1 xs.length c1) := (HC.out W hp.bel).1.cell 0
      clear hK hK' hp hd
      simp only [e1] at HK ⊢
      go_simp
      exact HK.out _ _ (Below.refl _ _) rfl
    · refine wpOp_step (o := _) rfl fun K' hK' => ?_
      have HK : Hid (∀ v W', Below W.heap.size W W' → (MkF 2 xs).P W.heap.size W'.heap.size W' v (upd x 3 v) → K' ⟨#[Value.agg #[Value.slice a1 xs.length c1, Value.slice a2 ys.length c2, Value.slice a3 is.length c3, Value.slice a4 bs.length c4], Value.pointer (some { block := w.heap.size, off := 0 }), Value.pointer (some { block := w.heap.size + 1, off := 0 }), x 10, undef, undef, undef, undef, x 0, x 1, x 2, v, x 4, x 5, x 6, x 7, x 8, x 9, undef, undef, undef, undef, undef, undef, undef, undef, undef, undef, undef, undef, undef, undef, undef, undef, undef, undef, undef, undef, undef, undef, undef, undef, undef, undef, undef, undef, undef, undef, undef, undef, undef, undef], []⟩ W') := fun v W' h1 h2 => hK' _ _ (hK v W' h1 h2)
      have e2 : x 2 = .slice a1 xs.length c1 := hp.post 2 (hd 2 (show 2 ∈ [2] from by decide))
      have bl := (HC.out W hp.bel).2.2.1
      clear hK hK' hp hd
      simp only [e2] at HK ⊢
      go_simp
      refine (newB_any _ xs W (H.out.a.below bl (Nat.le_refl _)) HG.out.x).mono ?_
      rintro e w6 ⟨p6, rfl, O6, B6⟩
      obtain ⟨a6, c6, rfl⟩ := O6.rfl.form
      go_simp
      exact HK.out _ _ B6 ⟨a6, c6, rfl, O6, fun i hi => (O6.lt i hi).2⟩
    · refine wpOp_step (o := _) rfl fun K' hK' => ?_
      have HK : Hid (∀ v W', Below W.heap.size W W' → ((Mk.const [] (.pointer (some ⟨w.heap.size, 0, none⟩)) : Mk)).P W.heap.size W'.heap.size W' v (upd x 4 v) → K' ⟨#[Value.agg #[Value.slice a1 xs.length c1, Value.slice a2 ys.length c2, Value.slice a3 is.length c3, Value.slice a4 bs.length c4], Value.pointer (some { block := w.heap.size, off := 0 }), Value.pointer (some { block := w.heap.size + 1, off := 0 }), x 10, undef, undef, undef, undef, x 0, x 1, x 2, x 3, v, x 5, x 6, x 7, x 8, x 9, undef, undef, undef, undef, undef, undef, undef, undef, undef, undef, undef, undef, undef, undef, undef, undef, undef, undef, undef, undef, undef, undef, undef, undef, undef, undef, undef, undef, undef, undef, undef, undef, undef, undef], []⟩ W') := fun v W' h1 h2 => hK' _ _ (hK v W' h1 h2)
      clear hK hK' hp hd
      go_simp
      exact HK.out _ _ (Below.refl _ _) rfl
    · refine wpOp_step (o := _) rfl fun K' hK' => ?_
      have HK : Hid (∀ v W', Below W.heap.size W W' → ((Mk.const [4] (.pointer (some ⟨w.heap.size, 1, none⟩)) : Mk)).P W.heap.size W'.heap.size W' v (upd x 5 v) → K' ⟨#[Value.agg #[Value.slice a1 xs.length c1, Value.slice a2 ys.length c2, Value.slice a3 is.length c3, Value.slice a4 bs.length c4], Value.pointer (some { block := w.heap.size, off := 0 }), Value.pointer (some { block := w.heap.size + 1, off := 0 }), x 10, undef, undef, undef, undef, x 0, x 1, x 2, x 3, x 4, v, x 6, x 7, x 8, x 9, undef, undef, undef, undef, undef, undef, undef, undef, undef, undef, undef, undef, undef, undef, undef, undef, undef, undef, undef, undef, undef, undef, undef, undef, undef, undef, undef, undef, undef, undef, undef, undef, undef, undef], []⟩ W') := fun v W' h1 h2 => hK' _ _ (hK v W' h1 h2)
      have e4 : x 4 = .pointer (some ⟨w.heap.size, 0, none⟩) := hp.post 4 (hd 4 (show 4 ∈ [4] from by decide))
      clear hK hK' hp hd
      simp only [e4] at HK ⊢
      go_simp
      exact HK.out _ _ (Below.refl _ _) rfl
    · refine wpOp_step (o := _) rfl fun K' hK' => ?_
      have HK : Hid (∀ v W', Below W.heap.size W W' → ((Mk.const [5] (.slice a2 ys.length c2) : Mk)).P W.heap.size W'.heap.size W' v (upd x 6 v) → K' ⟨#[Value.agg #[Value.slice a1 xs.length c1, Value.slice a2 ys.length c2, Value.slice a3 is.length c3, Value.slice a4 bs.length c4], Value.pointer (some { block := w.heap.size, off := 0 }), Value.pointer (some { block := w.heap.size + 1, off := 0 }), x 10, undef, undef, undef, undef, x 0, x 1, x 2, x 3, x 4, x 5, v, x 7, x 8, x 9, undef, undef, undef, undef, undef, undef, undef, undef, undef, undef, undef, undef, undef, undef, undef, undef, undef, undef, undef, undef, undef, undef, undef, undef, undef, undef, undef, undef, undef, undef, undef, undef, undef, undef], []⟩ W') := fun v W' h1 h2 => hK' _ _ (hK v W' h1 h2)
      have e5 : x 5 = .pointer (some ⟨w.heap.size, 1, none⟩) := hp.post 5 (hd 5 (show 5 ∈ [5] from by decide))
      have q0 : W.cell? ⟨w.heap.size, 1, none⟩ = some (.slice a2 ys.length c2) := (HC.out W hp.bel).1.cell 1
      clear hK hK' hp hd
      simp only [e5] at HK ⊢
      go_simp
      exact HK.out _ _ (Below.refl _ _) rfl
    · refine wpOp_step (o := _) rfl fun K' hK' => ?_
      have HK : Hid (∀ v W', Below W.heap.size W W' → (MkF 6 ys).P W.heap.size W'.heap.size W' v (upd x 7 v) → K' ⟨#[Value.agg #[Value.slice a1 xs.length c1, Value.slice a2 ys.length c2, Value.slice a3 is.length c3, Value.slice a4 bs.length c4], Value.pointer (some { block := w.heap.size, off := 0 }), Value.pointer (some { block := w.heap.size + 1, off := 0 }), x 10, undef, undef, undef, undef, x 0, x 1, x 2, x 3, x 4, x 5, x 6, v, x 8, x 9, undef, undef, undef, undef, undef, undef, undef, undef, undef, undef, undef, undef, undef, undef, undef, undef, undef, undef, undef, undef, undef, undef, undef, undef, undef, undef, undef, undef, undef, undef, undef, undef, undef, undef], []⟩ W') := fun v W' h1 h2 => hK' _ _ (hK v W' h1 h2)
      have e6 : x 6 = .slice a2 ys.length c2 := hp.post 6 (hd 6 (show 6 ∈ [6] from by decide))
      have bl := (HC.out W hp.bel).2.2.1
      clear hK hK' hp hd
      simp only [e6] at HK ⊢
      go_simp
      refine (newB_any _ ys W (H.out.b.below bl (Nat.le_refl _)) HG.out.y).mono ?_
      rintro e w6 ⟨p6, rfl, O6, B6⟩
      obtain ⟨a6, c6, rfl⟩ := O6.rfl.form
      go_simp
      exact HK.out _ _ B6 ⟨a6, c6, rfl, O6, fun i hi => (O6.lt i hi).2⟩
    · refine wpOp_step (o := _) rfl fun K' hK' => ?_
      have HK : Hid (∀ v W', Below W.heap.size W W' → (Mk2 3 7 xs.length ys.length).P W.heap.size W'.heap.size W' v (upd x 8 v) → K' ⟨#[Value.agg #[Value.slice a1 xs.length c1, Value.slice a2 ys.length c2, Value.slice a3 is.length c3, Value.slice a4 bs.length c4], Value.pointer (some { block := w.heap.size, off := 0 }), Value.pointer (some { block := w.heap.size + 1, off := 0 }), x 10, undef, undef, undef, undef, x 0, x 1, x 2, x 3, x 4, x 5, x 6, x 7, v, x 9, undef, undef, undef, undef, undef, undef, undef, undef, undef, undef, undef, undef, undef, undef, undef, undef, undef, undef, undef, undef, undef, undef, undef, undef, undef, undef, undef, undef, undef, undef, undef, undef, undef, undef], []⟩ W') := fun v W' h1 h2 => hK' _ _ (hK v W' h1 h2)
      have e3 : ∃ a c, x 3 = .slice a xs.length c ∧ ROwns W (iw 3).1 4 (x 3) (fc xs) ∧ ∀ i, (x 3).ownBlock = some i → i < (iw 3).2 := hp.post 3 (hd 3 (show 3 ∈ [3, 7] from by decide))
      have e7 : ∃ a c, x 7 = .slice a ys.length c ∧ ROwns W (iw 7).1 4 (x 7) (fc ys) ∧ ∀ i, (x 7).ownBlock = some i → i < (iw 7).2 := hp.post 7 (hd 7 (show 7 ∈ [3, 7] from by decide))
      clear hK hK' hp hd
      obtain ⟨a5, c5, e3, -⟩ := e3
      obtain ⟨a6, c6, e7, -⟩ := e7
      have HE := hide (And.intro e3 e7)
      simp only [e3, e7] at HK ⊢
      clear e3 e7
      go_simp
      exact HK.out _ _ (Below.refl _ _) ⟨a5, c5, a6, c6, by rw [upd_ne _ _ _ _ (by decide)]; exact HE.out.1, by rw [upd_ne _ _ _ _ (by decide)]; exact HE.out.2, rfl⟩
    · refine wpOp_step (o := _) rfl fun K' hK' => ?_
      have HK : Hid (∀ v W', Below W.heap.size W W' → (Mk4 8 xs.length ys.length).P W.heap.size W'.heap.size W' v (upd x 9 v) → K' ⟨#[Value.agg #[Value.slice a1 xs.length c1, Value.slice a2 ys.length c2, Value.slice a3 is.length c3, Value.slice a4 bs.length c4], Value.pointer (some { block := w.heap.size, off := 0 }), Value.pointer (some { block := w.heap.size + 1, off := 0 }), x 10, undef, undef, undef, undef, x 0, x 1, x 2, x 3, x 4, x 5, x 6, x 7, x 8, v, undef, undef, undef, undef, undef, undef, undef, undef, undef, undef, undef, undef, undef, undef, undef, undef, undef, undef, undef, undef, undef, undef, undef, undef, undef, undef, undef, undef, undef, undef, undef, undef, undef, undef], []⟩ W') := fun v W' h1 h2 => hK' _ _ (hK v W' h1 h2)
      have e8 : ∃ a c a' c', x 3 = .slice a xs.length c ∧ x 7 = .slice a' ys.length c' ∧ x 8 = .agg #[.slice a xs.length c, .slice a' ys.length c'] := hp.post 8 (hd 8 (show 8 ∈ [8] from by decide))
      clear hK hK' hp hd
      obtain ⟨a5, c5, a6, c6, -, -, e8⟩ := e8
      have HE := hide e8
      simp only [e8] at HK ⊢
      clear e8
      go_simp
      exact HK.out _ _ (Below.refl _ _) ⟨a5, c5, a6, c6, by rw [upd_ne _ _ _ _ (by decide)]; exact HE.out, rfl⟩
    · refine wpOp_step (o := _) rfl fun K' hK' => ?_
      have HK : Hid (∀ v W', Below W.heap.size W W' → (MkV 41 noD).P W.heap.size W'.heap.size W' v (upd x 10 v) → K' ⟨#[Value.agg #[Value.slice a1 xs.length c1, Value.slice a2 ys.length c2, Value.slice a3 is.length c3, Value.slice a4 bs.length c4], Value.pointer (some { block := w.heap.size, off := 0 }), Value.pointer (some { block := w.heap.size + 1, off := 0 }), v, undef, undef, undef, undef, x 0, x 1, x 2, x 3, x 4, x 5, x 6, x 7, x 8, x 9, undef, undef, undef, undef, undef, undef, undef, undef, undef, undef, undef, undef, undef, undef, undef, undef, undef, undef, undef, undef, undef, undef, undef, undef, undef, undef, undef, undef, undef, undef, undef, undef, undef, undef], []⟩ W') := fun v W' h1 h2 => hK' _ _ (hK v W' h1 h2)
      clear hK hK' hp hd
      go_simp
      exact HK.out _ _ ((Below.refl _ W).alloc (Nat.le_refl _) _) ⟨rfl, by simp, AtC.new W 41 _⟩
  · intro x iw W hp
    obtain ⟨a5, c5, e3, O3, own3⟩ := hp.post 3 (by decide)
    obtain ⟨a6, c6, e7, O7, own7⟩ := hp.post 7 (by decide)
    obtain ⟨a5', c5', a6', c6', f3, f7, e8⟩ := hp.post 8 (by decide)
    obtain ⟨a5'', c5'', a6'', c6'', g8, e9⟩ := hp.post 9 (by decide)
    obtain ⟨e10, z10, A10⟩ := hp.post 10 (by decide)
    rw [e3] at f3
    rw [e7] at f7
    rw [e8] at g8
    simp only [Value.slice.injEq, true_and] at f3 f7
    obtain ⟨rfl, rfl⟩ := f3
    obtain ⟨rfl, rfl⟩ := f7
    simp only [Value.agg.injEq, Array.mk.injEq, List.cons.injEq, Value.slice.injEq, true_and, and_true] at g8
    obtain ⟨⟨rfl, rfl⟩, rfl, rfl⟩ := g8
    have p37 := hp.apart 3 (by decide) 7 (by decide) (by decide)
    have p310 := hp.apart 3 (by decide) 10 (by decide) (by decide)
    have p710 := hp.apart 7 (by decide) 10 (by decide) (by decide)
    have l3 := hp.lo 3 (by decide)
    have l7 := hp.lo 7 (by decide)
    have l10 := hp.lo 10 (by decide)
    simp [World.drew] at l3 l7 l10
    obtain ⟨kA, kR, bel, -⟩ := HC.out W hp.bel
    have hT : Two W (w.heap.size + 1 + 1) (.slice a5 xs.length c5) (.slice a6 ys.length c6) xs ys := by
      rw [e3] at O3 own3
      rw [e7] at O7 own7
      exact ⟨O3.base_le l3.1, O7.base_le l7.1, fun k h1 h2 => by have := own3 k h1; have := own7 k h2; have := (O3.lt k h1).1; have := (O7.lt k h2).1; omega⟩
    have hne : ∀ k, ((Value.slice a5 xs.length c5).ownBlock = some k ∨ (Value.slice a6 ys.length c6).ownBlock = some k) → k ≠ (iw 10).1 := fun k hk => by
      rw [e3] at O3 own3
      rw [e7] at O7 own7
      rcases hk with hk | hk
      · have := own3 k hk; have := (O3.lt k hk).1; omega
      · have := own7 k hk; have := (O7.lt k hk).1; omega
    have D0 := dz_stored kA kR A10 hT hne bel (by omega)
    have y0 : W.cell? ⟨(iw 10).1, 0, none⟩ = some (.slice none 0 0) := A10.cell 0
    have y1 : W.cell? ⟨(iw 10).1, 1, none⟩ = some (.slice none 0 0) := A10.cell 1
    have y2 : W.cell? ⟨(iw 10).1, 2, none⟩ = some (.slice none 0 0) := A10.cell 2
    have y3 : W.cell? ⟨(iw 10).1, 3, none⟩ = some (.slice none 0 0) := A10.cell 3
    have z0 := A10.frozen 0
    have z1 := A10.frozen 1
    have z2 := A10.frozen 2
    have z3 := A10.frozen 3
    generalize (iw 10).1 = b at *
    have HD := hide D0
    clear hp own3 own7 O3 O7 hne kA kR bel z10 p37 p310 p710 l3 l7 l10 D0 hT A10 HC
    simp only [e3, e7, e8, e9, e10]
    clear e3 e7 e8 e9 e10
    go_wp2_with fail
    rw [List.filterMap_nil]
    obtain ⟨W1, hW1⟩ : ∃ W1, (((W.setCell ⟨b, 0, none⟩ (.slice a5 xs.length c5)).setCell ⟨b, 1, none⟩ (.slice a6 ys.length c6)).setCell ⟨b, 2, none⟩ (.slice none 0 0)).setCell ⟨b, 3, none⟩ (.slice none 0 0) = W1 := ⟨_, rfl⟩
    rw [hW1] at HD ⊢
    have q2 : W1.cell? ⟨w.heap.size, 2, none⟩ = some (.slice a3 is.length c3) := HD.out.arg.cell 2
    clear y0 y1 y2 y3 z0 z1 z2 z3 hW1
    go_wp2
    go_loopw [21] (fun i wr => ∃ j : Nat, j ≤ is.length ∧ i = .int .i64 j ∧ Hid (∃ iv, Dz w wr #[.slice a1 xs.length c1, .slice a2 ys.length c2, .slice a3 is.length c3, .slice a4 bs.length c4] b (.slice a5 xs.length c5) (.slice a6 ys.length c6) iv (.slice none 0 0) xs ys (is.take j) [])) (fun i _ => is.length - (intOf i).toNat)
    case atStart => exact ⟨0, Nat.zero_le _, rfl, _, HD.out⟩
    case round =>
      obtain ⟨j, hj, rfl, HR⟩ := hrel
      obtain ⟨iv, hds⟩ := HR.out
      by_cases hlt : j < is.length
      · obtain ⟨ti, k1, k2, k3⟩ := hds.appI
        obtain ⟨gi, ci, rfl, -⟩ := k1.form
        obtain ⟨ai, cai, ei, -, hci⟩ := H.out.i.ino
        obtain ⟨g, off, p, rfl, hg, m1, m2, m3, hp⟩ := hci j hlt
        simp only [Value.slice.injEq] at ei
        obtain ⟨rfl, -, rfl⟩ := ei
        have hpl := HG.out.p j hlt
        have htk : is.take j ++ [is[j]] = is.take (j + 1) := List.take_append_getElem hlt
        obtain ⟨X, hX⟩ : ∃ X, is[j] = X := ⟨_, rfl⟩
        obtain ⟨y, s, z⟩ := X
        rw [hX] at m1 m2 hp hpl htk
        simp only at m1 m2 hp hpl
        obtain ⟨pa, pc, rfl⟩ := hp.form
        have hti : ti.length = j := by rw [k2, List.length_take]; omega
        have n1 := (hds.bel.cell (p := ⟨g, off + j * 3, none⟩) hg).trans m1
        have n2 := (hds.bel.cell (p := ⟨g, off + j * 3 + 1, none⟩) hg).trans m2
        have n3 := (hds.bel.cell (p := ⟨g, off + j * 3 + 2, none⟩) hg).trans m3
        have HP : Hid (RInts (wr.alloc (.cells #[.int .i64 y, .int .i64 s, .slice pa z.length pc] 105)) (.slice pa z.length pc) z) := (hp.below hds.bel (Nat.le_refl _)).alloc _
        have HX := hide (And.intro k1 (And.intro k3 hti))
        have HDS := hide hds
        have HPL := hide hpl
        have HTK := hide htk
        have j0 : (0 : Int) ≤ (j : Int) := by omega
        have j1 : (j : Int) < (is.length : Int) := by omega
        clear k1 k2 k3 hds HR hti m1 m2 m3 hp hpl htk hci hX hg q2
        go_wp2_with fail
        refine (newI_any _ z _ HP.out HPL.out).mono ?_
        rintro e w6 ⟨u6, rfl, O6, B6⟩
        obtain ⟨pb, pd, rfl⟩ := O6.rints.form
        have K6 : AtC w6 wr.heap.size 105 #[.int .i64 y, .int .i64 s, .slice pa z.length pc] := (AtC.new wr 105 _).over B6
        have hs6 : wr.heap.size + 1 ≤ w6.heap.size := by have := B6.size; simpa using this
        have bW : Below wr.heap.size wr ((w6.setCell ⟨wr.heap.size, 2, none⟩ (.slice pb z.length pd)).alloc (.cells #[.int .i64 y, .int .i64 s, .slice pb z.length pd] 105)) := ((((Below.refl _ wr).alloc (Nat.le_refl _) _).trans (B6.mono (by simp))).setCell (Nat.le_refl _) _).alloc (by simp; omega) _
        have O7 : ROwns ((w6.setCell ⟨wr.heap.size, 2, none⟩ (.slice pb z.length pd)).alloc (.cells #[.int .i64 y, .int .i64 s, .slice pb z.length pd] 105)) (wr.heap.size + 1) 3 (.slice pb z.length pd) (ic z) := ((O6.base_le (by simp)).setCell_other (by omega) _).alloc _
        have K7 := AtC.new (w6.setCell ⟨wr.heap.size, 2, none⟩ (.slice pb z.length pd)) 105 #[.int .i64 y, .int .i64 s, .slice pb z.length pd]
        have K8 : AtC ((w6.setCell ⟨wr.heap.size, 2, none⟩ (.slice pb z.length pd)).alloc (.cells #[.int .i64 y, .int .i64 s, .slice pb z.length pd] 105)) wr.heap.size 105 #[.int .i64 y, .int .i64 s, .slice pb z.length pd] := (K6.set 2 (.slice pb z.length pd)).alloc _
        have kc2 : w6.cell? ⟨wr.heap.size, 2, none⟩ = some (.slice pa z.length pc) := K6.cell 2
        have kc3 : (w6.setCell ⟨wr.heap.size, 2, none⟩ (.slice pb z.length pd)).cell? ⟨wr.heap.size, 0, none⟩ = some (.int .i64 y) := (K6.set 2 (.slice pb z.length pd)).cell 0
        have kc4 : (w6.setCell ⟨wr.heap.size, 2, none⟩ (.slice pb z.length pd)).cell? ⟨wr.heap.size, 1, none⟩ = some (.int .i64 s) := (K6.set 2 (.slice pb z.length pd)).cell 1
        have kc5 : (w6.setCell ⟨wr.heap.size, 2, none⟩ (.slice pb z.length pd)).cell? ⟨wr.heap.size, 2, none⟩ = some (.slice pb z.length pd) := (K6.set 2 (.slice pb z.length pd)).cell 2
        have f2 := K6.frozen 2
        have dB := HDS.out.below (w1 := w6) (((Below.refl _ wr).alloc (Nat.le_refl _) _).trans (B6.mono (by simp)))
        have hbb := HDS.out.box.lt
        have cb : (w6.setCell ⟨wr.heap.size, 2, none⟩ (.slice pb z.length pd)).cell? ⟨b, 2, none⟩ = some (.slice gi ti.length ci) := (dB.box.other (by omega) _).cell 2
        have hT : TOwns ((w6.setCell ⟨wr.heap.size, 2, none⟩ (.slice pb z.length pd)).alloc (.cells #[.int .i64 y, .int .i64 s, .slice pb z.length pd] 105)) 105 (.slice gi ti.length ci) ti := HX.out.1.of_heap fun k hk => bW.block k (HX.out.1.lt k hk)
        obtain ⟨W6, hW6⟩ : ∃ W6, w6.setCell ⟨wr.heap.size, 2, none⟩ (.slice pb z.length pd) = W6 := ⟨_, rfl⟩
        rw [hW6] at bW O7 K7 K8 hT kc3 kc4 kc5 cb
        have HN : Hid (∀ v' w', TOwns w' 105 v' (ti ++ [(.int .i64 y, .int .i64 s, .slice pb z.length pd)]) → (W6.alloc (.cells #[.int .i64 y, .int .i64 s, .slice pb z.length pd] 105)).grownBy w' (Value.slice gi ti.length ci).ownBlock → (∀ k, v'.ownBlock = some k → (Value.slice gi ti.length ci).ownBlock = some k ∨ (W6.alloc (.cells #[.int .i64 y, .int .i64 s, .slice pb z.length pd] 105)).heap.size ≤ k) → (AtC w' b 41 #[.slice a5 xs.length c5, .slice a6 ys.length c6, .slice gi ti.length ci, .slice none 0 0]) ∧ Dz w (w'.setCell ⟨b, 2, none⟩ v') #[.slice a1 xs.length c1, .slice a2 ys.length c2, .slice (some ⟨g, off, none⟩) is.length c3, .slice a4 bs.length c4] b (.slice a5 xs.length c5) (.slice a6 ys.length c6) v' (.slice none 0 0) xs ys (is.take j ++ [(y, s, z)]) []) := fun v' w' h1 h2 h3 => HX.out.2.1 _ w' v' _ (y, s, z) bW ⟨rfl, rfl, O7.base_le (Nat.zero_le _)⟩ (fun k hk => by have := (O7.lt k hk).1; omega) h1 h2 h3
        have HTL : Hid (ti.length ≤ 1000000000000) := by have := HX.out.2.2; show ti.length ≤ _; omega
        have HK7 := hide K7
        have HT := hide hT
        clear hT O7 O6 bW K6 K7 K8 B6 dB HX HDS HP n1 n2 n3
        go_wp2_with (at_builtin; refine wpList_step fun K' hK' => ?_; refine step_append_three _ rfl (.tmp 30) (.tmp 32) 38 rfl 105 Tryz.u38 _ 40 Tryz.i105 rfl (by decide) (.slice gi ti.length ci) ti rfl HT.out W6.heap.size (.int .i64 y, .int .i64 s, .slice pb z.length pd) rfl ⟨HK7.out.cell 0, HK7.out.cell 1, HK7.out.cell 2⟩ ⟨rfl, rfl, rfl⟩ HTL.out ?_; intro v9 w9 T9 G9 V9; refine hK' _ _ ?_; obtain ⟨e9, D9⟩ := HN.out v9 w9 T9 G9 V9; obtain ⟨g9, c9, rfl, -⟩ := T9.form; rw [show (ti ++ [((.int .i64 y, .int .i64 s, .slice pb z.length pd) : V3)]).length = ti.length + 1 from List.length_append] at D9 ⊢; have z2 := e9.frozen 2; have z3 : w9.cell? ⟨b, 2, none⟩ = some (.slice gi ti.length ci) := e9.cell 2; have H9 := hide D9; clear e9 D9 T9 G9 V9 HN HK7 HT HTL hK')
        go_roundw
        case rel => exact ⟨j + 1, by omega, by go_num, _, by rw [← HTK.out]; exact H9.out⟩
        case measure => simp [intOf]; omega
      · have hj2 : j = is.length := by omega
        subst hj2
        rw [List.take_length] at hds
        obtain ⟨-, -, -, -, a7, c7, -, -, -, -, rfl, -⟩ := hds.dsk.dr.form
        have HD2 := hide hds
        have b0 : wr.cell? ⟨w.heap.size, 3, none⟩ = some (.slice a4 bs.length c4) := hds.arg.cell 3
        clear hds HR q2
        go_wp2_with fail
        go_loopw [39] (fun i wr => ∃ j : Nat, j ≤ bs.length ∧ i = .int .i64 j ∧ Hid (∃ bv, Dz w wr #[.slice a1 xs.length c1, .slice a2 ys.length c2, .slice a3 is.length c3, .slice a4 bs.length c4] b (.slice a5 xs.length c5) (.slice a6 ys.length c6) (.slice a7 is.length c7) bv xs ys is (bs.take j))) (fun i _ => bs.length - (intOf i).toNat)
        case atStart => exact ⟨0, Nat.zero_le _, rfl, _, HD2.out⟩
        case round =>
          obtain ⟨j, hj, rfl, HR⟩ := hrel
          obtain ⟨bv, hds⟩ := HR.out
          by_cases hlt : j < bs.length
          · obtain ⟨ai, cai, ei, -, hci⟩ := H.out.k.blk
            obtain ⟨g, off, p, rfl, hg, m1, m2, m3, hp⟩ := hci j hlt
            simp only [Value.slice.injEq] at ei
            obtain ⟨rfl, -, rfl⟩ := ei
            have hpl := HG.out.s j hlt
            have htk : bs.take j ++ [bs[j]] = bs.take (j + 1) := List.take_append_getElem hlt
            obtain ⟨X, hX⟩ : ∃ X, bs[j] = X := ⟨_, rfl⟩
            obtain ⟨y, z, s⟩ := X
            rw [hX] at m1 m3 hp hpl htk
            simp only at m1 m3 hp
            obtain ⟨pa, pc, rfl⟩ := hp.form
            obtain ⟨ti, k1, k2, k3⟩ := (hds.alloc (.cells #[.bool y, .slice pa z.length pc, .string s] 109)).drew.appB
            obtain ⟨gi, ci, rfl, -⟩ := k1.form
            have hti : ti.length = j := by rw [k2, List.length_take]; omega
            have n1 := (hds.bel.cell (p := ⟨g, off + j * 3, none⟩) hg).trans m1
            have n2 := (hds.bel.cell (p := ⟨g, off + j * 3 + 1, none⟩) hg).trans m2
            have n3 := (hds.bel.cell (p := ⟨g, off + j * 3 + 2, none⟩) hg).trans m3
            have HX := hide (And.intro k1 (And.intro k3 hti))
            have HDS := hide hds
            have HP : Hid (∀ W, Below w.heap.size w W → RSl W (.slice pa z.length pc) z) := fun W b => hp.below b (Nat.le_refl _)
            have HPL := hide hpl
            have HTK := hide htk
            have HC : Hid (∀ W, Below (wr.alloc (.cells #[.bool y, .slice pa z.length pc, .string s] 109)).drew.heap.size (wr.alloc (.cells #[.bool y, .slice pa z.length pc, .string s] 109)).drew W → W.cell? ⟨b, 3, none⟩ = some (.slice gi ti.length ci) ∧ AtC W wr.heap.size 109 #[.bool y, .slice pa z.length pc, .string s] ∧ Below w.heap.size w W) := fun W b => by
              have hw := (HDS.out.alloc _).drew.below b
              exact ⟨hw.box.cell 3, (AtC.new wr 109 _).drew.over b, hw.bel⟩
            have j0 : (0 : Int) ≤ (j : Int) := by omega
            have j1 : (j : Int) < (bs.length : Int) := by omega
            clear k1 k2 k3 hds HR hti m1 m2 m3 hp hpl htk hci hX hg b0
            go_wp2_with fail
            refine wp_region_frm (by kernel_rfl) [0, 1, 2, 3, 4] [5, 6, 7] (fun i => match i with | 0 => .const [] (.pointer (some ⟨b, 3, none⟩)) | 1 => .const [0] (.slice gi ti.length ci) | 2 => .const [] (.agg #[.bool y, .slice pa z.length pc, .string s]) | 3 => MkK 2 y s z | 4 => MkK1 3 y s | _ => .triv) (fun xb => ⟨#[Value.agg #[Value.slice a1 xs.length c1, Value.slice a2 ys.length c2, Value.slice a3 is.length c3, Value.slice (some { block := g, off := off }) bs.length c4], Value.pointer (some { block := w.heap.size, off := 0 }), Value.pointer (some { block := w.heap.size + 1, off := 0 }), Value.pointer (some { block := b, off := 0 }), undef, u5, undef, Value.pointer (some { block := wr.heap.size, off := 0 }), x 0, x 1, x 2, Value.slice a5 xs.length c5, x 4, x 5, x 6, Value.slice a6 ys.length c6, Value.agg #[Value.slice a5 xs.length c5, Value.slice a6 ys.length c6], Value.agg #[Value.slice a5 xs.length c5, Value.slice a6 ys.length c6, Value.slice none 0 0, Value.slice none 0 0], Value.pointer (some { block := w.heap.size, off := 2 }), Value.slice a3 is.length c3, Value.int IntKind.i64 ↑is.length, Value.int IntKind.i64 ↑is.length, Value.bool false, u23, u24, u25, u26, u27, u28, u29, u30, u31, u32, u33, u34, u35, Value.pointer (some { block := w.heap.size, off := 3 }), Value.slice (some { block := g, off := off }) bs.length c4, Value.int IntKind.i64 ↑bs.length, Value.int IntKind.i64 ↑j, Value.bool true, Value.pointer (some { block := g, off := off + j * 3 }), Value.agg #[Value.bool y, Value.slice pa z.length pc, Value.string s], xb 0, xb 1, xb 2, xb 3, xb 4, u48, u49, u50, undef], []⟩) (fun i => match i with | 0 => u43 | 1 => u44 | 2 => u45 | 3 => u46 | 4 => u47 | _ => undef) rfl (by kernel_rfl) (by kernel_rfl) (by kernel_rfl) rfl ?_ ?_
            · intro jo hj so xb iw W hd hp K hK
              simp only [List.mem_cons, List.not_mem_nil, or_false] at hj
              rcases hj with rfl | rfl | rfl | rfl | rfl
              · refine wpOp_step (o := _) rfl fun K' hK' => ?_
                have HK : Hid (∀ v W', Below W.heap.size W W' → ((Mk.const [] (.pointer (some ⟨b, 3, none⟩)) : Mk)).P W.heap.size W'.heap.size W' v (upd xb 0 v) → K' ⟨#[Value.agg #[Value.slice a1 xs.length c1, Value.slice a2 ys.length c2, Value.slice a3 is.length c3, Value.slice (some { block := g, off := off }) bs.length c4], Value.pointer (some { block := w.heap.size, off := 0 }), Value.pointer (some { block := w.heap.size + 1, off := 0 }), Value.pointer (some { block := b, off := 0 }), undef, u5, undef, Value.pointer (some { block := wr.heap.size, off := 0 }), x 0, x 1, x 2, Value.slice a5 xs.length c5, x 4, x 5, x 6, Value.slice a6 ys.length c6, Value.agg #[Value.slice a5 xs.length c5, Value.slice a6 ys.length c6], Value.agg #[Value.slice a5 xs.length c5, Value.slice a6 ys.length c6, Value.slice none 0 0, Value.slice none 0 0], Value.pointer (some { block := w.heap.size, off := 2 }), Value.slice a3 is.length c3, Value.int IntKind.i64 ↑is.length, Value.int IntKind.i64 ↑is.length, Value.bool false, u23, u24, u25, u26, u27, u28, u29, u30, u31, u32, u33, u34, u35, Value.pointer (some { block := w.heap.size, off := 3 }), Value.slice (some { block := g, off := off }) bs.length c4, Value.int IntKind.i64 ↑bs.length, Value.int IntKind.i64 ↑j, Value.bool true, Value.pointer (some { block := g, off := off + j * 3 }), Value.agg #[Value.bool y, Value.slice pa z.length pc, Value.string s], v, xb 1, xb 2, xb 3, xb 4, u48, u49, u50, undef], []⟩ W') := fun v W' h1 h2 => hK' _ _ (hK v W' h1 h2)
                clear hK hK' hp hd
                go_simp
                exact HK.out _ _ (Below.refl _ _) rfl
              · refine wpOp_step (o := _) rfl fun K' hK' => ?_
                have HK : Hid (∀ v W', Below W.heap.size W W' → ((Mk.const [0] (.slice gi ti.length ci) : Mk)).P W.heap.size W'.heap.size W' v (upd xb 1 v) → K' ⟨#[Value.agg #[Value.slice a1 xs.length c1, Value.slice a2 ys.length c2, Value.slice a3 is.length c3, Value.slice (some { block := g, off := off }) bs.length c4], Value.pointer (some { block := w.heap.size, off := 0 }), Value.pointer (some { block := w.heap.size + 1, off := 0 }), Value.pointer (some { block := b, off := 0 }), undef, u5, undef, Value.pointer (some { block := wr.heap.size, off := 0 }), x 0, x 1, x 2, Value.slice a5 xs.length c5, x 4, x 5, x 6, Value.slice a6 ys.length c6, Value.agg #[Value.slice a5 xs.length c5, Value.slice a6 ys.length c6], Value.agg #[Value.slice a5 xs.length c5, Value.slice a6 ys.length c6, Value.slice none 0 0, Value.slice none 0 0], Value.pointer (some { block := w.heap.size, off := 2 }), Value.slice a3 is.length c3, Value.int IntKind.i64 ↑is.length, Value.int IntKind.i64 ↑is.length, Value.bool false, u23, u24, u25, u26, u27, u28, u29, u30, u31, u32, u33, u34, u35, Value.pointer (some { block := w.heap.size, off := 3 }), Value.slice (some { block := g, off := off }) bs.length c4, Value.int IntKind.i64 ↑bs.length, Value.int IntKind.i64 ↑j, Value.bool true, Value.pointer (some { block := g, off := off + j * 3 }), Value.agg #[Value.bool y, Value.slice pa z.length pc, Value.string s], xb 0, v, xb 2, xb 3, xb 4, u48, u49, u50, undef], []⟩ W') := fun v W' h1 h2 => hK' _ _ (hK v W' h1 h2)
                have e0 : xb 0 = .pointer (some ⟨b, 3, none⟩) := hp.post 0 (hd 0 (show 0 ∈ [0] from by decide))
                have q0 := (HC.out W hp.bel).1
                clear hK hK' hp hd
                simp only [e0] at HK ⊢
                go_simp
                exact HK.out _ _ (Below.refl _ _) rfl
              · refine wpOp_step (o := _) rfl fun K' hK' => ?_
                have HK : Hid (∀ v W', Below W.heap.size W W' → ((Mk.const [] (.agg #[.bool y, .slice pa z.length pc, .string s]) : Mk)).P W.heap.size W'.heap.size W' v (upd xb 2 v) → K' ⟨#[Value.agg #[Value.slice a1 xs.length c1, Value.slice a2 ys.length c2, Value.slice a3 is.length c3, Value.slice (some { block := g, off := off }) bs.length c4], Value.pointer (some { block := w.heap.size, off := 0 }), Value.pointer (some { block := w.heap.size + 1, off := 0 }), Value.pointer (some { block := b, off := 0 }), undef, u5, undef, Value.pointer (some { block := wr.heap.size, off := 0 }), x 0, x 1, x 2, Value.slice a5 xs.length c5, x 4, x 5, x 6, Value.slice a6 ys.length c6, Value.agg #[Value.slice a5 xs.length c5, Value.slice a6 ys.length c6], Value.agg #[Value.slice a5 xs.length c5, Value.slice a6 ys.length c6, Value.slice none 0 0, Value.slice none 0 0], Value.pointer (some { block := w.heap.size, off := 2 }), Value.slice a3 is.length c3, Value.int IntKind.i64 ↑is.length, Value.int IntKind.i64 ↑is.length, Value.bool false, u23, u24, u25, u26, u27, u28, u29, u30, u31, u32, u33, u34, u35, Value.pointer (some { block := w.heap.size, off := 3 }), Value.slice (some { block := g, off := off }) bs.length c4, Value.int IntKind.i64 ↑bs.length, Value.int IntKind.i64 ↑j, Value.bool true, Value.pointer (some { block := g, off := off + j * 3 }), Value.agg #[Value.bool y, Value.slice pa z.length pc, Value.string s], xb 0, xb 1, v, xb 3, xb 4, u48, u49, u50, undef], []⟩ W') := fun v W' h1 h2 => hK' _ _ (hK v W' h1 h2)
                have k0 := (HC.out W hp.bel).2.1
                have q0 : W.cell? ⟨wr.heap.size, 0, none⟩ = some (.bool y) := k0.cell 0
                have q1 : W.cell? ⟨wr.heap.size, 1, none⟩ = some (.slice pa z.length pc) := k0.cell 1
                have q2 : W.cell? ⟨wr.heap.size, 2, none⟩ = some (.string s) := k0.cell 2
                clear k0
                clear hK hK' hp hd
                go_simp
                exact HK.out _ _ (Below.refl _ _) rfl
              · refine wpOp_step (o := _) rfl fun K' hK' => ?_
                have HK : Hid (∀ v W', Below W.heap.size W W' → (MkK 2 y s z).P W.heap.size W'.heap.size W' v (upd xb 3 v) → K' ⟨#[Value.agg #[Value.slice a1 xs.length c1, Value.slice a2 ys.length c2, Value.slice a3 is.length c3, Value.slice (some { block := g, off := off }) bs.length c4], Value.pointer (some { block := w.heap.size, off := 0 }), Value.pointer (some { block := w.heap.size + 1, off := 0 }), Value.pointer (some { block := b, off := 0 }), undef, u5, undef, Value.pointer (some { block := wr.heap.size, off := 0 }), x 0, x 1, x 2, Value.slice a5 xs.length c5, x 4, x 5, x 6, Value.slice a6 ys.length c6, Value.agg #[Value.slice a5 xs.length c5, Value.slice a6 ys.length c6], Value.agg #[Value.slice a5 xs.length c5, Value.slice a6 ys.length c6, Value.slice none 0 0, Value.slice none 0 0], Value.pointer (some { block := w.heap.size, off := 2 }), Value.slice a3 is.length c3, Value.int IntKind.i64 ↑is.length, Value.int IntKind.i64 ↑is.length, Value.bool false, u23, u24, u25, u26, u27, u28, u29, u30, u31, u32, u33, u34, u35, Value.pointer (some { block := w.heap.size, off := 3 }), Value.slice (some { block := g, off := off }) bs.length c4, Value.int IntKind.i64 ↑bs.length, Value.int IntKind.i64 ↑j, Value.bool true, Value.pointer (some { block := g, off := off + j * 3 }), Value.agg #[Value.bool y, Value.slice pa z.length pc, Value.string s], xb 0, xb 1, xb 2, v, xb 4, u48, u49, u50, undef], []⟩ W') := fun v W' h1 h2 => hK' _ _ (hK v W' h1 h2)
                have e2 : xb 2 = .agg #[.bool y, .slice pa z.length pc, .string s] := hp.post 2 (hd 2 (show 2 ∈ [2] from by decide))
                have bl := (HC.out W hp.bel).2.2
                clear hK hK' hp hd
                simp only [e2] at HK ⊢
                go_simp
                refine (newK_any y s _ z W (HP.out W bl) HPL.out).mono ?_
                rintro e w6 ⟨p6, rfl, O6, B6⟩
                go_simp
                exact HK.out _ _ B6 ⟨p6, rfl, O6, fun i hi => (O6.lt i hi).2⟩
              · refine wpOp_step (o := _) rfl fun K' hK' => ?_
                have HK : Hid (∀ v W', Below W.heap.size W W' → (MkK1 3 y s).P W.heap.size W'.heap.size W' v (upd xb 4 v) → K' ⟨#[Value.agg #[Value.slice a1 xs.length c1, Value.slice a2 ys.length c2, Value.slice a3 is.length c3, Value.slice (some { block := g, off := off }) bs.length c4], Value.pointer (some { block := w.heap.size, off := 0 }), Value.pointer (some { block := w.heap.size + 1, off := 0 }), Value.pointer (some { block := b, off := 0 }), undef, u5, undef, Value.pointer (some { block := wr.heap.size, off := 0 }), x 0, x 1, x 2, Value.slice a5 xs.length c5, x 4, x 5, x 6, Value.slice a6 ys.length c6, Value.agg #[Value.slice a5 xs.length c5, Value.slice a6 ys.length c6], Value.agg #[Value.slice a5 xs.length c5, Value.slice a6 ys.length c6, Value.slice none 0 0, Value.slice none 0 0], Value.pointer (some { block := w.heap.size, off := 2 }), Value.slice a3 is.length c3, Value.int IntKind.i64 ↑is.length, Value.int IntKind.i64 ↑is.length, Value.bool false, u23, u24, u25, u26, u27, u28, u29, u30, u31, u32, u33, u34, u35, Value.pointer (some { block := w.heap.size, off := 3 }), Value.slice (some { block := g, off := off }) bs.length c4, Value.int IntKind.i64 ↑bs.length, Value.int IntKind.i64 ↑j, Value.bool true, Value.pointer (some { block := g, off := off + j * 3 }), Value.agg #[Value.bool y, Value.slice pa z.length pc, Value.string s], xb 0, xb 1, xb 2, xb 3, v, u48, u49, u50, undef], []⟩ W') := fun v W' h1 h2 => hK' _ _ (hK v W' h1 h2)
                have e3 : ∃ u, xb 3 = .agg #[.bool y, u, .string s] ∧ SOwns W (iw 3).1 126 u z ∧ ∀ i, u.ownBlock = some i → i < (iw 3).2 := hp.post 3 (hd 3 (show 3 ∈ [3] from by decide))
                clear hK hK' hp hd
                obtain ⟨p7, e7, O7, -⟩ := e3
                obtain ⟨pb, pd, rfl⟩ := O7.rsl.form
                clear O7
                have HE := hide e7
                simp only [e7] at HK ⊢
                clear e7
                go_simp
                exact HK.out _ _ ((Below.refl _ W).alloc (Nat.le_refl _) _) ⟨rfl, by simp, .slice pb z.length pd, by rw [upd_ne _ _ _ _ (by decide)]; exact HE.out, AtC.new W 109 _⟩
            · intro xb iw W hp
              have e1 : xb 1 = .slice gi ti.length ci := hp.post 1 (by decide)
              obtain ⟨p7, e7, O7, -⟩ := hp.post 3 (by decide)
              obtain ⟨e8, -, p8, f8, A8⟩ := hp.post 4 (by decide)
              rw [e7] at f8
              simp only [Value.agg.injEq, Array.mk.injEq, List.cons.injEq, and_true, true_and] at f8
              subst f8
              have l7 := (hp.lo 3 (by decide)).1
              have hbel := hp.bel
              have O9 : SOwns W (wr.alloc (.cells #[.bool y, .slice pa z.length pc, .string s] 109)).drew.heap.size 126 p7 z := O7.base_le l7
              obtain ⟨pb, pd, rfl⟩ := O9.rsl.form
              have hT : TOwns W 109 (.slice gi ti.length ci) ti := HX.out.1.of_heap fun k hk => hbel.block k (HX.out.1.lt k hk)
              have HN : Hid (∀ v' w', TOwns w' 109 v' (ti ++ [(.bool y, .slice pb z.length pd, .string s)]) → W.grownBy w' (Value.slice gi ti.length ci).ownBlock → (∀ k, v'.ownBlock = some k → (Value.slice gi ti.length ci).ownBlock = some k ∨ W.heap.size ≤ k) → (AtC w' b 41 #[.slice a5 xs.length c5, .slice a6 ys.length c6, .slice a7 is.length c7, .slice gi ti.length ci]) ∧ Dz w (w'.setCell ⟨b, 3, none⟩ v') #[.slice a1 xs.length c1, .slice a2 ys.length c2, .slice a3 is.length c3, .slice (some ⟨g, off, none⟩) bs.length c4] b (.slice a5 xs.length c5) (.slice a6 ys.length c6) (.slice a7 is.length c7) v' xs ys is (bs.take j ++ [(y, z, s)])) := fun v' w' h1 h2 h3 => HX.out.2.1 W w' v' _ (y, z, s) hbel ⟨rfl, O9.base_le (Nat.zero_le _), rfl⟩ (fun k hk => (O9.lt k hk).1) h1 h2 h3
              have HTL : Hid (ti.length ≤ 1000000000000) := by have := HX.out.2.2; show ti.length ≤ _; omega
              have HA8 := hide A8
              have HT := hide hT
              generalize (iw 4).1 = g8 at *
              clear hT O9 O7 hp l7 hbel A8 HX HDS
              simp only [e1, e7, e8]
              refine wpList_step fun K' hK' => ?_
              refine step_append_three _ rfl (.tmp 44) (.tmp 47) 39 rfl 109 Tryz.u39 _ 48 Tryz.i109 rfl (by decide) (.slice gi ti.length ci) ti rfl HT.out g8 (.bool y, .slice pb z.length pd, .string s) rfl ⟨HA8.out.cell 0, HA8.out.cell 1, HA8.out.cell 2⟩ ⟨rfl, rfl, rfl⟩ HTL.out ?_
              intro v9 w9 T9 G9 V9
              refine hK' _ _ ?_
              obtain ⟨e9, D9⟩ := HN.out v9 w9 T9 G9 V9
              obtain ⟨g9, c9, rfl, -⟩ := T9.form
              have e10 : (ti ++ [((.bool y, .slice pb z.length pd, .string s) : V3)]).length = ti.length + 1 := by simp
              rw [e10] at D9 ⊢
              clear e10
              have z2 := e9.frozen 3
              have z3 : w9.cell? ⟨b, 3, none⟩ = some (.slice gi ti.length ci) := e9.cell 3
              have H9 := hide D9
              clear e9 D9 T9 G9 V9 HN HA8 HT HTL hK' K' e1 e7 e8
              go_wp2_with fail
              rw [List.filterMap_nil]
              go_wp2
              go_roundw
              case rel => exact ⟨j + 1, by omega, by go_num, _, by rw [← HTK.out]; exact H9.out⟩
              case measure => simp [intOf]; omega
          · have hj3 : j = bs.length := by omega
            subst hj3
            rw [List.take_length] at hds
            obtain ⟨-, -, -, -, -, -, p8, q8, -, -, -, rfl⟩ := hds.dsk.dr.form
            have H7 := hide hds
            have b0 : wr.cell? ⟨w.heap.size, 3, none⟩ = some (.slice a4 bs.length c4) := hds.arg.cell 3
            have y0 : wr.cell? ⟨b, 0, none⟩ = some (.slice a5 xs.length c5) := hds.box.cell 0
            have y1 : wr.cell? ⟨b, 1, none⟩ = some (.slice a6 ys.length c6) := hds.box.cell 1
            have y2 : wr.cell? ⟨b, 2, none⟩ = some (.slice a7 is.length c7) := hds.box.cell 2
            have y3 : wr.cell? ⟨b, 3, none⟩ = some (.slice p8 bs.length q8) := hds.box.cell 3
            have r0 : wr.cell? ⟨w.heap.size + 1, 0, none⟩ = some (.slice none 0 0) := hds.res.cell 0
            have r1 : wr.cell? ⟨w.heap.size + 1, 1, none⟩ = some (.slice none 0 0) := hds.res.cell 1
            have r2 : wr.cell? ⟨w.heap.size + 1, 2, none⟩ = some (.slice none 0 0) := hds.res.cell 2
            have r3 : wr.cell? ⟨w.heap.size + 1, 3, none⟩ = some (.slice none 0 0) := hds.res.cell 3
            have v0 := hds.res.frozen 0
            have v1 := hds.res.frozen 1
            have v2 := hds.res.frozen 2
            have v3 := hds.res.frozen 3
            clear hds HR
            go_wp2
            refine bodyPost_ret (v := .agg #[.slice a5 xs.length c5, .slice a6 ys.length c6, .slice a7 is.length c7, .slice p8 bs.length q8]) (by simp [results, go_sem, r0, r1, r2, r3]) rfl ⟨_, _, _, _, rfl, ?_, ?_⟩
            · exact (H7.out.dsk.of_heap fun k hk _ => ((((heap_setCell_other _ ⟨w.heap.size + 1, 3, none⟩ k _ (by show k ≠ w.heap.size + 1; omega)).trans (heap_setCell_other _ ⟨w.heap.size + 1, 2, none⟩ k _ (by show k ≠ w.heap.size + 1; omega))).trans (heap_setCell_other _ ⟨w.heap.size + 1, 1, none⟩ k _ (by show k ≠ w.heap.size + 1; omega))).trans (heap_setCell_other _ ⟨w.heap.size + 1, 0, none⟩ k _ (by show k ≠ w.heap.size + 1; omega)))).mono fun k hk => by omega
            · exact (((H7.out.bel.setCell (by simp) _).setCell (by simp) _).setCell (by simp) _).setCell (by simp) _
end Go.Proofs.YtaoachljojbnjaaGreat
/- A memory with these that lean: impl.memWith by its contract. -/
namespace Go.Proofs.YtaoachljojbnjaaGreat.Kit
open Go.RowKit Go.Maps
/-- Flags copied. -/
def MkWg (k : Nat) (xs : List Bool) : Mk := .val [k] (fun lo hi w v => ∃ a c, v = .slice a xs.length c ∧ ROwns w lo 4 v (fc xs) ∧ ∀ i, v.ownBlock = some i → i < hi)
  (fun _ _ _ _ _ h hb => by obtain ⟨a, c, h1, h2, h3⟩ := h; exact ⟨a, c, h1, h2.below hb (Nat.le_refl _), h3⟩)
/-- The list of those that lean. -/
def MkWo (k n : Nat) (ps : List Value) (ds : List Dp) : Mk := .val [k] (fun lo hi w v => ∃ a c ts, v = .slice a n c ∧ GN KDep w (fun k => (∃ (i : Nat) (hi : i < ps.length), ps[i].ownBlock = some k) ∨ (lo ≤ k ∧ k < hi)) v ts ds)
  (fun _ _ _ _ _ h hb => by obtain ⟨a, c, ts, h1, h2⟩ := h; exact ⟨a, c, ts, h1, h2.below hb (Nat.le_refl _)⟩)
/-- A memory built. -/
def MkM7 (k l o q n1 n2 n3 n4 n5 n6 : Nat) (nx : Int) : Mk := ⟨[k, l, o, q], fun _ _ _ v x => ∃ a1 c1 a2 c2 a3 c3 a4 c4 a5 c5 a6 c6, x k = .agg #[.slice a1 n1 c1, .slice a2 n2 c2, .slice a3 n3 c3, .slice a4 n4 c4] ∧ x l = .slice a5 n5 c5 ∧ x o = .slice a6 n6 c6 ∧ v = .agg #[.slice a1 n1 c1, .slice a2 n2 c2, .slice a3 n3 c3, .slice a4 n4 c4, .slice a5 n5 c5, .slice a6 n6 c6, .int .i64 nx], fun _ _ _ _ _ _ h _ => h, fun _ _ _ _ x x' e h => by
  obtain ⟨a1, c1, a2, c2, a3, c3, a4, c4, a5, c5, a6, c6, h1, h2, h3, h4⟩ := h
  exact ⟨a1, c1, a2, c2, a3, c3, a4, c4, a5, c5, a6, c6, by rw [← e k (by simp), h1], by rw [← e l (by simp), h2], by rw [← e o (by simp), h3], h4⟩⟩
end Go.Proofs.YtaoachljojbnjaaGreat.Kit
namespace Go.Proofs.YtaoachljojbnjaaGreat
open Go.RowKit Kit Go.Maps
set_option maxRecDepth 100000 in
set_option maxHeartbeats 3200000 in
theorem memWith_any {N : Nat} (L B : Nat) (E : List Ln) (ps : List Value) (u v iv bv dv pv : Value) (m : MD) (w : World) (h : MR w u v iv bv dv pv m) (hB : BigM 1048576 m) (hE : LEN Tryz.prog w L B E ps N) (hpl : ∀ i j : Fin E.length, i < j → E[i].pl < E[j].pl) (hEl : E.length ≤ 1048576) (hL : L ≤ w.heap.size) :
    Calls Tryz.prog 29 #[.agg #[u, v, iv, bv, dv, pv, .int .i64 m.nx], .map (some B)] w fun e w' => ∃ u' v' i' b' d' p', e = .returned (.agg #[u', v', i', b', d', p', .int .i64 m.nx]) ∧ MO w' (fun k => L ≤ k) u' v' i' b' d' p' { m with ds := E.map (·.d) } ∧ Below w.heap.size w w' := by
  have H := hide h
  have HG := hide hB
  have HE := hide hE
  have HPL := hide hpl
  have HEL := hide hEl
  have HL := hide hL
  obtain ⟨a1, c1, a2, c2, a3, c3, a4, c4, a5, c5, a6, c6, rfl, rfl, rfl, rfl, rfl, rfl⟩ := h.form
  clear h hB hE hpl hEl hL
  go_enter Tryz.func29, Tryz.ntmps29
  go_wp2_with fail
  have HC : Hid (∀ W, Below ((w.alloc (.cells #[.slice a1 m.xs.length c1, .slice a2 m.ys.length c2, .slice a3 m.is.length c3, .slice a4 m.bs.length c4, .slice a5 m.fs.length c5, .slice a6 m.ds.length c6, .int .i64 m.nx] 44)).alloc (.cells noM 44)).drew.heap.size ((w.alloc (.cells #[.slice a1 m.xs.length c1, .slice a2 m.ys.length c2, .slice a3 m.is.length c3, .slice a4 m.bs.length c4, .slice a5 m.fs.length c5, .slice a6 m.ds.length c6, .int .i64 m.nx] 44)).alloc (.cells noM 44)).drew W → AtC W w.heap.size 44 #[.slice a1 m.xs.length c1, .slice a2 m.ys.length c2, .slice a3 m.is.length c3, .slice a4 m.bs.length c4, .slice a5 m.fs.length c5, .slice a6 m.ds.length c6, .int .i64 m.nx] ∧ AtC W (w.heap.size + 1) 44 noM ∧ Below w.heap.size w W ∧ w.heap.size + 1 + 1 ≤ W.heap.size) := fun W b => by
    have b2 := of_drew b
    have k1 := (AtC.new (w.alloc (.cells #[.slice a1 m.xs.length c1, .slice a2 m.ys.length c2, .slice a3 m.is.length c3, .slice a4 m.bs.length c4, .slice a5 m.fs.length c5, .slice a6 m.ds.length c6, .int .i64 m.nx] 44)) 44 noM).over b2
    have sz := b2.size
    simp at k1 sz
    exact ⟨((AtC.new w 44 _).alloc _).over b2, k1, (((Below.refl _ w).alloc (Nat.le_refl _) _).alloc (by simp) _).trans (b2.mono (by simp; omega)), sz⟩
  refine wp_region_frm (by kernel_rfl) [0, 1, 2, 3, 4, 5, 6, 7, 8, 9, 10] [11] (fun i => match i with | 0 => .const [] (.pointer (some ⟨w.heap.size, 0, none⟩)) | 1 => .const [0] (.agg #[.slice a1 m.xs.length c1, .slice a2 m.ys.length c2, .slice a3 m.is.length c3, .slice a4 m.bs.length c4]) | 2 => MkD 1 m.xs m.ys m.is m.bs | 3 => .const [] (.pointer (some ⟨w.heap.size, 4, none⟩)) | 4 => .const [3] (.slice a5 m.fs.length c5) | 5 => MkWg 4 m.fs | 6 => .const [] (.map (some B)) | 7 => MkWo 6 E.length ps (E.map (·.d)) | 8 => .const [] (.pointer (some ⟨w.heap.size, 6, none⟩)) | 9 => .const [8] (.int .i64 m.nx) | 10 => MkM7 2 5 7 9 m.xs.length m.ys.length m.is.length m.bs.length m.fs.length E.length m.nx | _ => .triv) (fun x => ⟨#[Value.agg #[Value.slice a1 m.xs.length c1, Value.slice a2 m.ys.length c2, Value.slice a3 m.is.length c3, Value.slice a4 m.bs.length c4, Value.slice a5 m.fs.length c5, Value.slice a6 m.ds.length c6, Value.int IntKind.i64 m.nx], Value.map (some B), Value.pointer (some { block := w.heap.size, off := 0 }), undef, Value.pointer (some { block := w.heap.size + 1, off := 0 }), x 0, x 1, x 2, x 3, x 4, x 5, x 6, x 7, x 8, x 9, x 10], []⟩) (fun i => match i with | 0 => undef | 1 => undef | 2 => undef | 3 => undef | 4 => undef | 5 => undef | 6 => undef | 7 => undef | 8 => undef | 9 => undef | 10 => undef | _ => undef) rfl (by kernel_rfl) (by kernel_rfl) (by kernel_rfl) rfl ?_ ?_
  · intro jo hj so x iw W hd hp K hK
    simp only [List.mem_cons, List.not_mem_nil, or_false] at hj
    rcases hj with rfl | rfl | rfl | rfl | rfl | rfl | rfl | rfl | rfl | rfl | rfl
    · refine wpOp_step (o := _) rfl fun K' hK' => ?_
      have HK : Hid (∀ v W', Below W.heap.size W W' → ((Mk.const [] (.pointer (some ⟨w.heap.size, 0, none⟩)) : Mk)).P W.heap.size W'.heap.size W' v (upd x 0 v) → K' ⟨#[Value.agg #[Value.slice a1 m.xs.length c1, Value.slice a2 m.ys.length c2, Value.slice a3 m.is.length c3, Value.slice a4 m.bs.length c4, Value.slice a5 m.fs.length c5, Value.slice a6 m.ds.length c6, Value.int IntKind.i64 m.nx], Value.map (some B), Value.pointer (some { block := w.heap.size, off := 0 }), undef, Value.pointer (some { block := w.heap.size + 1, off := 0 }), v, x 1, x 2, x 3, x 4, x 5, x 6, x 7, x 8, x 9, x 10], []⟩ W') := fun v W' h1 h2 => hK' _ _ (hK v W' h1 h2)
      clear hK hK' hp hd
      go_simp
      exact HK.out _ _ (Below.refl _ _) rfl
    · refine wpOp_step (o := _) rfl fun K' hK' => ?_
      have HK : Hid (∀ v W', Below W.heap.size W W' → ((Mk.const [0] (.agg #[.slice a1 m.xs.length c1, .slice a2 m.ys.length c2, .slice a3 m.is.length c3, .slice a4 m.bs.length c4]) : Mk)).P W.heap.size W'.heap.size W' v (upd x 1 v) → K' ⟨#[Value.agg #[Value.slice a1 m.xs.length c1, Value.slice a2 m.ys.length c2, Value.slice a3 m.is.length c3, Value.slice a4 m.bs.length c4, Value.slice a5 m.fs.length c5, Value.slice a6 m.ds.length c6, Value.int IntKind.i64 m.nx], Value.map (some B), Value.pointer (some { block := w.heap.size, off := 0 }), undef, Value.pointer (some { block := w.heap.size + 1, off := 0 }), x 0, v, x 2, x 3, x 4, x 5, x 6, x 7, x 8, x 9, x 10], []⟩ W') := fun v W' h1 h2 => hK' _ _ (hK v W' h1 h2)
      have e0 : x 0 = .pointer (some ⟨w.heap.size, 0, none⟩) := hp.post 0 (hd 0 (show 0 ∈ [0] from by decide))
      have k0 := (HC.out W hp.bel).1
      have q0 : W.cell? ⟨w.heap.size, 0, none⟩ = some (.slice a1 m.xs.length c1) := k0.cell 0
      have q1 : W.cell? ⟨w.heap.size, 1, none⟩ = some (.slice a2 m.ys.length c2) := k0.cell 1
      have q2 : W.cell? ⟨w.heap.size, 2, none⟩ = some (.slice a3 m.is.length c3) := k0.cell 2
      have q3 : W.cell? ⟨w.heap.size, 3, none⟩ = some (.slice a4 m.bs.length c4) := k0.cell 3
      clear k0
      clear hK hK' hp hd
      simp only [e0] at HK ⊢
      go_simp
      exact HK.out _ _ (Below.refl _ _) rfl
    · refine wpOp_step (o := _) rfl fun K' hK' => ?_
      have HK : Hid (∀ v W', Below W.heap.size W W' → (MkD 1 m.xs m.ys m.is m.bs).P W.heap.size W'.heap.size W' v (upd x 2 v) → K' ⟨#[Value.agg #[Value.slice a1 m.xs.length c1, Value.slice a2 m.ys.length c2, Value.slice a3 m.is.length c3, Value.slice a4 m.bs.length c4, Value.slice a5 m.fs.length c5, Value.slice a6 m.ds.length c6, Value.int IntKind.i64 m.nx], Value.map (some B), Value.pointer (some { block := w.heap.size, off := 0 }), undef, Value.pointer (some { block := w.heap.size + 1, off := 0 }), x 0, x 1, v, x 3, x 4, x 5, x 6, x 7, x 8, x 9, x 10], []⟩ W') := fun v W' h1 h2 => hK' _ _ (hK v W' h1 h2)
      have e1 : x 1 = .agg #[.slice a1 m.xs.length c1, .slice a2 m.ys.length c2, .slice a3 m.is.length c3, .slice a4 m.bs.length c4] := hp.post 1 (hd 1 (show 1 ∈ [1] from by decide))
      have bl := (HC.out W hp.bel).2.2.1
      clear hK hK' hp hd
      simp only [e1] at HK ⊢
      go_simp
      refine (newDisk_any _ _ _ _ m.xs m.ys m.is m.bs W (H.out.d.below bl (Nat.le_refl _)) HG.out.d).mono ?_
      rintro e w6 ⟨p1, p2, p3, p4, rfl, O6, B6⟩
      obtain ⟨b1, d1, b2, d2, b3, d3, b4, d4, rfl, rfl, rfl, rfl⟩ := O6.dr.form
      go_simp
      exact HK.out _ _ B6 ⟨b1, d1, b2, d2, b3, d3, b4, d4, rfl, O6.bound⟩
    · refine wpOp_step (o := _) rfl fun K' hK' => ?_
      have HK : Hid (∀ v W', Below W.heap.size W W' → ((Mk.const [] (.pointer (some ⟨w.heap.size, 4, none⟩)) : Mk)).P W.heap.size W'.heap.size W' v (upd x 3 v) → K' ⟨#[Value.agg #[Value.slice a1 m.xs.length c1, Value.slice a2 m.ys.length c2, Value.slice a3 m.is.length c3, Value.slice a4 m.bs.length c4, Value.slice a5 m.fs.length c5, Value.slice a6 m.ds.length c6, Value.int IntKind.i64 m.nx], Value.map (some B), Value.pointer (some { block := w.heap.size, off := 0 }), undef, Value.pointer (some { block := w.heap.size + 1, off := 0 }), x 0, x 1, x 2, v, x 4, x 5, x 6, x 7, x 8, x 9, x 10], []⟩ W') := fun v W' h1 h2 => hK' _ _ (hK v W' h1 h2)
      clear hK hK' hp hd
      go_simp
      exact HK.out _ _ (Below.refl _ _) rfl
    · refine wpOp_step (o := _) rfl fun K' hK' => ?_
      have HK : Hid (∀ v W', Below W.heap.size W W' → ((Mk.const [3] (.slice a5 m.fs.length c5) : Mk)).P W.heap.size W'.heap.size W' v (upd x 4 v) → K' ⟨#[Value.agg #[Value.slice a1 m.xs.length c1, Value.slice a2 m.ys.length c2, Value.slice a3 m.is.length c3, Value.slice a4 m.bs.length c4, Value.slice a5 m.fs.length c5, Value.slice a6 m.ds.length c6, Value.int IntKind.i64 m.nx], Value.map (some B), Value.pointer (some { block := w.heap.size, off := 0 }), undef, Value.pointer (some { block := w.heap.size + 1, off := 0 }), x 0, x 1, x 2, x 3, v, x 5, x 6, x 7, x 8, x 9, x 10], []⟩ W') := fun v W' h1 h2 => hK' _ _ (hK v W' h1 h2)
      have e3 : x 3 = .pointer (some ⟨w.heap.size, 4, none⟩) := hp.post 3 (hd 3 (show 3 ∈ [3] from by decide))
      have q0 : W.cell? ⟨w.heap.size, 4, none⟩ = some (.slice a5 m.fs.length c5) := (HC.out W hp.bel).1.cell 4
      clear hK hK' hp hd
      simp only [e3] at HK ⊢
      go_simp
      exact HK.out _ _ (Below.refl _ _) rfl
    · refine wpOp_step (o := _) rfl fun K' hK' => ?_
      have HK : Hid (∀ v W', Below W.heap.size W W' → (MkWg 4 m.fs).P W.heap.size W'.heap.size W' v (upd x 5 v) → K' ⟨#[Value.agg #[Value.slice a1 m.xs.length c1, Value.slice a2 m.ys.length c2, Value.slice a3 m.is.length c3, Value.slice a4 m.bs.length c4, Value.slice a5 m.fs.length c5, Value.slice a6 m.ds.length c6, Value.int IntKind.i64 m.nx], Value.map (some B), Value.pointer (some { block := w.heap.size, off := 0 }), undef, Value.pointer (some { block := w.heap.size + 1, off := 0 }), x 0, x 1, x 2, x 3, x 4, v, x 6, x 7, x 8, x 9, x 10], []⟩ W') := fun v W' h1 h2 => hK' _ _ (hK v W' h1 h2)
      have e4 : x 4 = .slice a5 m.fs.length c5 := hp.post 4 (hd 4 (show 4 ∈ [4] from by decide))
      have bl := (HC.out W hp.bel).2.2.1
      clear hK hK' hp hd
      simp only [e4] at HK ⊢
      go_simp
      refine (newB_any _ m.fs W (H.out.f.below bl (Nat.le_refl _)) HG.out.f).mono ?_
      rintro e w6 ⟨u, rfl, O6, B6⟩
      obtain ⟨b1, d1, rfl⟩ := O6.rfl.form
      go_simp
      exact HK.out _ _ B6 ⟨b1, d1, rfl, O6, fun i hi => (O6.lt i hi).2⟩
    · refine wpOp_step (o := _) rfl fun K' hK' => ?_
      have HK : Hid (∀ v W', Below W.heap.size W W' → ((Mk.const [] (.map (some B)) : Mk)).P W.heap.size W'.heap.size W' v (upd x 6 v) → K' ⟨#[Value.agg #[Value.slice a1 m.xs.length c1, Value.slice a2 m.ys.length c2, Value.slice a3 m.is.length c3, Value.slice a4 m.bs.length c4, Value.slice a5 m.fs.length c5, Value.slice a6 m.ds.length c6, Value.int IntKind.i64 m.nx], Value.map (some B), Value.pointer (some { block := w.heap.size, off := 0 }), undef, Value.pointer (some { block := w.heap.size + 1, off := 0 }), x 0, x 1, x 2, x 3, x 4, x 5, v, x 7, x 8, x 9, x 10], []⟩ W') := fun v W' h1 h2 => hK' _ _ (hK v W' h1 h2)
      clear hK hK' hp hd
      go_simp
      exact HK.out _ _ (Below.refl _ _) rfl
    · refine wpOp_step (o := _) rfl fun K' hK' => ?_
      have HK : Hid (∀ v W', Below W.heap.size W W' → (MkWo 6 E.length ps (E.map (·.d))).P W.heap.size W'.heap.size W' v (upd x 7 v) → K' ⟨#[Value.agg #[Value.slice a1 m.xs.length c1, Value.slice a2 m.ys.length c2, Value.slice a3 m.is.length c3, Value.slice a4 m.bs.length c4, Value.slice a5 m.fs.length c5, Value.slice a6 m.ds.length c6, Value.int IntKind.i64 m.nx], Value.map (some B), Value.pointer (some { block := w.heap.size, off := 0 }), undef, Value.pointer (some { block := w.heap.size + 1, off := 0 }), x 0, x 1, x 2, x 3, x 4, x 5, x 6, v, x 8, x 9, x 10], []⟩ W') := fun v W' h1 h2 => hK' _ _ (hK v W' h1 h2)
      have e6 : x 6 = .map (some B) := hp.post 6 (hd 6 (show 6 ∈ [6] from by decide))
      have bl := (HC.out W hp.bel).2.2.1
      clear hK hK' hp hd
      simp only [e6] at HK ⊢
      go_simp
      refine (inOrder_any L B E ps W (HE.out.below bl) HPL.out HEL.out).mono ?_
      rintro e w6 ⟨lv, ts, rfl, O6, B6⟩
      obtain ⟨b1, d1, ef⟩ := O6.form
      rw [List.length_map] at ef
      subst ef
      have O7 : GN KDep w6 (fun k => (∃ (i : Nat) (hi : i < ps.length), ps[i].ownBlock = some k) ∨ (W.heap.size ≤ k ∧ k < w6.heap.size)) (.slice b1 E.length d1) ts (E.map (·.d)) := O6.bound.mono fun k hk => hk.1.elim (fun e => Or.inl e) fun e => Or.inr ⟨e, hk.2⟩
      go_simp
      exact HK.out _ _ B6 ⟨b1, d1, ts, rfl, O7⟩
    · refine wpOp_step (o := _) rfl fun K' hK' => ?_
      have HK : Hid (∀ v W', Below W.heap.size W W' → ((Mk.const [] (.pointer (some ⟨w.heap.size, 6, none⟩)) : Mk)).P W.heap.size W'.heap.size W' v (upd x 8 v) → K' ⟨#[Value.agg #[Value.slice a1 m.xs.length c1, Value.slice a2 m.ys.length c2, Value.slice a3 m.is.length c3, Value.slice a4 m.bs.length c4, Value.slice a5 m.fs.length c5, Value.slice a6 m.ds.length c6, Value.int IntKind.i64 m.nx], Value.map (some B), Value.pointer (some { block := w.heap.size, off := 0 }), undef, Value.pointer (some { block := w.heap.size + 1, off := 0 }), x 0, x 1, x 2, x 3, x 4, x 5, x 6, x 7, v, x 9, x 10], []⟩ W') := fun v W' h1 h2 => hK' _ _ (hK v W' h1 h2)
      clear hK hK' hp hd
      go_simp
      exact HK.out _ _ (Below.refl _ _) rfl
    · refine wpOp_step (o := _) rfl fun K' hK' => ?_
      have HK : Hid (∀ v W', Below W.heap.size W W' → ((Mk.const [8] (.int .i64 m.nx) : Mk)).P W.heap.size W'.heap.size W' v (upd x 9 v) → K' ⟨#[Value.agg #[Value.slice a1 m.xs.length c1, Value.slice a2 m.ys.length c2, Value.slice a3 m.is.length c3, Value.slice a4 m.bs.length c4, Value.slice a5 m.fs.length c5, Value.slice a6 m.ds.length c6, Value.int IntKind.i64 m.nx], Value.map (some B), Value.pointer (some { block := w.heap.size, off := 0 }), undef, Value.pointer (some { block := w.heap.size + 1, off := 0 }), x 0, x 1, x 2, x 3, x 4, x 5, x 6, x 7, x 8, v, x 10], []⟩ W') := fun v W' h1 h2 => hK' _ _ (hK v W' h1 h2)
      have e8 : x 8 = .pointer (some ⟨w.heap.size, 6, none⟩) := hp.post 8 (hd 8 (show 8 ∈ [8] from by decide))
      have q0 : W.cell? ⟨w.heap.size, 6, none⟩ = some (.int .i64 m.nx) := (HC.out W hp.bel).1.cell 6
      clear hK hK' hp hd
      simp only [e8] at HK ⊢
      go_simp
      exact HK.out _ _ (Below.refl _ _) rfl
    · refine wpOp_step (o := _) rfl fun K' hK' => ?_
      have HK : Hid (∀ v W', Below W.heap.size W W' → (MkM7 2 5 7 9 m.xs.length m.ys.length m.is.length m.bs.length m.fs.length E.length m.nx).P W.heap.size W'.heap.size W' v (upd x 10 v) → K' ⟨#[Value.agg #[Value.slice a1 m.xs.length c1, Value.slice a2 m.ys.length c2, Value.slice a3 m.is.length c3, Value.slice a4 m.bs.length c4, Value.slice a5 m.fs.length c5, Value.slice a6 m.ds.length c6, Value.int IntKind.i64 m.nx], Value.map (some B), Value.pointer (some { block := w.heap.size, off := 0 }), undef, Value.pointer (some { block := w.heap.size + 1, off := 0 }), x 0, x 1, x 2, x 3, x 4, x 5, x 6, x 7, x 8, x 9, v], []⟩ W') := fun v W' h1 h2 => hK' _ _ (hK v W' h1 h2)
      have e2 : ∃ a1 c1 a2 c2 a3 c3 a4 c4, x 2 = .agg #[.slice a1 m.xs.length c1, .slice a2 m.ys.length c2, .slice a3 m.is.length c3, .slice a4 m.bs.length c4] ∧ DO W (fun q => (iw 2).1 ≤ q ∧ q < (iw 2).2) (.slice a1 m.xs.length c1) (.slice a2 m.ys.length c2) (.slice a3 m.is.length c3) (.slice a4 m.bs.length c4) m.xs m.ys m.is m.bs := hp.post 2 (hd 2 (show 2 ∈ [2, 5, 7, 9] from by decide))
      have e5 : ∃ a c, x 5 = .slice a m.fs.length c ∧ ROwns W (iw 5).1 4 (x 5) (fc m.fs) ∧ ∀ i, (x 5).ownBlock = some i → i < (iw 5).2 := hp.post 5 (hd 5 (show 5 ∈ [2, 5, 7, 9] from by decide))
      have e7 : ∃ a c ts, x 7 = .slice a E.length c ∧ GN KDep W (fun k => (∃ (i : Nat) (hi : i < ps.length), ps[i].ownBlock = some k) ∨ ((iw 7).1 ≤ k ∧ k < (iw 7).2)) (x 7) ts (E.map (·.d)) := hp.post 7 (hd 7 (show 7 ∈ [2, 5, 7, 9] from by decide))
      have e9 : x 9 = .int .i64 m.nx := hp.post 9 (hd 9 (show 9 ∈ [2, 5, 7, 9] from by decide))
      clear hK hK' hp hd
      obtain ⟨b1, d1, b2, d2, b3, d3, b4, d4, e2, -⟩ := e2
      obtain ⟨b5, d5, e5, -⟩ := e5
      obtain ⟨b6, d6, ts, e7, -⟩ := e7
      have HE3 := hide (And.intro e2 (And.intro e5 e7))
      simp only [e2, e5, e7, e9] at HK ⊢
      clear e2 e5 e7 e9
      go_simp
      exact HK.out _ _ (Below.refl _ _) ⟨b1, d1, b2, d2, b3, d3, b4, d4, b5, d5, b6, d6, by rw [upd_ne _ _ _ _ (by decide)]; exact HE3.out.1, by rw [upd_ne _ _ _ _ (by decide)]; exact HE3.out.2.1, by rw [upd_ne _ _ _ _ (by decide)]; exact HE3.out.2.2, rfl⟩
  · intro x iw W hp
    obtain ⟨b1, d1, b2, d2, b3, d3, b4, d4, e2, O2⟩ := hp.post 2 (by decide)
    obtain ⟨b5, d5, e5, O5, lt5⟩ := hp.post 5 (by decide)
    obtain ⟨b6, d6, ts, e7, O7⟩ := hp.post 7 (by decide)
    obtain ⟨g1, h1, g2, h2, g3, h3, g4, h4, g5, h5, g6, h6, k2, k5, k7, e10⟩ := hp.post 10 (by decide)
    rw [e2] at k2
    rw [e5] at k5 O5 lt5
    rw [e7] at k7 O7
    simp only [Value.agg.injEq, Array.mk.injEq, List.cons.injEq, Value.slice.injEq, true_and, and_true] at k2 k5 k7
    obtain ⟨⟨rfl, rfl⟩, ⟨rfl, rfl⟩, ⟨rfl, rfl⟩, rfl, rfl⟩ := k2
    obtain ⟨rfl, rfl⟩ := k5
    obtain ⟨rfl, rfl⟩ := k7
    have p25 := hp.apart 2 (by decide) 5 (by decide) (by decide)
    have p27 := hp.apart 2 (by decide) 7 (by decide) (by decide)
    have p57 := hp.apart 5 (by decide) 7 (by decide) (by decide)
    have l2 := hp.lo 2 (by decide)
    have l5 := hp.lo 5 (by decide)
    have l7 := hp.lo 7 (by decide)
    simp [World.drew] at l2 l5 l7
    obtain ⟨kA, kR, bel, -⟩ := HC.out W hp.bel
    have hps : ∀ (i : Nat) (hi : i < ps.length) (k : Nat), ps[i].ownBlock = some k → L ≤ k ∧ k < w.heap.size := fun i hi k hk => ⟨HE.out.lop i hi k hk, ((HE.out.own i (by have := HE.out.len; omega) hi).lt k hk).2⟩
    have hL := HL.out
    have HM : Hid (MO ((((((((W.setCell ⟨w.heap.size + 1, 0, none⟩ (.slice b1 m.xs.length d1)).setCell ⟨w.heap.size + 1, 1, none⟩ (.slice b2 m.ys.length d2)).setCell ⟨w.heap.size + 1, 2, none⟩ (.slice b3 m.is.length d3)).setCell ⟨w.heap.size + 1, 3, none⟩ (.slice b4 m.bs.length d4)).setCell ⟨w.heap.size + 1, 4, none⟩ (.slice b5 m.fs.length d5)).setCell ⟨w.heap.size + 1, 5, none⟩ (.slice b6 E.length d6)).setCell ⟨w.heap.size + 1, 6, none⟩ (.int .i64 m.nx))) (fun k => L ≤ k) (.slice b1 m.xs.length d1) (.slice b2 m.ys.length d2) (.slice b3 m.is.length d3) (.slice b4 m.bs.length d4) (.slice b5 m.fs.length d5) (.slice b6 E.length d6) { m with ds := E.map (·.d) } ∧ Below w.heap.size w ((((((((W.setCell ⟨w.heap.size + 1, 0, none⟩ (.slice b1 m.xs.length d1)).setCell ⟨w.heap.size + 1, 1, none⟩ (.slice b2 m.ys.length d2)).setCell ⟨w.heap.size + 1, 2, none⟩ (.slice b3 m.is.length d3)).setCell ⟨w.heap.size + 1, 3, none⟩ (.slice b4 m.bs.length d4)).setCell ⟨w.heap.size + 1, 4, none⟩ (.slice b5 m.fs.length d5)).setCell ⟨w.heap.size + 1, 5, none⟩ (.slice b6 E.length d6)).setCell ⟨w.heap.size + 1, 6, none⟩ (.int .i64 m.nx)))) := by
      have hoth : ∀ k, k ≠ w.heap.size + 1 → ((((((((W.setCell ⟨w.heap.size + 1, 0, none⟩ (.slice b1 m.xs.length d1)).setCell ⟨w.heap.size + 1, 1, none⟩ (.slice b2 m.ys.length d2)).setCell ⟨w.heap.size + 1, 2, none⟩ (.slice b3 m.is.length d3)).setCell ⟨w.heap.size + 1, 3, none⟩ (.slice b4 m.bs.length d4)).setCell ⟨w.heap.size + 1, 4, none⟩ (.slice b5 m.fs.length d5)).setCell ⟨w.heap.size + 1, 5, none⟩ (.slice b6 E.length d6)).setCell ⟨w.heap.size + 1, 6, none⟩ (.int .i64 m.nx))).heap[k]? = W.heap[k]? := fun k hk => ((((((heap_setCell_other _ ⟨w.heap.size + 1, 6, none⟩ k _ (by show k ≠ w.heap.size + 1; exact hk)).trans (heap_setCell_other _ ⟨w.heap.size + 1, 5, none⟩ k _ (by show k ≠ w.heap.size + 1; exact hk))).trans (heap_setCell_other _ ⟨w.heap.size + 1, 4, none⟩ k _ (by show k ≠ w.heap.size + 1; exact hk))).trans (heap_setCell_other _ ⟨w.heap.size + 1, 3, none⟩ k _ (by show k ≠ w.heap.size + 1; exact hk))).trans (heap_setCell_other _ ⟨w.heap.size + 1, 2, none⟩ k _ (by show k ≠ w.heap.size + 1; exact hk))).trans (heap_setCell_other _ ⟨w.heap.size + 1, 1, none⟩ k _ (by show k ≠ w.heap.size + 1; exact hk))).trans (heap_setCell_other _ ⟨w.heap.size + 1, 0, none⟩ k _ (by show k ≠ w.heap.size + 1; exact hk))
      refine ⟨⟨_, fun k => (iw 5).1 ≤ k ∧ k < (iw 5).2, _, ts, O2.of_heap fun k hk _ => hoth k (by omega), (O5.of_heap fun k hk => hoth k (by have := (O5.lt k hk).1; omega)).base_le (Nat.zero_le _), fun k hk => ⟨(O5.lt k hk).1, lt5 k hk⟩, O7.of_heap fun k hk _ => hoth k ?_, fun k hk => ⟨fun e => ?_, fun e => ?_⟩, fun k hk e => ?_, fun k hk => ?_⟩, (((((((bel).setCell (by simp) _).setCell (by simp) _).setCell (by simp) _).setCell (by simp) _).setCell (by simp) _).setCell (by simp) _).setCell (by simp) _⟩
      · rcases hk with ⟨i, hi, hk⟩ | hk
        · have := hps i hi k hk; omega
        · omega
      · omega
      · rcases e with ⟨i, hi, e⟩ | e
        · have := hps i hi k e; omega
        · omega
      · rcases e with ⟨i, hi, e⟩ | e
        · have := hps i hi k e; omega
        · omega
      · rcases hk with hk | hk | ⟨i, hi, hk⟩ | hk
        · show L ≤ k; omega
        · show L ≤ k; omega
        · exact (hps i hi k hk).1
        · show L ≤ k; omega
    have r0 : W.cell? ⟨w.heap.size + 1, 0, none⟩ = some (.slice none 0 0) := kR.cell 0
    have v0 := kR.frozen 0
    have r1 : W.cell? ⟨w.heap.size + 1, 1, none⟩ = some (.slice none 0 0) := kR.cell 1
    have v1 := kR.frozen 1
    have r2 : W.cell? ⟨w.heap.size + 1, 2, none⟩ = some (.slice none 0 0) := kR.cell 2
    have v2 := kR.frozen 2
    have r3 : W.cell? ⟨w.heap.size + 1, 3, none⟩ = some (.slice none 0 0) := kR.cell 3
    have v3 := kR.frozen 3
    have r4 : W.cell? ⟨w.heap.size + 1, 4, none⟩ = some (.slice none 0 0) := kR.cell 4
    have v4 := kR.frozen 4
    have r5 : W.cell? ⟨w.heap.size + 1, 5, none⟩ = some (.slice none 0 0) := kR.cell 5
    have v5 := kR.frozen 5
    have r6 : W.cell? ⟨w.heap.size + 1, 6, none⟩ = some (.int .i64 0) := kR.cell 6
    have v6 := kR.frozen 6
    clear hp O2 O5 O7 lt5 kA kR bel p25 p27 p57 l2 l5 l7 hps HC
    simp only [e2, e5, e7, e10]
    clear e2 e5 e7 e10
    go_wp2
    rw [List.filterMap_nil]
    go_wp2
    refine bodyPost_ret (v := .agg #[.slice b1 m.xs.length d1, .slice b2 m.ys.length d2, .slice b3 m.is.length d3, .slice b4 m.bs.length d4, .slice b5 m.fs.length d5, .slice b6 E.length d6, .int .i64 m.nx]) (by simp [results, go_sem, r0, r1, r2, r3, r4, r5, r6]) rfl ⟨_, _, _, _, _, _, rfl, HM.out.1, HM.out.2⟩
end Go.Proofs.YtaoachljojbnjaaGreat
/- The leaners of a list: impl.leanersOf by its contract. -/
namespace Go.Proofs.YtaoachljojbnjaaGreat
open Go.RowKit Kit Go.Maps
theorem run_makeMap_hint (n : Int) (w : World) : (Instr.makeMap 67 (some (.int .i64 n))).run Tryz.prog w = .ok (.map (some w.heap.size)) (w.alloc (.map #[] 0)) := by
  simp [Instr.makeMap, run_underlying Tryz.u67, asInt, asIntOf, Result.andThen]
set_option maxRecDepth 100000 in
set_option maxHeartbeats 1600000 in
theorem leanersOf_any (pv : Value) (ds : List Dp) (w : World) (h : RN KDep w pv ds) (hl : ds.length ≤ 1048576) (hb : ∀ (j : Nat) (h : j < ds.length), ds[j].bl.length ≤ 1048576) (ht : ∀ (j : Nat) (h : j < ds.length), ds[j].nm.size ≤ 1048576) (hw : ∀ (j : Nat) (h : j < ds.length), (Lit.int .i64 ds[j].id).wf = true) :
    Calls Tryz.prog 27 #[pv] w fun e w' => ∃ B E ps, e = .returned (.map (some B)) ∧ LE Tryz.prog w' w.heap.size B E ps ∧ E.map (·.d) = ds ∧ (∀ (j : Nat) (h : j < E.length), E[j].pl = j) ∧ Below w.heap.size w w' := by
  have H := hide h
  have HB := hide hb
  have HT := hide ht
  have HW := hide hw
  obtain ⟨a6, c6, rfl, -⟩ := h.dep
  clear h hb ht hw
  have hmm := run_makeMap_hint
  go_enter Tryz.func27, Tryz.ntmps27
  go_wp2_with fail
  go_loopw [11] (fun i wr => ∃ j : Nat, j ≤ ds.length ∧ i = .int .i64 j ∧ Hid (∃ E ps, LE Tryz.prog wr w.heap.size w.heap.size E ps ∧ E.map (·.d) = ds.take j ∧ (∀ (k : Nat) (h : k < E.length), E[k].pl = k) ∧ Below w.heap.size w wr)) (fun i _ => ds.length - (intOf i).toNat)
  case atStart => exact ⟨0, Nat.zero_le _, rfl, [], [], LE.nil _ w, by simp, fun k h => by simp at h, (Below.refl _ w).alloc (Nat.le_refl _) _⟩
  case round =>
    obtain ⟨j, hj, rfl, HR⟩ := hrel
    by_cases hlt : j < ds.length
    · obtain ⟨E, ps, hE, hd, hp, bel⟩ := HR.out
      obtain ⟨ai, cai, ei, -, hci⟩ := H.out.dep
      obtain ⟨g, off, p, rfl, hg, mm, hpp⟩ := hci j hlt
      simp only [Value.slice.injEq, true_and] at ei
      obtain ⟨rfl, rfl⟩ := ei
      have hbl := HB.out j hlt
      have hnm := HT.out j hlt
      have hwf := HW.out j hlt
      have htk : ds.take j ++ [ds[j]] = ds.take (j + 1) := List.take_append_getElem hlt
      obtain ⟨X, hX⟩ : ∃ X, ds[j] = X := ⟨_, rfl⟩
      rw [hX] at mm hpp hbl hnm hwf htk
      obtain ⟨id, kd, io, pt, bk, sl, nm, bt, ot, af, bl⟩ := X
      simp only at hpp hbl hnm hwf
      obtain ⟨pa, pc, rfl⟩ := hpp.form
      have hEl : E.length = j := by
        have := congrArg List.length hd
        rw [List.length_map, List.length_take] at this
        omega
      have nn := mm.below bel hg
      simp only [DCells] at nn
      obtain ⟨n0, n1, n2, n3, n4, n5, n6, n7, n8, n9, n10⟩ := nn
      have hbw : Below wr.heap.size wr (wr.alloc (.cells #[.int .i64 id, .int .i64 kd, .int .i64 io, .int .i64 pt, .int .i64 bk, .int .i64 sl, .string nm, .bool bt, .bool ot, .int .i64 af, .slice pa bl.length pc] 48)) := (Below.refl _ wr).alloc (Nat.le_refl _) _
      have hsz := bel.size
      have HCALL : Hid (Calls Tryz.prog 28 #[.map (some w.heap.size), .agg #[.int .i64 id, .int .i64 kd, .int .i64 io, .int .i64 pt, .int .i64 bk, .int .i64 sl, .string nm, .bool bt, .bool ot, .int .i64 af, .slice pa bl.length pc], .int .i64 (j : Int)] (wr.alloc (.cells #[.int .i64 id, .int .i64 kd, .int .i64 io, .int .i64 pt, .int .i64 bk, .int .i64 sl, .string nm, .bool bt, .bool ot, .int .i64 af, .slice pa bl.length pc] 48)) fun e w' => e = .returned (.tuple #[]) ∧ ∃ E ps, LE Tryz.prog w' w.heap.size w.heap.size E ps ∧ E.map (·.d) = ds.take (j + 1) ∧ (∀ (k : Nat) (h : k < E.length), E[k].pl = k) ∧ Below w.heap.size w w') := by
        refine Calls.mono (put_any w.heap.size w.heap.size E ps j id kd io pt bk sl nm bt ot af bl (.slice pa bl.length pc) _ (hE.below hbw) ((hpp.below bel (Nat.le_refl _)).below hbw (Nat.le_refl _)) hbl hnm hwf (by omega) (Nat.le_trans hsz hbw.size)) ?_
        rintro e w' ⟨rfl, g', u, L', G'⟩
        refine ⟨rfl, _, _, L', ?_, fun k hk => ?_, ?_⟩
        · rw [List.map_append, hd]; exact htk
        · by_cases e : k < E.length
          · rw [List.getElem_append_left e]; exact hp k e
          · have e2 : k = E.length := by simp at hk; omega
            subst e2
            rw [List.getElem_append_right (Nat.le_refl _)]
            simp [hEl]
        · exact (bel.trans (hbw.mono hsz)).grown G' (Nat.le_trans hsz hbw.size) (fun k hk => by cases hk; exact Nat.le_refl _)
      have j0 : (0 : Int) ≤ (j : Int) := by omega
      have j1 : (j : Int) < (ds.length : Int) := by omega
      clear HR hE hd hp bel hci hX mm hpp hbl hnm hwf htk hbw hg hEl
      go_wp2_with (go_at_call 28; refine HCALL.out.mono ?_; rintro e w9 ⟨rfl, E9, ps9, L9⟩; have H9 := hide L9; clear L9)
      go_roundw
      case rel => exact ⟨j + 1, by omega, by go_num, E9, ps9, H9.out⟩
      case measure => simp [intOf]; omega
    · have hj2 : j = ds.length := by omega
      subst hj2
      go_wp2
      go_ret
      obtain ⟨E, ps, hE, hd, hp, bel⟩ := HR.out
      rw [List.take_length] at hd
      exact ⟨_, E, ps, rfl, hE, hd, hp, bel⟩
end Go.Proofs.YtaoachljojbnjaaGreat
/- A memory of its own: impl.newMem by its contract. -/
namespace Go.Proofs.YtaoachljojbnjaaGreat.Kit
open Go.RowKit Go.Maps
/-- The leaners of a list. -/
def MkWl (P : Program) (k : Nat) (ds : List Dp) : Mk := .val [k] (fun lo hi w v => ∃ B E ps, v = .map (some B) ∧ LE P w lo B E ps ∧ E.map (·.d) = ds ∧ ∀ (j : Nat) (h : j < E.length), E[j].pl = j)
  (fun _ _ _ _ _ h hb => by obtain ⟨B, E, ps, h1, h2, h3⟩ := h; exact ⟨B, E, ps, h1, h2.below hb, h3⟩)
/-- A memory of its own. -/
def MkWm (k l N : Nat) (m : MD) : Mk := .val [k, l] (fun lo hi w v => ∃ a1 c1 a2 c2 a3 c3 a4 c4 a5 c5 a6 c6, v = .agg #[.slice a1 m.xs.length c1, .slice a2 m.ys.length c2, .slice a3 m.is.length c3, .slice a4 m.bs.length c4, .slice a5 m.fs.length c5, .slice a6 m.ds.length c6, .int .i64 m.nx] ∧ MO w (fun k => N ≤ k) (.slice a1 m.xs.length c1) (.slice a2 m.ys.length c2) (.slice a3 m.is.length c3) (.slice a4 m.bs.length c4) (.slice a5 m.fs.length c5) (.slice a6 m.ds.length c6) m)
  (fun _ _ _ _ _ h hb => by obtain ⟨a1, c1, a2, c2, a3, c3, a4, c4, a5, c5, a6, c6, h1, h2⟩ := h; exact ⟨a1, c1, a2, c2, a3, c3, a4, c4, a5, c5, a6, c6, h1, h2.below hb (Nat.le_refl _)⟩)
/-- The places of those in a list ascend. -/
theorem asc {E : List Ln} (h : ∀ (j : Nat) (h : j < E.length), E[j].pl = j) : ∀ i j : Fin E.length, i < j → E[i].pl < E[j].pl := fun i j hij => by
  have h1 := h i i.2
  have h2 := h j j.2
  show E[i.1].pl < E[j.1].pl
  rw [h1, h2]
  exact hij
end Go.Proofs.YtaoachljojbnjaaGreat.Kit
namespace Go.Proofs.YtaoachljojbnjaaGreat
open Go.RowKit Kit Go.Maps
set_option maxRecDepth 100000 in
set_option maxHeartbeats 3200000 in
theorem newMem_any (u v iv bv dv pv : Value) (m : MD) (w : World) (h : MR w u v iv bv dv pv m) (hB : BigM 1048576 m) (hw : ∀ (j : Nat) (h : j < m.ds.length), (Lit.int .i64 m.ds[j].id).wf = true) :
    Calls Tryz.prog 26 #[.agg #[u, v, iv, bv, dv, pv, .int .i64 m.nx]] w fun e w' => ∃ u' v' i' b' d' p', e = .returned (.agg #[u', v', i', b', d', p', .int .i64 m.nx]) ∧ MO w' (fun k => w.heap.size ≤ k) u' v' i' b' d' p' m ∧ Below w.heap.size w w' := by
  have H := hide h
  have HG := hide hB
  have HW := hide hw
  obtain ⟨a1, c1, a2, c2, a3, c3, a4, c4, a5, c5, a6, c6, rfl, rfl, rfl, rfl, rfl, rfl⟩ := h.form
  clear h hB hw
  go_enter Tryz.func26, Tryz.ntmps26
  go_wp2_with fail
  have HC : Hid (∀ W, Below ((w.alloc (.cells #[.slice a1 m.xs.length c1, .slice a2 m.ys.length c2, .slice a3 m.is.length c3, .slice a4 m.bs.length c4, .slice a5 m.fs.length c5, .slice a6 m.ds.length c6, .int .i64 m.nx] 44)).alloc (.cells noM 44)).drew.heap.size ((w.alloc (.cells #[.slice a1 m.xs.length c1, .slice a2 m.ys.length c2, .slice a3 m.is.length c3, .slice a4 m.bs.length c4, .slice a5 m.fs.length c5, .slice a6 m.ds.length c6, .int .i64 m.nx] 44)).alloc (.cells noM 44)).drew W → AtC W w.heap.size 44 #[.slice a1 m.xs.length c1, .slice a2 m.ys.length c2, .slice a3 m.is.length c3, .slice a4 m.bs.length c4, .slice a5 m.fs.length c5, .slice a6 m.ds.length c6, .int .i64 m.nx] ∧ AtC W (w.heap.size + 1) 44 noM ∧ Below w.heap.size w W ∧ w.heap.size + 1 + 1 ≤ W.heap.size) := fun W b => by
    have b2 := of_drew b
    have k1 := (AtC.new (w.alloc (.cells #[.slice a1 m.xs.length c1, .slice a2 m.ys.length c2, .slice a3 m.is.length c3, .slice a4 m.bs.length c4, .slice a5 m.fs.length c5, .slice a6 m.ds.length c6, .int .i64 m.nx] 44)) 44 noM).over b2
    have sz := b2.size
    simp at k1 sz
    exact ⟨((AtC.new w 44 _).alloc _).over b2, k1, (((Below.refl _ w).alloc (Nat.le_refl _) _).alloc (by simp) _).trans (b2.mono (by simp; omega)), sz⟩
  refine wp_region_frm (by kernel_rfl) [0, 1, 2, 3, 4] [5] (fun i => match i with | 0 => .const [] (.agg #[.slice a1 m.xs.length c1, .slice a2 m.ys.length c2, .slice a3 m.is.length c3, .slice a4 m.bs.length c4, .slice a5 m.fs.length c5, .slice a6 m.ds.length c6, .int .i64 m.nx]) | 1 => .const [] (.pointer (some ⟨w.heap.size, 5, none⟩)) | 2 => .const [1] (.slice a6 m.ds.length c6) | 3 => MkWl Tryz.prog 2 m.ds | 4 => MkWm 0 3 (w.heap.size + 1 + 1) m | _ => .triv) (fun x => ⟨#[Value.agg #[Value.slice a1 m.xs.length c1, Value.slice a2 m.ys.length c2, Value.slice a3 m.is.length c3, Value.slice a4 m.bs.length c4, Value.slice a5 m.fs.length c5, Value.slice a6 m.ds.length c6, Value.int IntKind.i64 m.nx], Value.pointer (some { block := w.heap.size, off := 0 }), Value.pointer (some { block := w.heap.size + 1, off := 0 }), x 0, x 1, x 2, x 3, x 4], []⟩) (fun i => match i with | 0 => undef | 1 => undef | 2 => undef | 3 => undef | 4 => undef | _ => undef) rfl (by kernel_rfl) (by kernel_rfl) (by kernel_rfl) rfl ?_ ?_
  · intro jo hj so x iw W hd hp K hK
    simp only [List.mem_cons, List.not_mem_nil, or_false] at hj
    rcases hj with rfl | rfl | rfl | rfl | rfl
    · refine wpOp_step (o := _) rfl fun K' hK' => ?_
      have HK : Hid (∀ v W', Below W.heap.size W W' → ((Mk.const [] (.agg #[.slice a1 m.xs.length c1, .slice a2 m.ys.length c2, .slice a3 m.is.length c3, .slice a4 m.bs.length c4, .slice a5 m.fs.length c5, .slice a6 m.ds.length c6, .int .i64 m.nx]) : Mk)).P W.heap.size W'.heap.size W' v (upd x 0 v) → K' ⟨#[Value.agg #[Value.slice a1 m.xs.length c1, Value.slice a2 m.ys.length c2, Value.slice a3 m.is.length c3, Value.slice a4 m.bs.length c4, Value.slice a5 m.fs.length c5, Value.slice a6 m.ds.length c6, Value.int IntKind.i64 m.nx], Value.pointer (some { block := w.heap.size, off := 0 }), Value.pointer (some { block := w.heap.size + 1, off := 0 }), v, x 1, x 2, x 3, x 4], []⟩ W') := fun v W' h1 h2 => hK' _ _ (hK v W' h1 h2)
      have k0 := (HC.out W hp.bel).1
      have q0 : W.cell? ⟨w.heap.size, 0, none⟩ = some (.slice a1 m.xs.length c1) := k0.cell 0
      have q1 : W.cell? ⟨w.heap.size, 1, none⟩ = some (.slice a2 m.ys.length c2) := k0.cell 1
      have q2 : W.cell? ⟨w.heap.size, 2, none⟩ = some (.slice a3 m.is.length c3) := k0.cell 2
      have q3 : W.cell? ⟨w.heap.size, 3, none⟩ = some (.slice a4 m.bs.length c4) := k0.cell 3
      have q4 : W.cell? ⟨w.heap.size, 4, none⟩ = some (.slice a5 m.fs.length c5) := k0.cell 4
      have q5 : W.cell? ⟨w.heap.size, 5, none⟩ = some (.slice a6 m.ds.length c6) := k0.cell 5
      have q6 : W.cell? ⟨w.heap.size, 6, none⟩ = some (.int .i64 m.nx) := k0.cell 6
      clear k0
      clear hK hK' hp hd
      go_simp
      exact HK.out _ _ (Below.refl _ _) rfl
    · refine wpOp_step (o := _) rfl fun K' hK' => ?_
      have HK : Hid (∀ v W', Below W.heap.size W W' → ((Mk.const [] (.pointer (some ⟨w.heap.size, 5, none⟩)) : Mk)).P W.heap.size W'.heap.size W' v (upd x 1 v) → K' ⟨#[Value.agg #[Value.slice a1 m.xs.length c1, Value.slice a2 m.ys.length c2, Value.slice a3 m.is.length c3, Value.slice a4 m.bs.length c4, Value.slice a5 m.fs.length c5, Value.slice a6 m.ds.length c6, Value.int IntKind.i64 m.nx], Value.pointer (some { block := w.heap.size, off := 0 }), Value.pointer (some { block := w.heap.size + 1, off := 0 }), x 0, v, x 2, x 3, x 4], []⟩ W') := fun v W' h1 h2 => hK' _ _ (hK v W' h1 h2)
      clear hK hK' hp hd
      go_simp
      exact HK.out _ _ (Below.refl _ _) rfl
    · refine wpOp_step (o := _) rfl fun K' hK' => ?_
      have HK : Hid (∀ v W', Below W.heap.size W W' → ((Mk.const [1] (.slice a6 m.ds.length c6) : Mk)).P W.heap.size W'.heap.size W' v (upd x 2 v) → K' ⟨#[Value.agg #[Value.slice a1 m.xs.length c1, Value.slice a2 m.ys.length c2, Value.slice a3 m.is.length c3, Value.slice a4 m.bs.length c4, Value.slice a5 m.fs.length c5, Value.slice a6 m.ds.length c6, Value.int IntKind.i64 m.nx], Value.pointer (some { block := w.heap.size, off := 0 }), Value.pointer (some { block := w.heap.size + 1, off := 0 }), x 0, x 1, v, x 3, x 4], []⟩ W') := fun v W' h1 h2 => hK' _ _ (hK v W' h1 h2)
      have e1 : x 1 = .pointer (some ⟨w.heap.size, 5, none⟩) := hp.post 1 (hd 1 (show 1 ∈ [1] from by decide))
      have q0 : W.cell? ⟨w.heap.size, 5, none⟩ = some (.slice a6 m.ds.length c6) := (HC.out W hp.bel).1.cell 5
      clear hK hK' hp hd
      simp only [e1] at HK ⊢
      go_simp
      exact HK.out _ _ (Below.refl _ _) rfl
    · refine wpOp_step (o := _) rfl fun K' hK' => ?_
      have HK : Hid (∀ v W', Below W.heap.size W W' → (MkWl Tryz.prog 2 m.ds).P W.heap.size W'.heap.size W' v (upd x 3 v) → K' ⟨#[Value.agg #[Value.slice a1 m.xs.length c1, Value.slice a2 m.ys.length c2, Value.slice a3 m.is.length c3, Value.slice a4 m.bs.length c4, Value.slice a5 m.fs.length c5, Value.slice a6 m.ds.length c6, Value.int IntKind.i64 m.nx], Value.pointer (some { block := w.heap.size, off := 0 }), Value.pointer (some { block := w.heap.size + 1, off := 0 }), x 0, x 1, x 2, v, x 4], []⟩ W') := fun v W' h1 h2 => hK' _ _ (hK v W' h1 h2)
      have e2 : x 2 = .slice a6 m.ds.length c6 := hp.post 2 (hd 2 (show 2 ∈ [2] from by decide))
      have bl := (HC.out W hp.bel).2.2.1
      clear hK hK' hp hd
      simp only [e2] at HK ⊢
      go_simp
      refine (leanersOf_any _ m.ds W (H.out.p.below bl (Nat.le_refl _)) HG.out.l HG.out.b HG.out.t HW.out).mono ?_
      rintro e w6 ⟨B, E, ps, rfl, O6, F6, G6, B6⟩
      go_simp
      exact HK.out _ _ B6 ⟨B, E, ps, rfl, O6, F6, G6⟩
    · refine wpOp_step (o := _) rfl fun K' hK' => ?_
      have HK : Hid (∀ v W', Below W.heap.size W W' → (MkWm 0 3 (w.heap.size + 1 + 1) m).P W.heap.size W'.heap.size W' v (upd x 4 v) → K' ⟨#[Value.agg #[Value.slice a1 m.xs.length c1, Value.slice a2 m.ys.length c2, Value.slice a3 m.is.length c3, Value.slice a4 m.bs.length c4, Value.slice a5 m.fs.length c5, Value.slice a6 m.ds.length c6, Value.int IntKind.i64 m.nx], Value.pointer (some { block := w.heap.size, off := 0 }), Value.pointer (some { block := w.heap.size + 1, off := 0 }), x 0, x 1, x 2, x 3, v], []⟩ W') := fun v W' h1 h2 => hK' _ _ (hK v W' h1 h2)
      have e0 : x 0 = .agg #[.slice a1 m.xs.length c1, .slice a2 m.ys.length c2, .slice a3 m.is.length c3, .slice a4 m.bs.length c4, .slice a5 m.fs.length c5, .slice a6 m.ds.length c6, .int .i64 m.nx] := hp.post 0 (hd 0 (show 0 ∈ [0, 3] from by decide))
      have e3 : ∃ B E ps, x 3 = .map (some B) ∧ LE Tryz.prog W (iw 3).1 B E ps ∧ E.map (·.d) = m.ds ∧ ∀ (j : Nat) (h : j < E.length), E[j].pl = j := hp.post 3 (hd 3 (show 3 ∈ [0, 3] from by decide))
      have bl := (HC.out W hp.bel).2.2.1
      have l3 := hp.lo 3 (hd 3 (show 3 ∈ [0, 3] from by decide))
      simp [World.drew] at l3
      clear hK hK' hp hd
      obtain ⟨B, E, ps, e3, h1, h2, h3⟩ := e3
      simp only [e0, e3] at HK ⊢
      clear e0 e3
      go_simp
      have hEl : E.length ≤ 1048576 := by have q := HG.out.l; rw [← h2, List.length_map] at q; exact q
      refine (memWith_any (iw 3).1 B E ps _ _ _ _ _ _ m W (H.out.below bl (Nat.le_refl _)) HG.out h1 (asc h3) hEl (Nat.le_trans h1.loB (Nat.le_of_lt h1.lt))).mono ?_
      rintro e w6 ⟨u1, u2, u3, u4, u5, u6, rfl, O6, B6⟩
      rw [h2] at O6
      obtain ⟨b1, d1, b2, d2, b3, d3, b4, d4, b5, d5, b6, d6, rfl, rfl, rfl, rfl, rfl, rfl⟩ := O6.mr.form
      go_simp
      exact HK.out _ _ B6 ⟨b1, d1, b2, d2, b3, d3, b4, d4, b5, d5, b6, d6, rfl, O6.mono fun k hk => by omega⟩
  · intro x iw W hp
    obtain ⟨b1, d1, b2, d2, b3, d3, b4, d4, b5, d5, b6, d6, e4, O4⟩ := hp.post 4 (by decide)
    obtain ⟨kA, kR, bel, -⟩ := HC.out W hp.bel
    have HM : Hid (MO ((((((((W.setCell ⟨w.heap.size + 1, 0, none⟩ (.slice b1 m.xs.length d1)).setCell ⟨w.heap.size + 1, 1, none⟩ (.slice b2 m.ys.length d2)).setCell ⟨w.heap.size + 1, 2, none⟩ (.slice b3 m.is.length d3)).setCell ⟨w.heap.size + 1, 3, none⟩ (.slice b4 m.bs.length d4)).setCell ⟨w.heap.size + 1, 4, none⟩ (.slice b5 m.fs.length d5)).setCell ⟨w.heap.size + 1, 5, none⟩ (.slice b6 m.ds.length d6)).setCell ⟨w.heap.size + 1, 6, none⟩ (.int .i64 m.nx))) (fun k => w.heap.size ≤ k) (.slice b1 m.xs.length d1) (.slice b2 m.ys.length d2) (.slice b3 m.is.length d3) (.slice b4 m.bs.length d4) (.slice b5 m.fs.length d5) (.slice b6 m.ds.length d6) m ∧ Below w.heap.size w ((((((((W.setCell ⟨w.heap.size + 1, 0, none⟩ (.slice b1 m.xs.length d1)).setCell ⟨w.heap.size + 1, 1, none⟩ (.slice b2 m.ys.length d2)).setCell ⟨w.heap.size + 1, 2, none⟩ (.slice b3 m.is.length d3)).setCell ⟨w.heap.size + 1, 3, none⟩ (.slice b4 m.bs.length d4)).setCell ⟨w.heap.size + 1, 4, none⟩ (.slice b5 m.fs.length d5)).setCell ⟨w.heap.size + 1, 5, none⟩ (.slice b6 m.ds.length d6)).setCell ⟨w.heap.size + 1, 6, none⟩ (.int .i64 m.nx)))) := by
      refine ⟨(O4.of_heap fun k hk _ => ((((((heap_setCell_other _ ⟨w.heap.size + 1, 6, none⟩ k _ (by show k ≠ w.heap.size + 1; omega)).trans (heap_setCell_other _ ⟨w.heap.size + 1, 5, none⟩ k _ (by show k ≠ w.heap.size + 1; omega))).trans (heap_setCell_other _ ⟨w.heap.size + 1, 4, none⟩ k _ (by show k ≠ w.heap.size + 1; omega))).trans (heap_setCell_other _ ⟨w.heap.size + 1, 3, none⟩ k _ (by show k ≠ w.heap.size + 1; omega))).trans (heap_setCell_other _ ⟨w.heap.size + 1, 2, none⟩ k _ (by show k ≠ w.heap.size + 1; omega))).trans (heap_setCell_other _ ⟨w.heap.size + 1, 1, none⟩ k _ (by show k ≠ w.heap.size + 1; omega))).trans (heap_setCell_other _ ⟨w.heap.size + 1, 0, none⟩ k _ (by show k ≠ w.heap.size + 1; omega))).mono fun k hk => by omega, (((((((bel).setCell (by simp) _).setCell (by simp) _).setCell (by simp) _).setCell (by simp) _).setCell (by simp) _).setCell (by simp) _).setCell (by simp) _⟩
    have r0 : W.cell? ⟨w.heap.size + 1, 0, none⟩ = some (.slice none 0 0) := kR.cell 0
    have v0 := kR.frozen 0
    have r1 : W.cell? ⟨w.heap.size + 1, 1, none⟩ = some (.slice none 0 0) := kR.cell 1
    have v1 := kR.frozen 1
    have r2 : W.cell? ⟨w.heap.size + 1, 2, none⟩ = some (.slice none 0 0) := kR.cell 2
    have v2 := kR.frozen 2
    have r3 : W.cell? ⟨w.heap.size + 1, 3, none⟩ = some (.slice none 0 0) := kR.cell 3
    have v3 := kR.frozen 3
    have r4 : W.cell? ⟨w.heap.size + 1, 4, none⟩ = some (.slice none 0 0) := kR.cell 4
    have v4 := kR.frozen 4
    have r5 : W.cell? ⟨w.heap.size + 1, 5, none⟩ = some (.slice none 0 0) := kR.cell 5
    have v5 := kR.frozen 5
    have r6 : W.cell? ⟨w.heap.size + 1, 6, none⟩ = some (.int .i64 0) := kR.cell 6
    have v6 := kR.frozen 6
    clear hp O4 kA kR bel HC
    simp only [e4]
    clear e4
    go_wp2
    rw [List.filterMap_nil]
    go_wp2
    refine bodyPost_ret (v := .agg #[.slice b1 m.xs.length d1, .slice b2 m.ys.length d2, .slice b3 m.is.length d3, .slice b4 m.bs.length d4, .slice b5 m.fs.length d5, .slice b6 m.ds.length d6, .int .i64 m.nx]) (by simp [results, go_sem, r0, r1, r2, r3, r4, r5, r6]) rfl ⟨_, _, _, _, _, _, rfl, HM.out.1, HM.out.2⟩
end Go.Proofs.YtaoachljojbnjaaGreat
/- impl.Mem.roomForDep by its contracts. -/
namespace Go.Proofs.YtaoachljojbnjaaGreat
open Go.RowKit Kit
/-- Is there room for one that leans? -/
theorem room_full {n : Nat} {a : Option Addr} {c b : Nat} (w : World) (c5 : w.cell? ⟨b, 5, none⟩ = some (.slice a n c)) (h : 40 ≤ n) (hn : n ≤ 1048576) : Calls Tryz.prog 25 #[.pointer (some ⟨b, 0, none⟩)] w fun e w' => e = .returned (.bool false) ∧ w = w' := by
  have h1 : (40 : Int) ≤ (n : Int) := by omega
  go_enter Tryz.func25, Tryz.ntmps25
  go_wp2
  go_ret
  exact ⟨rfl, rfl⟩
theorem room_low {n : Nat} {nx : Int} {a : Option Addr} {c b : Nat} (w : World) (c5 : w.cell? ⟨b, 5, none⟩ = some (.slice a n c)) (c6 : w.cell? ⟨b, 6, none⟩ = some (.int .i64 nx)) (h : n < 40) (hn : nx < 1) : Calls Tryz.prog 25 #[.pointer (some ⟨b, 0, none⟩)] w fun e w' => e = .returned (.bool false) ∧ w = w' := by
  have h1 : (n : Int) < (40 : Int) := by omega
  go_enter Tryz.func25, Tryz.ntmps25
  go_wp2
  go_ret
  exact ⟨rfl, rfl⟩
theorem room_high {n : Nat} {nx : Int} {a : Option Addr} {c b : Nat} (w : World) (c5 : w.cell? ⟨b, 5, none⟩ = some (.slice a n c)) (c6 : w.cell? ⟨b, 6, none⟩ = some (.int .i64 nx)) (h : n < 40) (hn : 1 ≤ nx) (hy : 100000 ≤ nx) : Calls Tryz.prog 25 #[.pointer (some ⟨b, 0, none⟩)] w fun e w' => e = .returned (.bool false) ∧ w = w' := by
  have h2 : ¬ nx < 100000 := by omega
  clear hy
  have h1 : (n : Int) < (40 : Int) := by omega
  go_enter Tryz.func25, Tryz.ntmps25
  go_wp2
  go_ret
  exact ⟨rfl, rfl⟩
theorem room_yes {n : Nat} {nx : Int} {a : Option Addr} {c b : Nat} (w : World) (c5 : w.cell? ⟨b, 5, none⟩ = some (.slice a n c)) (c6 : w.cell? ⟨b, 6, none⟩ = some (.int .i64 nx)) (h : n < 40) (hn : 1 ≤ nx) (hy : nx < 100000) : Calls Tryz.prog 25 #[.pointer (some ⟨b, 0, none⟩)] w fun e w' => e = .returned (.bool true) ∧ w = w' := by
  have h1 : (n : Int) < (40 : Int) := by omega
  go_enter Tryz.func25, Tryz.ntmps25
  go_wp2
  go_ret
  exact ⟨rfl, rfl⟩
end Go.Proofs.YtaoachljojbnjaaGreat
/- impl.PutDep by its contract. -/
namespace Go.Proofs.YtaoachljojbnjaaGreat
open Go.RowKit Kit
set_option maxRecDepth 100000 in
set_option maxHeartbeats 3200000 in
theorem putI_full (id kd io pt bk sl : Int) (nm : ByteArray) (bt ot : Bool) (af : Int) (bl : List Int) (p : Value) (u v iv bv dv pv : Value) (m : MD) (w : World) (h : MR w u v iv bv dv pv m) (hB : BigM 1048576 m) (hv : RInts w p bl) (hl : bl.length ≤ 1048576) (hn : nm.size ≤ 1048576) (hw : ∀ (j : Nat) (h : j < m.ds.length), (Lit.int .i64 m.ds[j].id).wf = true) (hf : 40 ≤ m.ds.length) :
    Calls Tryz.prog 9 #[.agg #[u, v, iv, bv, dv, pv, .int .i64 m.nx], .agg #[.int .i64 id, .int .i64 kd, .int .i64 io, .int .i64 pt, .int .i64 bk, .int .i64 sl, .string nm, .bool bt, .bool ot, .int .i64 af, p]] w fun e w' => ∃ u' v' i' b' d' p', e = .returned (.tuple #[.agg #[u', v', i', b', d', p', .int .i64 m.nx], .int .i64 0]) ∧ MO w' (fun k => w.heap.size ≤ k) u' v' i' b' d' p' m ∧ Below w.heap.size w w' := by
  have H := hide h
  have HG := hide hB
  have HP := hide hv
  have HL := hide hl
  have HN := hide hn
  have HW := hide hw
  obtain ⟨a1, c1, a2, c2, a3, c3, a4, c4, a5, c5, a6, c6, rfl, rfl, rfl, rfl, rfl, rfl⟩ := h.form
  obtain ⟨pa, pc, rfl⟩ := hv.form
  clear h hB hv hl hn hw
  have HC : Hid (∀ W, Below (((w.alloc (.cells #[.slice a1 m.xs.length c1, .slice a2 m.ys.length c2, .slice a3 m.is.length c3, .slice a4 m.bs.length c4, .slice a5 m.fs.length c5, .slice a6 m.ds.length c6, .int .i64 m.nx] 44)).alloc (.cells #[.int .i64 id, .int .i64 kd, .int .i64 io, .int .i64 pt, .int .i64 bk, .int .i64 sl, .string nm, .bool bt, .bool ot, .int .i64 af, .slice pa bl.length pc] 48)).alloc (.cells noM 44)).heap.size (((w.alloc (.cells #[.slice a1 m.xs.length c1, .slice a2 m.ys.length c2, .slice a3 m.is.length c3, .slice a4 m.bs.length c4, .slice a5 m.fs.length c5, .slice a6 m.ds.length c6, .int .i64 m.nx] 44)).alloc (.cells #[.int .i64 id, .int .i64 kd, .int .i64 io, .int .i64 pt, .int .i64 bk, .int .i64 sl, .string nm, .bool bt, .bool ot, .int .i64 af, .slice pa bl.length pc] 48)).alloc (.cells noM 44)) W → AtC W w.heap.size 44 #[.slice a1 m.xs.length c1, .slice a2 m.ys.length c2, .slice a3 m.is.length c3, .slice a4 m.bs.length c4, .slice a5 m.fs.length c5, .slice a6 m.ds.length c6, .int .i64 m.nx] ∧ AtC W (w.heap.size + 1) 48 #[.int .i64 id, .int .i64 kd, .int .i64 io, .int .i64 pt, .int .i64 bk, .int .i64 sl, .string nm, .bool bt, .bool ot, .int .i64 af, .slice pa bl.length pc] ∧ AtC W (w.heap.size + 1 + 1) 44 noM ∧ Below w.heap.size w W ∧ w.heap.size + 1 + 1 + 1 ≤ W.heap.size) := fun W b2 => by
    have k1 := (AtC.new ((w.alloc (.cells #[.slice a1 m.xs.length c1, .slice a2 m.ys.length c2, .slice a3 m.is.length c3, .slice a4 m.bs.length c4, .slice a5 m.fs.length c5, .slice a6 m.ds.length c6, .int .i64 m.nx] 44)).alloc (.cells #[.int .i64 id, .int .i64 kd, .int .i64 io, .int .i64 pt, .int .i64 bk, .int .i64 sl, .string nm, .bool bt, .bool ot, .int .i64 af, .slice pa bl.length pc] 48)) 44 noM).over b2
    have k2 := ((AtC.new (w.alloc (.cells #[.slice a1 m.xs.length c1, .slice a2 m.ys.length c2, .slice a3 m.is.length c3, .slice a4 m.bs.length c4, .slice a5 m.fs.length c5, .slice a6 m.ds.length c6, .int .i64 m.nx] 44)) 48 #[.int .i64 id, .int .i64 kd, .int .i64 io, .int .i64 pt, .int .i64 bk, .int .i64 sl, .string nm, .bool bt, .bool ot, .int .i64 af, .slice pa bl.length pc]).alloc (.cells noM 44)).over b2
    have sz := b2.size
    simp at k1 k2 sz
    exact ⟨(((AtC.new w 44 _).alloc _).alloc _).over b2, k2, k1, ((((Below.refl _ w).alloc (Nat.le_refl _) _).alloc (by simp) _).alloc (by simp; omega) _).trans (b2.mono (by simp; omega)), sz⟩
  have hf1 : (40 : Int) ≤ (m.ds.length : Int) := by omega
  have KM : AtC (((w.alloc (.cells #[.slice a1 m.xs.length c1, .slice a2 m.ys.length c2, .slice a3 m.is.length c3, .slice a4 m.bs.length c4, .slice a5 m.fs.length c5, .slice a6 m.ds.length c6, .int .i64 m.nx] 44)).alloc (.cells #[.int .i64 id, .int .i64 kd, .int .i64 io, .int .i64 pt, .int .i64 bk, .int .i64 sl, .string nm, .bool bt, .bool ot, .int .i64 af, .slice pa bl.length pc] 48)).alloc (.cells noM 44)) w.heap.size 44 #[.slice a1 m.xs.length c1, .slice a2 m.ys.length c2, .slice a3 m.is.length c3, .slice a4 m.bs.length c4, .slice a5 m.fs.length c5, .slice a6 m.ds.length c6, .int .i64 m.nx] := ((AtC.new w 44 _).alloc _).alloc _
  have RM := hide (room_full _ (KM.cell 5) hf HG.out.l)
  clear KM
  go_enter Tryz.func9, Tryz.ntmps9
  go_wp2_with fail
  refine RM.out.mono ?_
  rintro e w1 ⟨rfl, rfl⟩
  go_wp2_with fail
  refine (newMem_any _ _ _ _ _ _ m _ (H.out.below (HC.out _ (Below.refl _ _)).2.2.2.1 (Nat.le_refl _)) HG.out HW.out).mono ?_
  rintro e w2 ⟨u1, u2, u3, u4, u5, u6, rfl, O2, B2⟩
  obtain ⟨b1, d1, b2, d2, b3, d3, b4, d4, b5, d5, b6, d6, rfl, rfl, rfl, rfl, rfl, rfl⟩ := O2.mr.form
  obtain ⟨-, -, q3, q5, q6⟩ := HC.out w2 B2
  have O3 := (O2.mono (S' := fun k => w.heap.size + 1 + 1 + 1 ≤ k) (fun k hk => by simp at hk; omega))
  have r0 : w2.cell? ⟨(w.heap.size + 1 + 1), 0, none⟩ = some (.slice none 0 0) := q3.cell 0
  have r1 : w2.cell? ⟨(w.heap.size + 1 + 1), 1, none⟩ = some (.slice none 0 0) := q3.cell 1
  have r2 : w2.cell? ⟨(w.heap.size + 1 + 1), 2, none⟩ = some (.slice none 0 0) := q3.cell 2
  have r3 : w2.cell? ⟨(w.heap.size + 1 + 1), 3, none⟩ = some (.slice none 0 0) := q3.cell 3
  have r4 : w2.cell? ⟨(w.heap.size + 1 + 1), 4, none⟩ = some (.slice none 0 0) := q3.cell 4
  have r5 : w2.cell? ⟨(w.heap.size + 1 + 1), 5, none⟩ = some (.slice none 0 0) := q3.cell 5
  have r6 : w2.cell? ⟨(w.heap.size + 1 + 1), 6, none⟩ = some (.int .i64 0) := q3.cell 6
  have v0 := q3.frozen 0
  have v1 := q3.frozen 1
  have v2 := q3.frozen 2
  have v3 := q3.frozen 3
  have v4 := q3.frozen 4
  have v5 := q3.frozen 5
  have v6 := q3.frozen 6
  have HM : Hid (MO (((((((w2.setCell ⟨(w.heap.size + 1 + 1), 0, none⟩ (.slice b1 m.xs.length d1)).setCell ⟨(w.heap.size + 1 + 1), 1, none⟩ (.slice b2 m.ys.length d2)).setCell ⟨(w.heap.size + 1 + 1), 2, none⟩ (.slice b3 m.is.length d3)).setCell ⟨(w.heap.size + 1 + 1), 3, none⟩ (.slice b4 m.bs.length d4)).setCell ⟨(w.heap.size + 1 + 1), 4, none⟩ (.slice b5 m.fs.length d5)).setCell ⟨(w.heap.size + 1 + 1), 5, none⟩ (.slice b6 m.ds.length d6)).setCell ⟨(w.heap.size + 1 + 1), 6, none⟩ (.int .i64 m.nx)) (fun k => w.heap.size ≤ k) (.slice b1 m.xs.length d1) (.slice b2 m.ys.length d2) (.slice b3 m.is.length d3) (.slice b4 m.bs.length d4) (.slice b5 m.fs.length d5) (.slice b6 m.ds.length d6) m ∧ Below w.heap.size w (((((((w2.setCell ⟨(w.heap.size + 1 + 1), 0, none⟩ (.slice b1 m.xs.length d1)).setCell ⟨(w.heap.size + 1 + 1), 1, none⟩ (.slice b2 m.ys.length d2)).setCell ⟨(w.heap.size + 1 + 1), 2, none⟩ (.slice b3 m.is.length d3)).setCell ⟨(w.heap.size + 1 + 1), 3, none⟩ (.slice b4 m.bs.length d4)).setCell ⟨(w.heap.size + 1 + 1), 4, none⟩ (.slice b5 m.fs.length d5)).setCell ⟨(w.heap.size + 1 + 1), 5, none⟩ (.slice b6 m.ds.length d6)).setCell ⟨(w.heap.size + 1 + 1), 6, none⟩ (.int .i64 m.nx))) := by
    exact ⟨(O3.of_heap fun k hk _ => ((((((heap_setCell_other _ ⟨(w.heap.size + 1 + 1), 6, none⟩ k _ (by show k ≠ (w.heap.size + 1 + 1); omega)).trans (heap_setCell_other _ ⟨(w.heap.size + 1 + 1), 5, none⟩ k _ (by show k ≠ (w.heap.size + 1 + 1); omega))).trans (heap_setCell_other _ ⟨(w.heap.size + 1 + 1), 4, none⟩ k _ (by show k ≠ (w.heap.size + 1 + 1); omega))).trans (heap_setCell_other _ ⟨(w.heap.size + 1 + 1), 3, none⟩ k _ (by show k ≠ (w.heap.size + 1 + 1); omega))).trans (heap_setCell_other _ ⟨(w.heap.size + 1 + 1), 2, none⟩ k _ (by show k ≠ (w.heap.size + 1 + 1); omega))).trans (heap_setCell_other _ ⟨(w.heap.size + 1 + 1), 1, none⟩ k _ (by show k ≠ (w.heap.size + 1 + 1); omega))).trans (heap_setCell_other _ ⟨(w.heap.size + 1 + 1), 0, none⟩ k _ (by show k ≠ (w.heap.size + 1 + 1); omega))).mono fun k hk => by omega, (((((((q5).setCell (by show w.heap.size ≤ w.heap.size + 1 + 1; omega) _).setCell (by show w.heap.size ≤ w.heap.size + 1 + 1; omega) _).setCell (by show w.heap.size ≤ w.heap.size + 1 + 1; omega) _).setCell (by show w.heap.size ≤ w.heap.size + 1 + 1; omega) _).setCell (by show w.heap.size ≤ w.heap.size + 1 + 1; omega) _).setCell (by show w.heap.size ≤ w.heap.size + 1 + 1; omega) _).setCell (by show w.heap.size ≤ w.heap.size + 1 + 1; omega) _⟩
  clear q3 q5 q6 O2 O3 B2 HC
  go_wp2
  refine bodyPost_ret (v := .tuple #[.agg #[.slice b1 m.xs.length d1, .slice b2 m.ys.length d2, .slice b3 m.is.length d3, .slice b4 m.bs.length d4, .slice b5 m.fs.length d5, .slice b6 m.ds.length d6, .int .i64 m.nx], .int .i64 0]) (by simp [results, go_sem, r0, r1, r2, r3, r4, r5, r6]) rfl ⟨_, _, _, _, _, _, rfl, HM.out.1, HM.out.2⟩
set_option maxRecDepth 100000 in
set_option maxHeartbeats 3200000 in
theorem putI_low (id kd io pt bk sl : Int) (nm : ByteArray) (bt ot : Bool) (af : Int) (bl : List Int) (p : Value) (u v iv bv dv pv : Value) (m : MD) (w : World) (h : MR w u v iv bv dv pv m) (hB : BigM 1048576 m) (hv : RInts w p bl) (hl : bl.length ≤ 1048576) (hn : nm.size ≤ 1048576) (hw : ∀ (j : Nat) (h : j < m.ds.length), (Lit.int .i64 m.ds[j].id).wf = true) (hf : m.ds.length < 40) (hx : m.nx < 1) :
    Calls Tryz.prog 9 #[.agg #[u, v, iv, bv, dv, pv, .int .i64 m.nx], .agg #[.int .i64 id, .int .i64 kd, .int .i64 io, .int .i64 pt, .int .i64 bk, .int .i64 sl, .string nm, .bool bt, .bool ot, .int .i64 af, p]] w fun e w' => ∃ u' v' i' b' d' p', e = .returned (.tuple #[.agg #[u', v', i', b', d', p', .int .i64 m.nx], .int .i64 0]) ∧ MO w' (fun k => w.heap.size ≤ k) u' v' i' b' d' p' m ∧ Below w.heap.size w w' := by
  have H := hide h
  have HG := hide hB
  have HP := hide hv
  have HL := hide hl
  have HN := hide hn
  have HW := hide hw
  obtain ⟨a1, c1, a2, c2, a3, c3, a4, c4, a5, c5, a6, c6, rfl, rfl, rfl, rfl, rfl, rfl⟩ := h.form
  obtain ⟨pa, pc, rfl⟩ := hv.form
  clear h hB hv hl hn hw
  have HC : Hid (∀ W, Below (((w.alloc (.cells #[.slice a1 m.xs.length c1, .slice a2 m.ys.length c2, .slice a3 m.is.length c3, .slice a4 m.bs.length c4, .slice a5 m.fs.length c5, .slice a6 m.ds.length c6, .int .i64 m.nx] 44)).alloc (.cells #[.int .i64 id, .int .i64 kd, .int .i64 io, .int .i64 pt, .int .i64 bk, .int .i64 sl, .string nm, .bool bt, .bool ot, .int .i64 af, .slice pa bl.length pc] 48)).alloc (.cells noM 44)).heap.size (((w.alloc (.cells #[.slice a1 m.xs.length c1, .slice a2 m.ys.length c2, .slice a3 m.is.length c3, .slice a4 m.bs.length c4, .slice a5 m.fs.length c5, .slice a6 m.ds.length c6, .int .i64 m.nx] 44)).alloc (.cells #[.int .i64 id, .int .i64 kd, .int .i64 io, .int .i64 pt, .int .i64 bk, .int .i64 sl, .string nm, .bool bt, .bool ot, .int .i64 af, .slice pa bl.length pc] 48)).alloc (.cells noM 44)) W → AtC W w.heap.size 44 #[.slice a1 m.xs.length c1, .slice a2 m.ys.length c2, .slice a3 m.is.length c3, .slice a4 m.bs.length c4, .slice a5 m.fs.length c5, .slice a6 m.ds.length c6, .int .i64 m.nx] ∧ AtC W (w.heap.size + 1) 48 #[.int .i64 id, .int .i64 kd, .int .i64 io, .int .i64 pt, .int .i64 bk, .int .i64 sl, .string nm, .bool bt, .bool ot, .int .i64 af, .slice pa bl.length pc] ∧ AtC W (w.heap.size + 1 + 1) 44 noM ∧ Below w.heap.size w W ∧ w.heap.size + 1 + 1 + 1 ≤ W.heap.size) := fun W b2 => by
    have k1 := (AtC.new ((w.alloc (.cells #[.slice a1 m.xs.length c1, .slice a2 m.ys.length c2, .slice a3 m.is.length c3, .slice a4 m.bs.length c4, .slice a5 m.fs.length c5, .slice a6 m.ds.length c6, .int .i64 m.nx] 44)).alloc (.cells #[.int .i64 id, .int .i64 kd, .int .i64 io, .int .i64 pt, .int .i64 bk, .int .i64 sl, .string nm, .bool bt, .bool ot, .int .i64 af, .slice pa bl.length pc] 48)) 44 noM).over b2
    have k2 := ((AtC.new (w.alloc (.cells #[.slice a1 m.xs.length c1, .slice a2 m.ys.length c2, .slice a3 m.is.length c3, .slice a4 m.bs.length c4, .slice a5 m.fs.length c5, .slice a6 m.ds.length c6, .int .i64 m.nx] 44)) 48 #[.int .i64 id, .int .i64 kd, .int .i64 io, .int .i64 pt, .int .i64 bk, .int .i64 sl, .string nm, .bool bt, .bool ot, .int .i64 af, .slice pa bl.length pc]).alloc (.cells noM 44)).over b2
    have sz := b2.size
    simp at k1 k2 sz
    exact ⟨(((AtC.new w 44 _).alloc _).alloc _).over b2, k2, k1, ((((Below.refl _ w).alloc (Nat.le_refl _) _).alloc (by simp) _).alloc (by simp; omega) _).trans (b2.mono (by simp; omega)), sz⟩
  have hf1 : ¬ ((40 : Int) ≤ (m.ds.length : Int)) := by omega
  have hx1 : m.nx < 1 := hx
  clear hx
  have KM : AtC (((w.alloc (.cells #[.slice a1 m.xs.length c1, .slice a2 m.ys.length c2, .slice a3 m.is.length c3, .slice a4 m.bs.length c4, .slice a5 m.fs.length c5, .slice a6 m.ds.length c6, .int .i64 m.nx] 44)).alloc (.cells #[.int .i64 id, .int .i64 kd, .int .i64 io, .int .i64 pt, .int .i64 bk, .int .i64 sl, .string nm, .bool bt, .bool ot, .int .i64 af, .slice pa bl.length pc] 48)).alloc (.cells noM 44)) w.heap.size 44 #[.slice a1 m.xs.length c1, .slice a2 m.ys.length c2, .slice a3 m.is.length c3, .slice a4 m.bs.length c4, .slice a5 m.fs.length c5, .slice a6 m.ds.length c6, .int .i64 m.nx] := ((AtC.new w 44 _).alloc _).alloc _
  have RM := hide (room_low _ (KM.cell 5) (KM.cell 6) hf hx1)
  clear KM
  go_enter Tryz.func9, Tryz.ntmps9
  go_wp2_with fail
  refine RM.out.mono ?_
  rintro e w1 ⟨rfl, rfl⟩
  go_wp2_with fail
  refine (newMem_any _ _ _ _ _ _ m _ (H.out.below (HC.out _ (Below.refl _ _)).2.2.2.1 (Nat.le_refl _)) HG.out HW.out).mono ?_
  rintro e w2 ⟨u1, u2, u3, u4, u5, u6, rfl, O2, B2⟩
  obtain ⟨b1, d1, b2, d2, b3, d3, b4, d4, b5, d5, b6, d6, rfl, rfl, rfl, rfl, rfl, rfl⟩ := O2.mr.form
  obtain ⟨-, -, q3, q5, q6⟩ := HC.out w2 B2
  have O3 := (O2.mono (S' := fun k => w.heap.size + 1 + 1 + 1 ≤ k) (fun k hk => by simp at hk; omega))
  have r0 : w2.cell? ⟨(w.heap.size + 1 + 1), 0, none⟩ = some (.slice none 0 0) := q3.cell 0
  have r1 : w2.cell? ⟨(w.heap.size + 1 + 1), 1, none⟩ = some (.slice none 0 0) := q3.cell 1
  have r2 : w2.cell? ⟨(w.heap.size + 1 + 1), 2, none⟩ = some (.slice none 0 0) := q3.cell 2
  have r3 : w2.cell? ⟨(w.heap.size + 1 + 1), 3, none⟩ = some (.slice none 0 0) := q3.cell 3
  have r4 : w2.cell? ⟨(w.heap.size + 1 + 1), 4, none⟩ = some (.slice none 0 0) := q3.cell 4
  have r5 : w2.cell? ⟨(w.heap.size + 1 + 1), 5, none⟩ = some (.slice none 0 0) := q3.cell 5
  have r6 : w2.cell? ⟨(w.heap.size + 1 + 1), 6, none⟩ = some (.int .i64 0) := q3.cell 6
  have v0 := q3.frozen 0
  have v1 := q3.frozen 1
  have v2 := q3.frozen 2
  have v3 := q3.frozen 3
  have v4 := q3.frozen 4
  have v5 := q3.frozen 5
  have v6 := q3.frozen 6
  have HM : Hid (MO (((((((w2.setCell ⟨(w.heap.size + 1 + 1), 0, none⟩ (.slice b1 m.xs.length d1)).setCell ⟨(w.heap.size + 1 + 1), 1, none⟩ (.slice b2 m.ys.length d2)).setCell ⟨(w.heap.size + 1 + 1), 2, none⟩ (.slice b3 m.is.length d3)).setCell ⟨(w.heap.size + 1 + 1), 3, none⟩ (.slice b4 m.bs.length d4)).setCell ⟨(w.heap.size + 1 + 1), 4, none⟩ (.slice b5 m.fs.length d5)).setCell ⟨(w.heap.size + 1 + 1), 5, none⟩ (.slice b6 m.ds.length d6)).setCell ⟨(w.heap.size + 1 + 1), 6, none⟩ (.int .i64 m.nx)) (fun k => w.heap.size ≤ k) (.slice b1 m.xs.length d1) (.slice b2 m.ys.length d2) (.slice b3 m.is.length d3) (.slice b4 m.bs.length d4) (.slice b5 m.fs.length d5) (.slice b6 m.ds.length d6) m ∧ Below w.heap.size w (((((((w2.setCell ⟨(w.heap.size + 1 + 1), 0, none⟩ (.slice b1 m.xs.length d1)).setCell ⟨(w.heap.size + 1 + 1), 1, none⟩ (.slice b2 m.ys.length d2)).setCell ⟨(w.heap.size + 1 + 1), 2, none⟩ (.slice b3 m.is.length d3)).setCell ⟨(w.heap.size + 1 + 1), 3, none⟩ (.slice b4 m.bs.length d4)).setCell ⟨(w.heap.size + 1 + 1), 4, none⟩ (.slice b5 m.fs.length d5)).setCell ⟨(w.heap.size + 1 + 1), 5, none⟩ (.slice b6 m.ds.length d6)).setCell ⟨(w.heap.size + 1 + 1), 6, none⟩ (.int .i64 m.nx))) := by
    exact ⟨(O3.of_heap fun k hk _ => ((((((heap_setCell_other _ ⟨(w.heap.size + 1 + 1), 6, none⟩ k _ (by show k ≠ (w.heap.size + 1 + 1); omega)).trans (heap_setCell_other _ ⟨(w.heap.size + 1 + 1), 5, none⟩ k _ (by show k ≠ (w.heap.size + 1 + 1); omega))).trans (heap_setCell_other _ ⟨(w.heap.size + 1 + 1), 4, none⟩ k _ (by show k ≠ (w.heap.size + 1 + 1); omega))).trans (heap_setCell_other _ ⟨(w.heap.size + 1 + 1), 3, none⟩ k _ (by show k ≠ (w.heap.size + 1 + 1); omega))).trans (heap_setCell_other _ ⟨(w.heap.size + 1 + 1), 2, none⟩ k _ (by show k ≠ (w.heap.size + 1 + 1); omega))).trans (heap_setCell_other _ ⟨(w.heap.size + 1 + 1), 1, none⟩ k _ (by show k ≠ (w.heap.size + 1 + 1); omega))).trans (heap_setCell_other _ ⟨(w.heap.size + 1 + 1), 0, none⟩ k _ (by show k ≠ (w.heap.size + 1 + 1); omega))).mono fun k hk => by omega, (((((((q5).setCell (by show w.heap.size ≤ w.heap.size + 1 + 1; omega) _).setCell (by show w.heap.size ≤ w.heap.size + 1 + 1; omega) _).setCell (by show w.heap.size ≤ w.heap.size + 1 + 1; omega) _).setCell (by show w.heap.size ≤ w.heap.size + 1 + 1; omega) _).setCell (by show w.heap.size ≤ w.heap.size + 1 + 1; omega) _).setCell (by show w.heap.size ≤ w.heap.size + 1 + 1; omega) _).setCell (by show w.heap.size ≤ w.heap.size + 1 + 1; omega) _⟩
  clear q3 q5 q6 O2 O3 B2 HC
  go_wp2
  refine bodyPost_ret (v := .tuple #[.agg #[.slice b1 m.xs.length d1, .slice b2 m.ys.length d2, .slice b3 m.is.length d3, .slice b4 m.bs.length d4, .slice b5 m.fs.length d5, .slice b6 m.ds.length d6, .int .i64 m.nx], .int .i64 0]) (by simp [results, go_sem, r0, r1, r2, r3, r4, r5, r6]) rfl ⟨_, _, _, _, _, _, rfl, HM.out.1, HM.out.2⟩
set_option maxRecDepth 100000 in
set_option maxHeartbeats 3200000 in
theorem putI_high (id kd io pt bk sl : Int) (nm : ByteArray) (bt ot : Bool) (af : Int) (bl : List Int) (p : Value) (u v iv bv dv pv : Value) (m : MD) (w : World) (h : MR w u v iv bv dv pv m) (hB : BigM 1048576 m) (hv : RInts w p bl) (hl : bl.length ≤ 1048576) (hn : nm.size ≤ 1048576) (hw : ∀ (j : Nat) (h : j < m.ds.length), (Lit.int .i64 m.ds[j].id).wf = true) (hf : m.ds.length < 40) (hx : 1 ≤ m.nx) (hy : 100000 ≤ m.nx) :
    Calls Tryz.prog 9 #[.agg #[u, v, iv, bv, dv, pv, .int .i64 m.nx], .agg #[.int .i64 id, .int .i64 kd, .int .i64 io, .int .i64 pt, .int .i64 bk, .int .i64 sl, .string nm, .bool bt, .bool ot, .int .i64 af, p]] w fun e w' => ∃ u' v' i' b' d' p', e = .returned (.tuple #[.agg #[u', v', i', b', d', p', .int .i64 m.nx], .int .i64 0]) ∧ MO w' (fun k => w.heap.size ≤ k) u' v' i' b' d' p' m ∧ Below w.heap.size w w' := by
  have H := hide h
  have HG := hide hB
  have HP := hide hv
  have HL := hide hl
  have HN := hide hn
  have HW := hide hw
  obtain ⟨a1, c1, a2, c2, a3, c3, a4, c4, a5, c5, a6, c6, rfl, rfl, rfl, rfl, rfl, rfl⟩ := h.form
  obtain ⟨pa, pc, rfl⟩ := hv.form
  clear h hB hv hl hn hw
  have HC : Hid (∀ W, Below (((w.alloc (.cells #[.slice a1 m.xs.length c1, .slice a2 m.ys.length c2, .slice a3 m.is.length c3, .slice a4 m.bs.length c4, .slice a5 m.fs.length c5, .slice a6 m.ds.length c6, .int .i64 m.nx] 44)).alloc (.cells #[.int .i64 id, .int .i64 kd, .int .i64 io, .int .i64 pt, .int .i64 bk, .int .i64 sl, .string nm, .bool bt, .bool ot, .int .i64 af, .slice pa bl.length pc] 48)).alloc (.cells noM 44)).heap.size (((w.alloc (.cells #[.slice a1 m.xs.length c1, .slice a2 m.ys.length c2, .slice a3 m.is.length c3, .slice a4 m.bs.length c4, .slice a5 m.fs.length c5, .slice a6 m.ds.length c6, .int .i64 m.nx] 44)).alloc (.cells #[.int .i64 id, .int .i64 kd, .int .i64 io, .int .i64 pt, .int .i64 bk, .int .i64 sl, .string nm, .bool bt, .bool ot, .int .i64 af, .slice pa bl.length pc] 48)).alloc (.cells noM 44)) W → AtC W w.heap.size 44 #[.slice a1 m.xs.length c1, .slice a2 m.ys.length c2, .slice a3 m.is.length c3, .slice a4 m.bs.length c4, .slice a5 m.fs.length c5, .slice a6 m.ds.length c6, .int .i64 m.nx] ∧ AtC W (w.heap.size + 1) 48 #[.int .i64 id, .int .i64 kd, .int .i64 io, .int .i64 pt, .int .i64 bk, .int .i64 sl, .string nm, .bool bt, .bool ot, .int .i64 af, .slice pa bl.length pc] ∧ AtC W (w.heap.size + 1 + 1) 44 noM ∧ Below w.heap.size w W ∧ w.heap.size + 1 + 1 + 1 ≤ W.heap.size) := fun W b2 => by
    have k1 := (AtC.new ((w.alloc (.cells #[.slice a1 m.xs.length c1, .slice a2 m.ys.length c2, .slice a3 m.is.length c3, .slice a4 m.bs.length c4, .slice a5 m.fs.length c5, .slice a6 m.ds.length c6, .int .i64 m.nx] 44)).alloc (.cells #[.int .i64 id, .int .i64 kd, .int .i64 io, .int .i64 pt, .int .i64 bk, .int .i64 sl, .string nm, .bool bt, .bool ot, .int .i64 af, .slice pa bl.length pc] 48)) 44 noM).over b2
    have k2 := ((AtC.new (w.alloc (.cells #[.slice a1 m.xs.length c1, .slice a2 m.ys.length c2, .slice a3 m.is.length c3, .slice a4 m.bs.length c4, .slice a5 m.fs.length c5, .slice a6 m.ds.length c6, .int .i64 m.nx] 44)) 48 #[.int .i64 id, .int .i64 kd, .int .i64 io, .int .i64 pt, .int .i64 bk, .int .i64 sl, .string nm, .bool bt, .bool ot, .int .i64 af, .slice pa bl.length pc]).alloc (.cells noM 44)).over b2
    have sz := b2.size
    simp at k1 k2 sz
    exact ⟨(((AtC.new w 44 _).alloc _).alloc _).over b2, k2, k1, ((((Below.refl _ w).alloc (Nat.le_refl _) _).alloc (by simp) _).alloc (by simp; omega) _).trans (b2.mono (by simp; omega)), sz⟩
  have hf1 : ¬ ((40 : Int) ≤ (m.ds.length : Int)) := by omega
  have hx1 : ¬ (m.nx < 1) := Int.not_lt.mpr hx
  have hy1 : 100000 ≤ m.nx := hy
  clear hy
  clear hx
  have KM : AtC (((w.alloc (.cells #[.slice a1 m.xs.length c1, .slice a2 m.ys.length c2, .slice a3 m.is.length c3, .slice a4 m.bs.length c4, .slice a5 m.fs.length c5, .slice a6 m.ds.length c6, .int .i64 m.nx] 44)).alloc (.cells #[.int .i64 id, .int .i64 kd, .int .i64 io, .int .i64 pt, .int .i64 bk, .int .i64 sl, .string nm, .bool bt, .bool ot, .int .i64 af, .slice pa bl.length pc] 48)).alloc (.cells noM 44)) w.heap.size 44 #[.slice a1 m.xs.length c1, .slice a2 m.ys.length c2, .slice a3 m.is.length c3, .slice a4 m.bs.length c4, .slice a5 m.fs.length c5, .slice a6 m.ds.length c6, .int .i64 m.nx] := ((AtC.new w 44 _).alloc _).alloc _
  have RM := hide (room_high _ (KM.cell 5) (KM.cell 6) hf (by omega) hy1)
  clear KM
  go_enter Tryz.func9, Tryz.ntmps9
  go_wp2_with fail
  refine RM.out.mono ?_
  rintro e w1 ⟨rfl, rfl⟩
  go_wp2_with fail
  refine (newMem_any _ _ _ _ _ _ m _ (H.out.below (HC.out _ (Below.refl _ _)).2.2.2.1 (Nat.le_refl _)) HG.out HW.out).mono ?_
  rintro e w2 ⟨u1, u2, u3, u4, u5, u6, rfl, O2, B2⟩
  obtain ⟨b1, d1, b2, d2, b3, d3, b4, d4, b5, d5, b6, d6, rfl, rfl, rfl, rfl, rfl, rfl⟩ := O2.mr.form
  obtain ⟨-, -, q3, q5, q6⟩ := HC.out w2 B2
  have O3 := (O2.mono (S' := fun k => w.heap.size + 1 + 1 + 1 ≤ k) (fun k hk => by simp at hk; omega))
  have r0 : w2.cell? ⟨(w.heap.size + 1 + 1), 0, none⟩ = some (.slice none 0 0) := q3.cell 0
  have r1 : w2.cell? ⟨(w.heap.size + 1 + 1), 1, none⟩ = some (.slice none 0 0) := q3.cell 1
  have r2 : w2.cell? ⟨(w.heap.size + 1 + 1), 2, none⟩ = some (.slice none 0 0) := q3.cell 2
  have r3 : w2.cell? ⟨(w.heap.size + 1 + 1), 3, none⟩ = some (.slice none 0 0) := q3.cell 3
  have r4 : w2.cell? ⟨(w.heap.size + 1 + 1), 4, none⟩ = some (.slice none 0 0) := q3.cell 4
  have r5 : w2.cell? ⟨(w.heap.size + 1 + 1), 5, none⟩ = some (.slice none 0 0) := q3.cell 5
  have r6 : w2.cell? ⟨(w.heap.size + 1 + 1), 6, none⟩ = some (.int .i64 0) := q3.cell 6
  have v0 := q3.frozen 0
  have v1 := q3.frozen 1
  have v2 := q3.frozen 2
  have v3 := q3.frozen 3
  have v4 := q3.frozen 4
  have v5 := q3.frozen 5
  have v6 := q3.frozen 6
  have HM : Hid (MO (((((((w2.setCell ⟨(w.heap.size + 1 + 1), 0, none⟩ (.slice b1 m.xs.length d1)).setCell ⟨(w.heap.size + 1 + 1), 1, none⟩ (.slice b2 m.ys.length d2)).setCell ⟨(w.heap.size + 1 + 1), 2, none⟩ (.slice b3 m.is.length d3)).setCell ⟨(w.heap.size + 1 + 1), 3, none⟩ (.slice b4 m.bs.length d4)).setCell ⟨(w.heap.size + 1 + 1), 4, none⟩ (.slice b5 m.fs.length d5)).setCell ⟨(w.heap.size + 1 + 1), 5, none⟩ (.slice b6 m.ds.length d6)).setCell ⟨(w.heap.size + 1 + 1), 6, none⟩ (.int .i64 m.nx)) (fun k => w.heap.size ≤ k) (.slice b1 m.xs.length d1) (.slice b2 m.ys.length d2) (.slice b3 m.is.length d3) (.slice b4 m.bs.length d4) (.slice b5 m.fs.length d5) (.slice b6 m.ds.length d6) m ∧ Below w.heap.size w (((((((w2.setCell ⟨(w.heap.size + 1 + 1), 0, none⟩ (.slice b1 m.xs.length d1)).setCell ⟨(w.heap.size + 1 + 1), 1, none⟩ (.slice b2 m.ys.length d2)).setCell ⟨(w.heap.size + 1 + 1), 2, none⟩ (.slice b3 m.is.length d3)).setCell ⟨(w.heap.size + 1 + 1), 3, none⟩ (.slice b4 m.bs.length d4)).setCell ⟨(w.heap.size + 1 + 1), 4, none⟩ (.slice b5 m.fs.length d5)).setCell ⟨(w.heap.size + 1 + 1), 5, none⟩ (.slice b6 m.ds.length d6)).setCell ⟨(w.heap.size + 1 + 1), 6, none⟩ (.int .i64 m.nx))) := by
    exact ⟨(O3.of_heap fun k hk _ => ((((((heap_setCell_other _ ⟨(w.heap.size + 1 + 1), 6, none⟩ k _ (by show k ≠ (w.heap.size + 1 + 1); omega)).trans (heap_setCell_other _ ⟨(w.heap.size + 1 + 1), 5, none⟩ k _ (by show k ≠ (w.heap.size + 1 + 1); omega))).trans (heap_setCell_other _ ⟨(w.heap.size + 1 + 1), 4, none⟩ k _ (by show k ≠ (w.heap.size + 1 + 1); omega))).trans (heap_setCell_other _ ⟨(w.heap.size + 1 + 1), 3, none⟩ k _ (by show k ≠ (w.heap.size + 1 + 1); omega))).trans (heap_setCell_other _ ⟨(w.heap.size + 1 + 1), 2, none⟩ k _ (by show k ≠ (w.heap.size + 1 + 1); omega))).trans (heap_setCell_other _ ⟨(w.heap.size + 1 + 1), 1, none⟩ k _ (by show k ≠ (w.heap.size + 1 + 1); omega))).trans (heap_setCell_other _ ⟨(w.heap.size + 1 + 1), 0, none⟩ k _ (by show k ≠ (w.heap.size + 1 + 1); omega))).mono fun k hk => by omega, (((((((q5).setCell (by show w.heap.size ≤ w.heap.size + 1 + 1; omega) _).setCell (by show w.heap.size ≤ w.heap.size + 1 + 1; omega) _).setCell (by show w.heap.size ≤ w.heap.size + 1 + 1; omega) _).setCell (by show w.heap.size ≤ w.heap.size + 1 + 1; omega) _).setCell (by show w.heap.size ≤ w.heap.size + 1 + 1; omega) _).setCell (by show w.heap.size ≤ w.heap.size + 1 + 1; omega) _).setCell (by show w.heap.size ≤ w.heap.size + 1 + 1; omega) _⟩
  clear q3 q5 q6 O2 O3 B2 HC
  go_wp2
  refine bodyPost_ret (v := .tuple #[.agg #[.slice b1 m.xs.length d1, .slice b2 m.ys.length d2, .slice b3 m.is.length d3, .slice b4 m.bs.length d4, .slice b5 m.fs.length d5, .slice b6 m.ds.length d6, .int .i64 m.nx], .int .i64 0]) (by simp [results, go_sem, r0, r1, r2, r3, r4, r5, r6]) rfl ⟨_, _, _, _, _, _, rfl, HM.out.1, HM.out.2⟩
set_option maxRecDepth 100000 in
set_option maxHeartbeats 3200000 in
theorem putI_yes (id kd io pt bk sl : Int) (nm : ByteArray) (bt ot : Bool) (af : Int) (bl : List Int) (p : Value) (u v iv bv dv pv : Value) (m : MD) (w : World) (h : MR w u v iv bv dv pv m) (hB : BigM 1048576 m) (hv : RInts w p bl) (hl : bl.length ≤ 1048576) (hn : nm.size ≤ 1048576) (hw : ∀ (j : Nat) (h : j < m.ds.length), (Lit.int .i64 m.ds[j].id).wf = true) (hf : m.ds.length < 40) (hx : 1 ≤ m.nx) (hy : m.nx < 100000) (hnw : (Lit.int .i64 m.nx).wf = true) :
    Calls Tryz.prog 9 #[.agg #[u, v, iv, bv, dv, pv, .int .i64 m.nx], .agg #[.int .i64 id, .int .i64 kd, .int .i64 io, .int .i64 pt, .int .i64 bk, .int .i64 sl, .string nm, .bool bt, .bool ot, .int .i64 af, p]] w fun e w' => ∃ u' v' i' b' d' p', e = .returned (.tuple #[.agg #[u', v', i', b', d', p', .int .i64 (m.nx + 1)], .int .i64 m.nx]) ∧ MO w' (fun k => w.heap.size ≤ k) u' v' i' b' d' p' ({ m with ds := m.ds ++ [(⟨m.nx, kd, io, pt, bk, sl, nm, bt, ot, af, bl⟩ : Dp)], nx := m.nx + 1 } : MD) ∧ Below w.heap.size w w' := by
  have H := hide h
  have HG := hide hB
  have HP := hide hv
  have HL := hide hl
  have HN := hide hn
  have HW := hide hw
  obtain ⟨a1, c1, a2, c2, a3, c3, a4, c4, a5, c5, a6, c6, rfl, rfl, rfl, rfl, rfl, rfl⟩ := h.form
  obtain ⟨pa, pc, rfl⟩ := hv.form
  clear h hB hv hl hn hw
  have HC : Hid (∀ W, Below (((w.alloc (.cells #[.slice a1 m.xs.length c1, .slice a2 m.ys.length c2, .slice a3 m.is.length c3, .slice a4 m.bs.length c4, .slice a5 m.fs.length c5, .slice a6 m.ds.length c6, .int .i64 m.nx] 44)).alloc (.cells #[.int .i64 m.nx, .int .i64 kd, .int .i64 io, .int .i64 pt, .int .i64 bk, .int .i64 sl, .string nm, .bool bt, .bool ot, .int .i64 af, .slice pa bl.length pc] 48)).alloc (.cells noM 44)).heap.size (((w.alloc (.cells #[.slice a1 m.xs.length c1, .slice a2 m.ys.length c2, .slice a3 m.is.length c3, .slice a4 m.bs.length c4, .slice a5 m.fs.length c5, .slice a6 m.ds.length c6, .int .i64 m.nx] 44)).alloc (.cells #[.int .i64 m.nx, .int .i64 kd, .int .i64 io, .int .i64 pt, .int .i64 bk, .int .i64 sl, .string nm, .bool bt, .bool ot, .int .i64 af, .slice pa bl.length pc] 48)).alloc (.cells noM 44)) W → AtC W w.heap.size 44 #[.slice a1 m.xs.length c1, .slice a2 m.ys.length c2, .slice a3 m.is.length c3, .slice a4 m.bs.length c4, .slice a5 m.fs.length c5, .slice a6 m.ds.length c6, .int .i64 m.nx] ∧ AtC W (w.heap.size + 1) 48 #[.int .i64 m.nx, .int .i64 kd, .int .i64 io, .int .i64 pt, .int .i64 bk, .int .i64 sl, .string nm, .bool bt, .bool ot, .int .i64 af, .slice pa bl.length pc] ∧ AtC W (w.heap.size + 1 + 1) 44 noM ∧ Below w.heap.size w W ∧ w.heap.size + 1 + 1 + 1 ≤ W.heap.size) := fun W b2 => by
    have k1 := (AtC.new ((w.alloc (.cells #[.slice a1 m.xs.length c1, .slice a2 m.ys.length c2, .slice a3 m.is.length c3, .slice a4 m.bs.length c4, .slice a5 m.fs.length c5, .slice a6 m.ds.length c6, .int .i64 m.nx] 44)).alloc (.cells #[.int .i64 m.nx, .int .i64 kd, .int .i64 io, .int .i64 pt, .int .i64 bk, .int .i64 sl, .string nm, .bool bt, .bool ot, .int .i64 af, .slice pa bl.length pc] 48)) 44 noM).over b2
    have k2 := ((AtC.new (w.alloc (.cells #[.slice a1 m.xs.length c1, .slice a2 m.ys.length c2, .slice a3 m.is.length c3, .slice a4 m.bs.length c4, .slice a5 m.fs.length c5, .slice a6 m.ds.length c6, .int .i64 m.nx] 44)) 48 #[.int .i64 m.nx, .int .i64 kd, .int .i64 io, .int .i64 pt, .int .i64 bk, .int .i64 sl, .string nm, .bool bt, .bool ot, .int .i64 af, .slice pa bl.length pc]).alloc (.cells noM 44)).over b2
    have sz := b2.size
    simp at k1 k2 sz
    exact ⟨(((AtC.new w 44 _).alloc _).alloc _).over b2, k2, k1, ((((Below.refl _ w).alloc (Nat.le_refl _) _).alloc (by simp) _).alloc (by simp; omega) _).trans (b2.mono (by simp; omega)), sz⟩
  have HNW := hide hnw
  clear hnw
  have hf1 : ¬ ((40 : Int) ≤ (m.ds.length : Int)) := by omega
  have hx1 : ¬ (m.nx < 1) := by omega
  have hy1 : ¬ (100000 ≤ m.nx) := by omega
  obtain ⟨W4, hW4⟩ : ∃ W4, (((w.alloc (.cells #[.slice a1 m.xs.length c1, .slice a2 m.ys.length c2, .slice a3 m.is.length c3, .slice a4 m.bs.length c4, .slice a5 m.fs.length c5, .slice a6 m.ds.length c6, .int .i64 m.nx] 44)).alloc (.cells #[.int .i64 m.nx, .int .i64 kd, .int .i64 io, .int .i64 pt, .int .i64 bk, .int .i64 sl, .string nm, .bool bt, .bool ot, .int .i64 af, .slice pa bl.length pc] 48)).alloc (.cells noM 44)) = W4 := ⟨_, rfl⟩
  have H4 : Hid (AtC W4 w.heap.size 44 #[.slice a1 m.xs.length c1, .slice a2 m.ys.length c2, .slice a3 m.is.length c3, .slice a4 m.bs.length c4, .slice a5 m.fs.length c5, .slice a6 m.ds.length c6, .int .i64 m.nx] ∧ AtC W4 (w.heap.size + 1) 48 #[.int .i64 m.nx, .int .i64 kd, .int .i64 io, .int .i64 pt, .int .i64 bk, .int .i64 sl, .string nm, .bool bt, .bool ot, .int .i64 af, .slice pa bl.length pc] ∧ AtC W4 (w.heap.size + 1 + 1) 44 noM ∧ Below w.heap.size w W4 ∧ w.heap.size + 1 + 1 + 1 ≤ W4.heap.size) := by
    obtain ⟨k1, k2, k3, k4, k5⟩ := HC.out _ (Below.refl _ _)
    rw [← hW4]
    exact ⟨k1, k2, k3, k4, k5⟩
  have g1 := H4.out.1
  have x0 : W4.cell? ⟨w.heap.size, 0, none⟩ = some (.slice a1 m.xs.length c1) := g1.cell 0
  have x1 : W4.cell? ⟨w.heap.size, 1, none⟩ = some (.slice a2 m.ys.length c2) := g1.cell 1
  have x2 : W4.cell? ⟨w.heap.size, 2, none⟩ = some (.slice a3 m.is.length c3) := g1.cell 2
  have x3 : W4.cell? ⟨w.heap.size, 3, none⟩ = some (.slice a4 m.bs.length c4) := g1.cell 3
  have x4 : W4.cell? ⟨w.heap.size, 4, none⟩ = some (.slice a5 m.fs.length c5) := g1.cell 4
  have x5 : W4.cell? ⟨w.heap.size, 5, none⟩ = some (.slice a6 m.ds.length c6) := g1.cell 5
  have x6 : W4.cell? ⟨w.heap.size, 6, none⟩ = some (.int .i64 m.nx) := g1.cell 6
  clear g1
  have KM : AtC (((w.alloc (.cells #[.slice a1 m.xs.length c1, .slice a2 m.ys.length c2, .slice a3 m.is.length c3, .slice a4 m.bs.length c4, .slice a5 m.fs.length c5, .slice a6 m.ds.length c6, .int .i64 m.nx] 44)).alloc (.cells #[.int .i64 id, .int .i64 kd, .int .i64 io, .int .i64 pt, .int .i64 bk, .int .i64 sl, .string nm, .bool bt, .bool ot, .int .i64 af, .slice pa bl.length pc] 48)).alloc (.cells noM 44)) w.heap.size 44 #[.slice a1 m.xs.length c1, .slice a2 m.ys.length c2, .slice a3 m.is.length c3, .slice a4 m.bs.length c4, .slice a5 m.fs.length c5, .slice a6 m.ds.length c6, .int .i64 m.nx] := ((AtC.new w 44 _).alloc _).alloc _
  have RM := hide (room_yes _ (KM.cell 5) (KM.cell 6) hf (by omega) (by omega))
  clear KM
  go_enter Tryz.func9, Tryz.ntmps9
  go_wp2_with fail
  refine RM.out.mono ?_
  rintro e w1 ⟨rfl, rfl⟩
  go_wp2_with fail
  have hW5 := hW4
  unfold noM at hW5
  try rw [hW5]
  clear hW5
  refine (leanersOf_any _ m.ds W4 ((H.out.p.below H4.out.2.2.2.1 (Nat.le_refl _))) HG.out.l HG.out.b HG.out.t HW.out).mono ?_
  rintro e w5 ⟨B, E, ps, rfl, O5, F5, G5, B5⟩
  have H5 := hide (And.intro O5 (And.intro F5 (And.intro G5 B5)))
  have g1 := H4.out.1.over B5
  have g2 := H4.out.2.1.over B5
  clear x0 x1 x2 x3 x4 x5 x6
  have x0 : w5.cell? ⟨w.heap.size, 0, none⟩ = some (.slice a1 m.xs.length c1) := g1.cell 0
  have x1 : w5.cell? ⟨w.heap.size, 1, none⟩ = some (.slice a2 m.ys.length c2) := g1.cell 1
  have x2 : w5.cell? ⟨w.heap.size, 2, none⟩ = some (.slice a3 m.is.length c3) := g1.cell 2
  have x3 : w5.cell? ⟨w.heap.size, 3, none⟩ = some (.slice a4 m.bs.length c4) := g1.cell 3
  have x4 : w5.cell? ⟨w.heap.size, 4, none⟩ = some (.slice a5 m.fs.length c5) := g1.cell 4
  have x5 : w5.cell? ⟨w.heap.size, 5, none⟩ = some (.slice a6 m.ds.length c6) := g1.cell 5
  have x6 : w5.cell? ⟨w.heap.size, 6, none⟩ = some (.int .i64 m.nx) := g1.cell 6
  have dd0 : w5.cell? ⟨(w.heap.size + 1), 0, none⟩ = some (.int .i64 m.nx) := g2.cell 0
  have dd1 : w5.cell? ⟨(w.heap.size + 1), 1, none⟩ = some (.int .i64 kd) := g2.cell 1
  have dd2 : w5.cell? ⟨(w.heap.size + 1), 2, none⟩ = some (.int .i64 io) := g2.cell 2
  have dd3 : w5.cell? ⟨(w.heap.size + 1), 3, none⟩ = some (.int .i64 pt) := g2.cell 3
  have dd4 : w5.cell? ⟨(w.heap.size + 1), 4, none⟩ = some (.int .i64 bk) := g2.cell 4
  have dd5 : w5.cell? ⟨(w.heap.size + 1), 5, none⟩ = some (.int .i64 sl) := g2.cell 5
  have dd6 : w5.cell? ⟨(w.heap.size + 1), 6, none⟩ = some (.string nm) := g2.cell 6
  have dd7 : w5.cell? ⟨(w.heap.size + 1), 7, none⟩ = some (.bool bt) := g2.cell 7
  have dd8 : w5.cell? ⟨(w.heap.size + 1), 8, none⟩ = some (.bool ot) := g2.cell 8
  have dd9 : w5.cell? ⟨(w.heap.size + 1), 9, none⟩ = some (.int .i64 af) := g2.cell 9
  have dd10 : w5.cell? ⟨(w.heap.size + 1), 10, none⟩ = some (.slice pa bl.length pc) := g2.cell 10
  clear g1 g2 O5 F5 G5 B5 hW4
  go_wp2_with fail
  refine (put_any W4.heap.size B E ps m.ds.length m.nx kd io pt bk sl nm bt ot af bl _ w5 H5.out.1 (HP.out.below (H4.out.2.2.2.1.trans (H5.out.2.2.2.mono H4.out.2.2.2.1.size)) (Nat.le_refl _)) HL.out HN.out HNW.out (by have q := congrArg List.length H5.out.2.1; rw [List.length_map] at q; omega) H5.out.2.2.2.size).mono ?_
  rintro e w6 ⟨rfl, g, uu, O6, G6⟩
  have H6 : Hid (LE Tryz.prog w6 W4.heap.size B (E ++ [(⟨m.ds.length, (⟨m.nx, kd, io, pt, bk, sl, nm, bt, ot, af, bl⟩ : Dp), g⟩ : Ln)]) (ps ++ [uu]) ∧ (E ++ [(⟨m.ds.length, (⟨m.nx, kd, io, pt, bk, sl, nm, bt, ot, af, bl⟩ : Dp), g⟩ : Ln)]).map (·.d) = m.ds ++ [(⟨m.nx, kd, io, pt, bk, sl, nm, bt, ot, af, bl⟩ : Dp)] ∧ (∀ i j : Fin (E ++ [(⟨m.ds.length, (⟨m.nx, kd, io, pt, bk, sl, nm, bt, ot, af, bl⟩ : Dp), g⟩ : Ln)]).length, i < j → (E ++ [(⟨m.ds.length, (⟨m.nx, kd, io, pt, bk, sl, nm, bt, ot, af, bl⟩ : Dp), g⟩ : Ln)])[i].pl < (E ++ [(⟨m.ds.length, (⟨m.nx, kd, io, pt, bk, sl, nm, bt, ot, af, bl⟩ : Dp), g⟩ : Ln)])[j].pl) ∧ (E ++ [(⟨m.ds.length, (⟨m.nx, kd, io, pt, bk, sl, nm, bt, ot, af, bl⟩ : Dp), g⟩ : Ln)]).length ≤ 1048576 ∧ Below W4.heap.size W4 w6) := by
    obtain ⟨O5, F5, G5, B5⟩ := H5.out
    have q := congrArg List.length F5
    rw [List.length_map] at q
    refine ⟨O6, by rw [List.map_append, F5]; rfl, asc fun j hj => ?_, by rw [List.length_append]; show E.length + 1 ≤ _; omega, B5.grown G6 B5.size (fun k hk => by cases hk; exact O5.loB)⟩
    by_cases e : j < E.length
    · rw [List.getElem_append_left e]; exact G5 j e
    · have e2 : j = E.length := by simp at hj; omega
      subst e2
      simp [q]
  have g1 := H4.out.1.over H6.out.2.2.2.2
  clear x0 x1 x2 x3 x4 x5 x6 dd0 dd1 dd2 dd3 dd4 dd5 dd6 dd7 dd8 dd9 dd10
  have x0 : w6.cell? ⟨w.heap.size, 0, none⟩ = some (.slice a1 m.xs.length c1) := g1.cell 0
  have x1 : w6.cell? ⟨w.heap.size, 1, none⟩ = some (.slice a2 m.ys.length c2) := g1.cell 1
  have x2 : w6.cell? ⟨w.heap.size, 2, none⟩ = some (.slice a3 m.is.length c3) := g1.cell 2
  have x3 : w6.cell? ⟨w.heap.size, 3, none⟩ = some (.slice a4 m.bs.length c4) := g1.cell 3
  have x4 : w6.cell? ⟨w.heap.size, 4, none⟩ = some (.slice a5 m.fs.length c5) := g1.cell 4
  have x5 : w6.cell? ⟨w.heap.size, 5, none⟩ = some (.slice a6 m.ds.length c6) := g1.cell 5
  have x6 : w6.cell? ⟨w.heap.size, 6, none⟩ = some (.int .i64 m.nx) := g1.cell 6
  clear g1 O6 G6 H5
  go_wp2_with fail
  refine (memWith_any W4.heap.size B _ (ps ++ [uu]) _ _ _ _ _ _ m w6 (H.out.below (H4.out.2.2.2.1.trans (H6.out.2.2.2.2.mono H4.out.2.2.2.1.size)) (Nat.le_refl _)) HG.out H6.out.1 H6.out.2.2.1 H6.out.2.2.2.1 H6.out.2.2.2.2.size).mono ?_
  rintro e w7 ⟨u1, u2, u3, u4, u5, u6, rfl, O7, B7⟩
  rw [H6.out.2.1] at O7
  obtain ⟨b1, d1, b2, d2, b3, d3, b4, d4, b5, d5, b6, d6, rfl, rfl, rfl, rfl, rfl, rfl⟩ := O7.mr.form
  generalize hLL : ({ m with ds := m.ds ++ [(⟨m.nx, kd, io, pt, bk, sl, nm, bt, ot, af, bl⟩ : Dp)] } : MD).ds.length = LL at *
  obtain ⟨W8, hW8⟩ : ∃ W8, (w7.alloc (.cells #[.slice b1 m.xs.length d1, .slice b2 m.ys.length d2, .slice b3 m.is.length d3, .slice b4 m.bs.length d4, .slice b5 m.fs.length d5, .slice b6 LL d6, .int .i64 m.nx] 44)) = W8 := ⟨_, rfl⟩
  obtain ⟨W14, hW14⟩ : ∃ W14, W8.setCell ⟨w7.heap.size, 6, none⟩ (.int .i64 (m.nx + 1)) = W14 := ⟨_, rfl⟩
  have HF : Hid (AtC W8 w7.heap.size 44 #[.slice b1 m.xs.length d1, .slice b2 m.ys.length d2, .slice b3 m.is.length d3, .slice b4 m.bs.length d4, .slice b5 m.fs.length d5, .slice b6 LL d6, .int .i64 m.nx] ∧ AtC W14 (w.heap.size + 1) 48 #[.int .i64 m.nx, .int .i64 kd, .int .i64 io, .int .i64 pt, .int .i64 bk, .int .i64 sl, .string nm, .bool bt, .bool ot, .int .i64 af, .slice pa bl.length pc] ∧ AtC W14 (w.heap.size + 1 + 1) 44 noM ∧ AtC W14 w7.heap.size 44 #[.slice b1 m.xs.length d1, .slice b2 m.ys.length d2, .slice b3 m.is.length d3, .slice b4 m.bs.length d4, .slice b5 m.fs.length d5, .slice b6 LL d6, .int .i64 (m.nx + 1)] ∧ MO W14 (fun k => w.heap.size + 1 + 1 + 1 ≤ k ∧ k ≠ w7.heap.size) (.slice b1 m.xs.length d1) (.slice b2 m.ys.length d2) (.slice b3 m.is.length d3) (.slice b4 m.bs.length d4) (.slice b5 m.fs.length d5) (.slice b6 LL d6) ({ m with ds := m.ds ++ [(⟨m.nx, kd, io, pt, bk, sl, nm, bt, ot, af, bl⟩ : Dp)], nx := m.nx + 1 } : MD) ∧ Below w.heap.size w W14 ∧ w.heap.size + 1 + 1 + 1 ≤ w7.heap.size) := by
    obtain ⟨k1, k2, k3, k4, k5⟩ := H4.out
    have B47 := H6.out.2.2.2.2.trans (B7.mono H6.out.2.2.2.2.size)
    have hs7 := B47.size
    have K8 : AtC W8 w7.heap.size 44 #[.slice b1 m.xs.length d1, .slice b2 m.ys.length d2, .slice b3 m.is.length d3, .slice b4 m.bs.length d4, .slice b5 m.fs.length d5, .slice b6 LL d6, .int .i64 m.nx] := by rw [← hW8]; exact AtC.new w7 44 _
    have B48 : Below W4.heap.size W4 W8 := by rw [← hW8]; exact B47.alloc B47.size _
    have O8 := (O7.mono (S' := fun k => w.heap.size + 1 + 1 + 1 ≤ k) (fun k hk => by omega)).bound
    have K14 : AtC (W8.setCell ⟨w7.heap.size, 6, none⟩ (.int .i64 (m.nx + 1))) w7.heap.size 44 #[.slice b1 m.xs.length d1, .slice b2 m.ys.length d2, .slice b3 m.is.length d3, .slice b4 m.bs.length d4, .slice b5 m.fs.length d5, .slice b6 LL d6, .int .i64 (m.nx + 1)] := K8.set 6 _
    have M8 : MO W8 (fun k => w.heap.size + 1 + 1 + 1 ≤ k ∧ k < w7.heap.size) (.slice b1 m.xs.length d1) (.slice b2 m.ys.length d2) (.slice b3 m.is.length d3) (.slice b4 m.bs.length d4) (.slice b5 m.fs.length d5) (.slice b6 LL d6) { m with ds := m.ds ++ [(⟨m.nx, kd, io, pt, bk, sl, nm, bt, ot, af, bl⟩ : Dp)] } := by rw [← hW8]; exact O8.alloc _
    have M9 : MO W8 (fun k => w.heap.size + 1 + 1 + 1 ≤ k ∧ k < w7.heap.size) (.slice b1 m.xs.length d1) (.slice b2 m.ys.length d2) (.slice b3 m.is.length d3) (.slice b4 m.bs.length d4) (.slice b5 m.fs.length d5) (.slice b6 LL d6) ({ m with ds := m.ds ++ [(⟨m.nx, kd, io, pt, bk, sl, nm, bt, ot, af, bl⟩ : Dp)], nx := m.nx + 1 } : MD) := M8
    rw [← hW14]
    refine ⟨K8, (k2.over B48).other (by omega) _, (k3.over B48).other (by omega) _, K14, (M9.of_heap fun k hk _ => heap_setCell_other _ ⟨w7.heap.size, 6, none⟩ k _ (by show k ≠ w7.heap.size; omega)).mono fun k hk => by omega, (k4.trans (B48.mono k4.size)).setCell (by show w.heap.size ≤ w7.heap.size; omega) _, by omega⟩
  have g8 := HF.out.1
  have g8a : W8.cell? ⟨w7.heap.size, 6, none⟩ = some (.int .i64 m.nx) := g8.cell 6
  have g8b := g8.frozen 6
  have j2 := HF.out.2.1
  have j3 := HF.out.2.2.1
  have j4 := HF.out.2.2.2.1
  have i0 : W14.cell? ⟨w.heap.size + 1, 0, none⟩ = some (.int .i64 m.nx) := j2.cell 0
  have y0 : W14.cell? ⟨w7.heap.size, 0, none⟩ = some (.slice b1 m.xs.length d1) := j4.cell 0
  have y1 : W14.cell? ⟨w7.heap.size, 1, none⟩ = some (.slice b2 m.ys.length d2) := j4.cell 1
  have y2 : W14.cell? ⟨w7.heap.size, 2, none⟩ = some (.slice b3 m.is.length d3) := j4.cell 2
  have y3 : W14.cell? ⟨w7.heap.size, 3, none⟩ = some (.slice b4 m.bs.length d4) := j4.cell 3
  have y4 : W14.cell? ⟨w7.heap.size, 4, none⟩ = some (.slice b5 m.fs.length d5) := j4.cell 4
  have y5 : W14.cell? ⟨w7.heap.size, 5, none⟩ = some (.slice b6 LL d6) := j4.cell 5
  have y6 : W14.cell? ⟨w7.heap.size, 6, none⟩ = some (.int .i64 (m.nx + 1)) := j4.cell 6
  have r0 : W14.cell? ⟨(w.heap.size + 1 + 1), 0, none⟩ = some (.slice none 0 0) := j3.cell 0
  have r1 : W14.cell? ⟨(w.heap.size + 1 + 1), 1, none⟩ = some (.slice none 0 0) := j3.cell 1
  have r2 : W14.cell? ⟨(w.heap.size + 1 + 1), 2, none⟩ = some (.slice none 0 0) := j3.cell 2
  have r3 : W14.cell? ⟨(w.heap.size + 1 + 1), 3, none⟩ = some (.slice none 0 0) := j3.cell 3
  have r4 : W14.cell? ⟨(w.heap.size + 1 + 1), 4, none⟩ = some (.slice none 0 0) := j3.cell 4
  have r5 : W14.cell? ⟨(w.heap.size + 1 + 1), 5, none⟩ = some (.slice none 0 0) := j3.cell 5
  have r6 : W14.cell? ⟨(w.heap.size + 1 + 1), 6, none⟩ = some (.int .i64 0) := j3.cell 6
  have v0 := j3.frozen 0
  have v1 := j3.frozen 1
  have v2 := j3.frozen 2
  have v3 := j3.frozen 3
  have v4 := j3.frozen 4
  have v5 := j3.frozen 5
  have v6 := j3.frozen 6
  have HM : Hid (MO ((((((((W14.setCell ⟨(w.heap.size + 1 + 1), 0, none⟩ (.slice b1 m.xs.length d1)).setCell ⟨(w.heap.size + 1 + 1), 1, none⟩ (.slice b2 m.ys.length d2)).setCell ⟨(w.heap.size + 1 + 1), 2, none⟩ (.slice b3 m.is.length d3)).setCell ⟨(w.heap.size + 1 + 1), 3, none⟩ (.slice b4 m.bs.length d4)).setCell ⟨(w.heap.size + 1 + 1), 4, none⟩ (.slice b5 m.fs.length d5)).setCell ⟨(w.heap.size + 1 + 1), 5, none⟩ (.slice b6 LL d6)).setCell ⟨(w.heap.size + 1 + 1), 6, none⟩ (.int .i64 (m.nx + 1)))).drew (fun k => w.heap.size ≤ k) (.slice b1 m.xs.length d1) (.slice b2 m.ys.length d2) (.slice b3 m.is.length d3) (.slice b4 m.bs.length d4) (.slice b5 m.fs.length d5) (.slice b6 LL d6) ({ m with ds := m.ds ++ [(⟨m.nx, kd, io, pt, bk, sl, nm, bt, ot, af, bl⟩ : Dp)], nx := m.nx + 1 } : MD) ∧ Below w.heap.size w ((((((((W14.setCell ⟨(w.heap.size + 1 + 1), 0, none⟩ (.slice b1 m.xs.length d1)).setCell ⟨(w.heap.size + 1 + 1), 1, none⟩ (.slice b2 m.ys.length d2)).setCell ⟨(w.heap.size + 1 + 1), 2, none⟩ (.slice b3 m.is.length d3)).setCell ⟨(w.heap.size + 1 + 1), 3, none⟩ (.slice b4 m.bs.length d4)).setCell ⟨(w.heap.size + 1 + 1), 4, none⟩ (.slice b5 m.fs.length d5)).setCell ⟨(w.heap.size + 1 + 1), 5, none⟩ (.slice b6 LL d6)).setCell ⟨(w.heap.size + 1 + 1), 6, none⟩ (.int .i64 (m.nx + 1)))).drew) := by
    have h3 := HF.out.2.2.2.2.2.2
    exact ⟨(((HF.out.2.2.2.2.1.of_heap fun k hk _ => ((((((heap_setCell_other _ ⟨(w.heap.size + 1 + 1), 6, none⟩ k _ (by show k ≠ (w.heap.size + 1 + 1); omega)).trans (heap_setCell_other _ ⟨(w.heap.size + 1 + 1), 5, none⟩ k _ (by show k ≠ (w.heap.size + 1 + 1); omega))).trans (heap_setCell_other _ ⟨(w.heap.size + 1 + 1), 4, none⟩ k _ (by show k ≠ (w.heap.size + 1 + 1); omega))).trans (heap_setCell_other _ ⟨(w.heap.size + 1 + 1), 3, none⟩ k _ (by show k ≠ (w.heap.size + 1 + 1); omega))).trans (heap_setCell_other _ ⟨(w.heap.size + 1 + 1), 2, none⟩ k _ (by show k ≠ (w.heap.size + 1 + 1); omega))).trans (heap_setCell_other _ ⟨(w.heap.size + 1 + 1), 1, none⟩ k _ (by show k ≠ (w.heap.size + 1 + 1); omega))).trans (heap_setCell_other _ ⟨(w.heap.size + 1 + 1), 0, none⟩ k _ (by show k ≠ (w.heap.size + 1 + 1); omega))).mono fun k hk => by omega).below (Below.refl _ _).drew (Nat.le_refl _)), ((((((((HF.out.2.2.2.2.2.1).setCell (by show w.heap.size ≤ w.heap.size + 1 + 1; omega) _).setCell (by show w.heap.size ≤ w.heap.size + 1 + 1; omega) _).setCell (by show w.heap.size ≤ w.heap.size + 1 + 1; omega) _).setCell (by show w.heap.size ≤ w.heap.size + 1 + 1; omega) _).setCell (by show w.heap.size ≤ w.heap.size + 1 + 1; omega) _).setCell (by show w.heap.size ≤ w.heap.size + 1 + 1; omega) _).setCell (by show w.heap.size ≤ w.heap.size + 1 + 1; omega) _).drew⟩
  clear j2 j3 j4 g8 HF H4 H6 O7 B7 hLL x0 x1 x2 x3 x4 x5 x6
  go_wp2_with fail
  go_region
  go_wp2
  refine bodyPost_ret (v := .tuple #[.agg #[.slice b1 m.xs.length d1, .slice b2 m.ys.length d2, .slice b3 m.is.length d3, .slice b4 m.bs.length d4, .slice b5 m.fs.length d5, .slice b6 LL d6, .int .i64 (m.nx + 1)], .int .i64 m.nx]) (by simp [results, go_sem, r0, r1, r2, r3, r4, r5, r6]) rfl ⟨_, _, _, _, _, _, rfl, HM.out.1, HM.out.2⟩
end Go.Proofs.YtaoachljojbnjaaGreat
/- A drawn region whose operations only read and make memory, ahead of others that may come in several orders: each way out is told by its lines. No Go function is spoken of. -/
namespace Go.Proofs.YtaoachljojbnjaaGreat.Kit
open Go.RowKit
/-- At each state of the makers some are ready, and no other operation is, but at the states that are listed. -/
def makersOk2 (md : Region.Mode) (ops : Array Oper) (js : List Nat) (exits : List (List Nat)) : Bool :=
  (subs js).all fun t => t == js || exits.contains t || !closedB md ops t || (!(Region.ready md ops (mask ops.size t)).isEmpty && (Region.ready md ops (mask ops.size t)).all fun i => js.contains i && !t.contains i)
/-- At a state each that is ready opens one of the lines. -/
def altOk (md : Region.Mode) (ops : Array Oper) (t : List Nat) (lines : List (List Nat)) : Bool :=
  (Region.ready md ops (mask ops.size t)).all (fun j => lines.any fun l => match l with | i :: r => i == j && (ops[i]?).isSome && lineOk md ops (i :: t) r | [] => false) && !(Region.ready md ops (mask ops.size t)).isEmpty
section
variable {P : Program} {ops : Array Oper} {Q : Exit → Act → World → Prop} {md : Region.Mode}
theorem wpAny_alts (t : List Nat) (lines : List (List Nat)) (fuel : Nat) (a : Act) (w : World) (h : altOk md ops t lines = true) (hl : ∀ l ∈ lines, l.length ≤ fuel) (hw : ∀ l ∈ lines, wpList P ops Q (l.filterMap fun i => ops[i]?) a w) : wpAny P md ops Q fuel (mask ops.size t) a w := by
  simp only [altOk, Bool.and_eq_true, List.all_eq_true, List.any_eq_true] at h
  obtain ⟨h1, h2⟩ := h
  cases fuel with
  | zero =>
    exfalso
    cases hr : Region.ready md ops (mask ops.size t) with
    | nil => rw [hr] at h2; simp at h2
    | cons j r =>
      obtain ⟨l, hl1, hl2⟩ := h1 j (by rw [hr]; simp)
      cases l with
      | nil => simp at hl2
      | cons i r => have := hl _ hl1; simp at this
  | succ fuel =>
    refine wpAny_all rfl (by intro e; rw [e] at h2; simp at h2) fun j hj => ?_
    obtain ⟨l, hl1, hl2⟩ := h1 j hj
    cases l with
    | nil => simp at hl2
    | cons i r =>
      simp only [Bool.and_eq_true, beq_iff_eq] at hl2
      obtain ⟨⟨rfl, h3⟩, h4⟩ := hl2
      obtain ⟨o, ho⟩ := Option.isSome_iff_exists.1 h3
      rw [mask_set]
      have hw' : wpList P ops Q (o :: r.filterMap fun i => ops[i]?) a w := by simpa [ho] using hw _ hl1
      refine wpOp_mono (fun a w hq => wpAny_line r (i :: t) fuel a w h4 (by have := hl _ hl1; simpa using this) hq) ?_
      unfold wpOp
      rw [ho]
      exact hw'
theorem wpAny_makers2 (js : List Nat) (exits : List (List Nat)) (fuel : Nat) (act : (Nat → Value) → Act) (Inv : List Nat → (Nat → Value) → World → Prop) (ok : makersOk2 md ops js exits = true)
    (prod : ∀ j ∈ js, ∀ s x W, j ∈ Region.ready md ops (mask ops.size s) → ¬ j ∈ s → Inv s x W → ∀ K : Act → World → Prop, (∀ v W', Inv (j :: s) (upd x j v) W' → K (act (upd x j v)) W') → wpOp P ops Q j K (act x) W)
    (rest : ∀ s x W f, fuel ≤ f → (∀ i ∈ js, i ∈ s) → Inv s x W → wpAny P md ops Q f (mask ops.size js) (act x) W)
    (out : ∀ t ∈ exits, ∀ s x W f, fuel + (js.filter fun i => !t.contains i).length ≤ f → (∀ i, i ∈ s ↔ i ∈ t) → Inv s x W → wpAny P md ops Q f (mask ops.size t) (act x) W) :
    ∀ (m f : Nat) (s : List Nat) (x : Nat → Value) (W : World), (js.filter fun i => !s.contains i).length ≤ m → fuel ≤ f → (∀ i ∈ s, i ∈ js) → (∀ i ∈ s, ∀ o, ops[i]? = some o → ∀ e ∈ o.after, Region.binds md e = true → e.on ∈ s) → Inv s x W → wpAny P md ops Q (f + m) (mask ops.size s) (act x) W := by
  intro m
  induction m with
  | zero =>
    intro f s x W hc hf hs hcl hv
    have hall : ∀ i ∈ js, i ∈ s := fun i hi => by
      by_cases h : i ∈ s
      · exact h
      · have : i ∈ js.filter fun i => !s.contains i := List.mem_filter.2 ⟨hi, by simpa using h⟩
        rw [List.eq_nil_of_length_eq_zero (Nat.le_zero.1 hc)] at this
        cases this
    rw [mask_congr ops.size s js fun i => ⟨hs i, hall i⟩]
    exact rest s x W (f + 0) (by omega) hall hv
  | succ m ih =>
    intro f s x W hc hf hs hcl hv
    by_cases hall : ∀ i ∈ js, i ∈ s
    · rw [mask_congr ops.size s js fun i => ⟨hs i, hall i⟩]
      exact rest s x W _ (by omega) hall hv
    · have hst : ∀ i, i ∈ s ↔ i ∈ js.filter fun i => s.contains i := fun i => ⟨fun h => List.mem_filter.2 ⟨hs i h, by simpa using h⟩, fun h => by simpa using (List.mem_filter.1 h).2⟩
      have hmask : mask ops.size s = mask ops.size (js.filter fun i => s.contains i) := mask_congr _ _ _ hst
      by_cases hex : (js.filter fun i => s.contains i) ∈ exits
      · rw [hmask]
        refine out _ hex s x W _ ?_ hst hv
        have e : (js.filter fun i => !(js.filter fun i => s.contains i).contains i) = js.filter fun i => !s.contains i := by
          apply List.filter_congr
          intro i hi
          by_cases e2 : i ∈ s <;> simp [hi, e2]
        rw [e]
        omega
      have hk := List.all_eq_true.1 ok _ (filter_subs (fun i => s.contains i) js)
      have hne : ((js.filter fun i => s.contains i) == js) = false := by
        apply Bool.eq_false_iff.2
        intro e
        rw [beq_iff_eq] at e
        exact hall fun i hi => by
          rw [← e] at hi
          simpa using (List.mem_filter.1 hi).2
      have hexf : exits.contains (js.filter fun i => s.contains i) = false := by
        apply Bool.eq_false_iff.2
        intro e
        exact hex (by simpa using e)
      have hclo : closedB md ops (js.filter fun i => s.contains i) = true := by
        refine List.all_eq_true.2 fun i hi => ?_
        have his : i ∈ s := by simpa using (List.mem_filter.1 hi).2
        cases ho : ops[i]? with
        | none => rfl
        | some o =>
          simp only
          refine Array.all_eq_true_iff_forall_mem.2 fun e he => ?_
          cases hbi : Region.binds md e with
          | false => rfl
          | true =>
            have := hcl i his o ho e he hbi
            simp [this, hs _ this]
      rw [hne, hexf, hclo, Bool.false_or, Bool.false_or, Bool.not_true, Bool.false_or, Bool.and_eq_true] at hk
      obtain ⟨h1, h2⟩ := hk
      rw [← hmask] at h1 h2
      refine wpAny_all rfl (by intro e; rw [e] at h1; simp at h1) fun j hj => ?_
      have hj2 := List.all_eq_true.1 h2 j hj
      simp only [Bool.and_eq_true, List.contains_iff_mem, Bool.not_eq_true'] at hj2
      have hjs : j ∈ js := by simpa using hj2.1
      have hjn : ¬ j ∈ s := fun h => by
        have : j ∈ js.filter fun i => s.contains i := List.mem_filter.2 ⟨hjs, by simpa using h⟩
        have h3 := hj2.2
        simp [hjs, h] at h3
      rw [mask_set]
      refine prod j hjs s x W hj hjn hv _ fun v W' hv' => ih f (j :: s) _ W' ?_ hf (fun i hi => (List.mem_cons.1 hi).elim (fun e => e ▸ hjs) (hs i)) (fun i hi o ho e he hbi => List.mem_cons_of_mem _ ((List.mem_cons.1 hi).elim (fun q => by subst q; exact ready_dep hj ho ⟨e, he, rfl, hbi⟩) (fun q => hcl i q o ho e he hbi))) hv'
      have hlt : (js.filter fun i => !(j :: s).contains i).length < (js.filter fun i => !s.contains i).length := by
        have e : (js.filter fun i => !(j :: s).contains i) = (js.filter fun i => !s.contains i).filter fun i => !(i == j) := by
          rw [List.filter_filter]
          apply List.filter_congr
          intro i _
          by_cases e1 : i = j <;> by_cases e2 : i ∈ s <;> simp [e1, e2]
        rw [e, List.length_filter_lt_length_iff_exists]
        exact ⟨j, List.mem_filter.2 ⟨hjs, by simpa using hjn⟩, by simp⟩
      omega
/-- The lines of each way out fit in what is left. -/
def altsOk (md : Region.Mode) (ops : Array Oper) (js line : List Nat) (alts : List (List Nat × List (List Nat))) : Bool :=
  alts.all fun q => altOk md ops q.1 q.2 && q.2.all fun l => decide (l.length ≤ line.length + (js.filter fun i => !q.1.contains i).length)
/-- The region, whatever order is drawn, with the frame written out, and ways out ahead of the end. -/
theorem wp_region_alt {id : Nat} {w : World} {a0 : Act} (hm : P.follows .mixedOrders = true) (js line : List Nat) (alts : List (List Nat × List (List Nat))) (L : Nat → Mk) (act : (Nat → Value) → Act) (x0 : Nat → Value) (ha : a0 = act x0)
    (ok : makersOk2 .any ops js (alts.map (·.1)) = true) (okl : lineOk .any ops js line = true) (oka : altsOk .any ops js line alts = true) (okd : depsOk ops js (fun i => (L i).deps) = true) (hsz : line.length + js.length = ops.size)
    (prod : ∀ j ∈ js, ∀ s x iv W, (∀ k ∈ (L j).deps, k ∈ s) → PX w.drew s (fun i lo hi w x => (L i).P lo hi w (x i) x) x iv W → ∀ K : Act → World → Prop, (∀ v W', Below W.heap.size W W' → (L j).P W.heap.size W'.heap.size W' v (upd x j v) → K (act (upd x j v)) W') → wpOp P ops Q j K (act x) W)
    (rest : ∀ x iv W, PX w.drew js (fun i lo hi w x => (L i).P lo hi w (x i) x) x iv W → wpList P ops Q (line.filterMap fun i => ops[i]?) (act x) W)
    (out : ∀ q ∈ alts, ∀ l ∈ q.2, ∀ x iv W, PX w.drew q.1 (fun i lo hi w x => (L i).P lo hi w (x i) x) x iv W → wpList P ops Q (l.filterMap fun i => ops[i]?) (act x) W) : (Code.region id ops true).wp P Q a0 w := by
  have dep : ∀ j ∈ js, ∀ s, j ∈ Region.ready .any ops (mask ops.size s) → ∀ k ∈ (L j).deps, k ∈ s := by
    intro j hj s hr k hk
    have h := List.all_eq_true.1 okd j hj
    cases ho : ops[j]? with
    | none => rw [ho] at h; cases h
    | some o =>
      rw [ho] at h
      simp only [List.all_eq_true, Array.any_eq_true] at h
      obtain ⟨i, hi, h2⟩ := h k hk
      simp only [Bool.and_eq_true, beq_iff_eq] at h2
      exact ready_dep hr ho ⟨o.after[i], Array.getElem_mem hi, h2.1, h2.2⟩
  subst ha
  refine wp_region_any hm ?_
  have h := wpAny_makers2 (P := P) (Q := Q) (md := .any) js (alts.map (·.1)) line.length act (fun s x W => (∀ i ∈ s, ∀ k ∈ (L i).deps, k ∈ s) ∧ ∃ iv, PX w.drew s (fun i lo hi w x => (L i).P lo hi w (x i) x) x iv W) ok ?_ ?_ ?_ js.length line.length [] x0 w.drew (List.length_filter_le _ _) (Nat.le_refl _) (fun i hi => by cases hi) (fun i hi => by cases hi) ⟨(fun i hi => by cases hi), fun _ => (0, 0), ⟨Below.refl _ _, (fun i hi => by cases hi), (fun i hi => by cases hi), (fun i hi => by cases hi)⟩⟩
  · rw [hsz, mask_nil] at h
    exact h
  · intro j hj s x W hr hns hI K hK
    obtain ⟨hcl, iv2, hp⟩ := hI
    have hd := dep j hj s hr
    refine prod j hj s x iv2 W hd hp K fun v W' hb hpo => hK v W' ⟨fun i hi k hk => ?_, _, hp.add (fun i => (L i).deps) (fun i lo hi w w' x h hb => (L i).st lo hi w w' (x i) x h hb) (fun i lo hi w x x' e1 e2 h => by rw [← e1]; exact (L i).cg lo hi w (x i) x x' e2 h) hcl hns hb (by rw [upd_self]; exact hpo)⟩
    rcases List.mem_cons.1 hi with rfl | hi
    · exact List.mem_cons_of_mem _ (hd k hk)
    · exact List.mem_cons_of_mem _ (hcl i hi k hk)
  · intro s x W f hf hs hI
    obtain ⟨-, iv2, hp⟩ := hI
    exact wpAny_line line js f (act x) W okl hf (rest x iv2 W (hp.of_mem hs))
  · intro t ht s x W f hf hst hI
    obtain ⟨-, iv2, hp⟩ := hI
    obtain ⟨q, hq, rfl⟩ := List.mem_map.1 ht
    have h1 := List.all_eq_true.1 oka q hq
    simp only [Bool.and_eq_true, List.all_eq_true, decide_eq_true_eq] at h1
    exact wpAny_alts q.1 q.2 f (act x) W h1.1 (fun l hl => Nat.le_trans (h1.2 l hl) hf) fun l hl => out q hq l hl x iv2 W (hp.of_mem fun i hi => (hst i).2 hi)
end
end Go.Proofs.YtaoachljojbnjaaGreat.Kit
/- Both PutDep by one contract; laws.markDep by its contract. -/
namespace Go.Proofs.YtaoachljojbnjaaGreat
open Go.RowKit Kit
/-- What is put, if there is room. -/
def putR (m : MD) (d : Dp) : MD := if 40 ≤ m.ds.length ∨ m.nx < 1 ∨ 100000 ≤ m.nx then m else { m with ds := m.ds ++ [⟨m.nx, d.kd, d.io, d.pt, d.bk, d.sl, d.nm, d.bt, d.ot, d.af, d.bl⟩], nx := m.nx + 1 }
/-- Its number, 0 without room. -/
def putN (m : MD) : Int := if 40 ≤ m.ds.length ∨ m.nx < 1 ∨ 100000 ≤ m.nx then 0 else m.nx
theorem putS_any (id kd io pt bk sl : Int) (nm : ByteArray) (bt ot : Bool) (af : Int) (bl : List Int) (p : Value) (u v iv bv dv pv : Value) (m : MD) (w : World) (h : MR w u v iv bv dv pv m) (hB : BigM 1048576 m) (hv : RInts w p bl) (hl : bl.length ≤ 1048576) :
    Calls Tryz.prog 6 #[.agg #[u, v, iv, bv, dv, pv, .int .i64 m.nx], .agg #[.int .i64 id, .int .i64 kd, .int .i64 io, .int .i64 pt, .int .i64 bk, .int .i64 sl, .string nm, .bool bt, .bool ot, .int .i64 af, p]] w fun e w' => ∃ u' v' i' b' d' p', e = .returned (.tuple #[.agg #[u', v', i', b', d', p', .int .i64 (putR m (⟨id, kd, io, pt, bk, sl, nm, bt, ot, af, bl⟩ : Dp)).nx], .int .i64 (putN m)]) ∧ MO w' (fun k => w.heap.size ≤ k) u' v' i' b' d' p' (putR m (⟨id, kd, io, pt, bk, sl, nm, bt, ot, af, bl⟩ : Dp)) ∧ Below w.heap.size w w' := by
  by_cases hf : 40 ≤ m.ds.length
  · have e1 : putR m (⟨id, kd, io, pt, bk, sl, nm, bt, ot, af, bl⟩ : Dp) = m := by unfold putR; rw [if_pos (.inl hf)]
    have e2 : putN m = 0 := by unfold putN; rw [if_pos (.inl hf)]
    rw [e1, e2]
    exact putS_full id kd io pt bk sl nm bt ot af bl p u v iv bv dv pv m w h hB hv hl hf
  · cases hx : inB m.nx 1 99999 with
    | false =>
      have c : 40 ≤ m.ds.length ∨ m.nx < 1 ∨ 100000 ≤ m.nx := by have := inB_false hx; omega
      have e1 : putR m (⟨id, kd, io, pt, bk, sl, nm, bt, ot, af, bl⟩ : Dp) = m := by unfold putR; rw [if_pos c]
      have e2 : putN m = 0 := by unfold putN; rw [if_pos c]
      rw [e1, e2]
      exact putS_next id kd io pt bk sl nm bt ot af bl p u v iv bv dv pv m w h hB hv hl (by omega) hx
    | true =>
      have c : ¬ (40 ≤ m.ds.length ∨ m.nx < 1 ∨ 100000 ≤ m.nx) := by have := inB_true hx; omega
      have e1 : putR m (⟨id, kd, io, pt, bk, sl, nm, bt, ot, af, bl⟩ : Dp) = { m with ds := m.ds ++ [⟨m.nx, kd, io, pt, bk, sl, nm, bt, ot, af, bl⟩], nx := m.nx + 1 } := by unfold putR; rw [if_neg c]
      have e2 : putN m = m.nx := by unfold putN; rw [if_neg c]
      rw [e1, e2]
      exact putS_yes id kd io pt bk sl nm bt ot af bl p u v iv bv dv pv m w h hB hv hl (by omega) hx
theorem putI_any (id kd io pt bk sl : Int) (nm : ByteArray) (bt ot : Bool) (af : Int) (bl : List Int) (p : Value) (u v iv bv dv pv : Value) (m : MD) (w : World) (h : MR w u v iv bv dv pv m) (hB : BigM 1048576 m) (hv : RInts w p bl) (hl : bl.length ≤ 1048576) (hn : nm.size ≤ 1048576) (hw : ∀ (j : Nat) (h : j < m.ds.length), (Lit.int .i64 m.ds[j].id).wf = true) (hnw : (Lit.int .i64 m.nx).wf = true) :
    Calls Tryz.prog 9 #[.agg #[u, v, iv, bv, dv, pv, .int .i64 m.nx], .agg #[.int .i64 id, .int .i64 kd, .int .i64 io, .int .i64 pt, .int .i64 bk, .int .i64 sl, .string nm, .bool bt, .bool ot, .int .i64 af, p]] w fun e w' => ∃ u' v' i' b' d' p', e = .returned (.tuple #[.agg #[u', v', i', b', d', p', .int .i64 (putR m (⟨id, kd, io, pt, bk, sl, nm, bt, ot, af, bl⟩ : Dp)).nx], .int .i64 (putN m)]) ∧ MO w' (fun k => w.heap.size ≤ k) u' v' i' b' d' p' (putR m (⟨id, kd, io, pt, bk, sl, nm, bt, ot, af, bl⟩ : Dp)) ∧ Below w.heap.size w w' := by
  by_cases hf : 40 ≤ m.ds.length ∨ m.nx < 1 ∨ 100000 ≤ m.nx
  · have e1 : putR m (⟨id, kd, io, pt, bk, sl, nm, bt, ot, af, bl⟩ : Dp) = m := by unfold putR; rw [if_pos hf]
    have e2 : putN m = 0 := by unfold putN; rw [if_pos hf]
    rw [e1, e2]
    by_cases c1 : 40 ≤ m.ds.length
    · exact putI_full id kd io pt bk sl nm bt ot af bl p u v iv bv dv pv m w h hB hv hl hn hw c1
    · by_cases c2 : m.nx < 1
      · exact putI_low id kd io pt bk sl nm bt ot af bl p u v iv bv dv pv m w h hB hv hl hn hw (by omega) c2
      · exact putI_high id kd io pt bk sl nm bt ot af bl p u v iv bv dv pv m w h hB hv hl hn hw (by omega) (by omega) (by omega)
  · have e1 : putR m (⟨id, kd, io, pt, bk, sl, nm, bt, ot, af, bl⟩ : Dp) = { m with ds := m.ds ++ [⟨m.nx, kd, io, pt, bk, sl, nm, bt, ot, af, bl⟩], nx := m.nx + 1 } := by unfold putR; rw [if_neg hf]
    have e2 : putN m = m.nx := by unfold putN; rw [if_neg hf]
    rw [e1, e2]
    exact putI_yes id kd io pt bk sl nm bt ot af bl p u v iv bv dv pv m w h hB hv hl hn hw (by omega) (by omega) (by omega) hnw
theorem big_put {m : MD} {d : Dp} (h : BigM 1048576 m) (hl : d.bl.length ≤ 1048576) (hn : d.nm.size ≤ 1048576) : BigM 1048576 (putR m d) := by
  unfold putR
  split
  · exact h
  · rename_i c
    refine ⟨h.d, h.f, by show (m.ds ++ [_]).length ≤ _; rw [List.length_append]; show m.ds.length + 1 ≤ _; omega, fun j hj => ?_, fun j hj => ?_⟩
    · show ((m.ds ++ [_])[j]'hj).bl.length ≤ _
      by_cases e : j < m.ds.length
      · rw [List.getElem_append_left e]; exact h.b j e
      · have e2 : j = m.ds.length := by have : j < (m.ds ++ [_]).length := hj; simp at this; omega
        subst e2
        simpa using hl
    · show ((m.ds ++ [_])[j]'hj).nm.size ≤ _
      by_cases e : j < m.ds.length
      · rw [List.getElem_append_left e]; exact h.t j e
      · have e2 : j = m.ds.length := by have : j < (m.ds ++ [_]).length := hj; simp at this; omega
        subst e2
        simpa using hn
set_option maxRecDepth 100000 in
set_option maxHeartbeats 800000 in
theorem markDep_any (id kd io pt bk sl : Int) (nm : ByteArray) (bt ot : Bool) (af : Int) (bl : List Int) (a : Option Addr) (c : Nat) (base k : Nat) (w : World) (ha : ROwns w base 3 (.slice a bl.length c) (ic bl)) (hk : k ≤ 100000000000000) (hl : bl.length ≤ 1048576) :
    Calls Tryz.prog 13 #[.agg #[.int .i64 id, .int .i64 kd, .int .i64 io, .int .i64 pt, .int .i64 bk, .int .i64 sl, .string nm, .bool bt, .bool ot, .int .i64 af, .slice a bl.length c], .int .i64 k] w fun e w' => e = .returned (.int .i64 (k + bl.length : Nat)) ∧ Chg (fun q => (Value.slice a bl.length c).ownBlock = some q) w w' := by
  have HA := hide ha
  clear ha
  go_enter Tryz.func13, Tryz.ntmps13
  go_wp2_with fail
  refine (markI_any _ bl base k _ (HA.out.alloc _) (by omega) (by omega)).mono ?_
  rintro e w2 ⟨rfl, -, G2⟩
  have HC : Hid (Chg (fun q => (Value.slice a bl.length c).ownBlock = some q) w w2) := (Chg.of_below ((Below.refl _ w).alloc (Nat.le_refl _) _)).trans (Chg.of_grown G2 fun q hq => hq)
  clear G2
  go_wp2
  go_ret
  exact ⟨rfl, HC.out⟩
end Go.Proofs.YtaoachljojbnjaaGreat
/- laws.markInodeS, laws.markBlockS, laws.heldInodeS, laws.heldBlockS by their contracts. -/
namespace Go.Proofs.YtaoachljojbnjaaGreat
open Go.RowKit Kit
/-- How many marks an inode, a block takes, and each of them marked. -/
def szI (x : Ino) : Nat := 2 + x.2.2.length
def mkI (k : Nat) (x : Ino) : Ino := ((k : Int), ((k + 1 : Nat) : Int), marksI (k + 2) x.2.2.length)
def szB (b : Blk) : Nat := 2 + b.2.1.length * 2
def mkB (k : Nat) (b : Blk) : Blk := (mk3 k, mkS (k + 1) b.2.1.length, mkT (k + 1 + b.2.1.length * 2))
set_option maxRecDepth 100000 in
set_option maxHeartbeats 1600000 in
theorem markInoS_any (v : Value) (ts : List V3) (xs : List Ino) (S : Nat → Prop) (k : Nat) (w : World) (h : GO KI w S v ts xs) (hk : cnt szI k xs ≤ 100000000000000) :
    Calls Tryz.prog 56 #[v, .int .i64 k] w fun e w' => ∃ ts', e = .returned (.int .i64 (cnt szI k xs : Nat)) ∧ GO KI w' S v ts' (mkL szI mkI k xs) ∧ Chg S w w' := by
  have hlen : k + xs.length ≤ cnt szI k xs := cnt_len (fun x => by simp [szI]; omega) k xs
  obtain ⟨a1, c1, rfl⟩ := h.form
  have HG := hide h
  have HK := hide hk
  clear h
  go_enter Tryz.func56, Tryz.ntmps56
  go_wp2
  go_loopw [1, 5] (fun x i wr => ∃ j : Nat, j ≤ xs.length ∧ i = .int .i64 j ∧ x = .int .i64 (cnt szI k (xs.take j) : Nat) ∧ Hid (∃ ts, GO KI wr S (.slice a1 xs.length c1) ts (mkd szI mkI k j xs)) ∧ Hid (Chg S w wr)) (fun _ i _ => xs.length - (intOf i).toNat)
  case atStart => exact ⟨0, Nat.zero_le _, rfl, rfl, ⟨ts, by rw [mkd_zero]; exact HG.out⟩, Chg.refl _ _⟩
  case round =>
    obtain ⟨j, hj, rfl, rfl, HT, HC⟩ := hrel
    by_cases hlt : j < xs.length
    · obtain ⟨ts2, hts⟩ := HT.out
      have hl2 : ts2.length = xs.length := by rw [hts.len, mkd_length]
      have hj2 : j < ts2.length := by omega
      obtain ⟨g, c2, e1, k1, k2, k3, k4, k5, -⟩ := hts.row.at j hj2
      simp only [Value.slice.injEq] at e1
      obtain ⟨rfl, -, rfl⟩ := e1
      have hin := hts.inn j hj2 (by rw [mkd_length]; exact hlt)
      rw [mkd_at k j xs hlt] at hin
      obtain ⟨i1, i2, i3⟩ := hin
      obtain ⟨p, hp⟩ : ∃ p, ts2[j].2.2 = p := ⟨_, rfl⟩
      obtain ⟨l, hl⟩ : ∃ l, xs[j].2.2 = l := ⟨_, rfl⟩
      rw [i1] at k1
      rw [i2] at k2
      rw [hp] at k3 i3
      rw [hl] at i3
      have hcle := cnt_le (sz := szI) k xs j hlt
      have hcs := cnt_succ (sz := szI) k xs j hlt
      have hset := mkd_set (sz := szI) (mk := mkI) k j xs hlt
      have hszj : szI xs[j] = 2 + l.length := by rw [← hl]; rfl
      rw [hszj] at hcle hcs
      have hmk : ∀ K, mkI K xs[j] = ((K : Int), ((K + 1 : Nat) : Int), marksI (K + 2) l.length) := fun K => by rw [← hl]; rfl
      rw [hmk] at hset
      obtain ⟨K, hK⟩ : ∃ K : Nat, cnt szI k (xs.take j) = K := ⟨_, rfl⟩
      rw [hK] at hcle hcs hset ⊢
      have hK1 : K + (2 + l.length) ≤ 100000000000000 := Nat.le_trans hcle hk
      have HM : Hid (∀ w1, ROwns w1 0 3 p (ic (marksI (K + 2) l.length)) → ((wr.setCell ⟨g, j * 3, none⟩ (.int .i64 (K : Int))).setCell ⟨g, j * 3 + 1, none⟩ (.int .i64 ((K : Int) + 1))).grownBy w1 p.ownBlock → (∃ ts, GO KI w1 S (.slice (some ⟨g, 0, none⟩) xs.length c1) ts (mkd szI mkI k (j + 1) xs)) ∧ Chg S w w1) := fun w1 hr hg => by
        have := hts.markI rfl j hj2 (K : Int) ((K + 1 : Nat) : Int) (marksI (K + 2) l.length) (by rw [hp]; exact hr) (by rw [hp]; exact hg)
        rw [hset] at this
        exact ⟨⟨_, this.1⟩, HC.out.trans this.2⟩
      have HO : Hid (ROwns ((wr.setCell ⟨g, j * 3, none⟩ (.int .i64 (K : Int))).setCell ⟨g, j * 3 + 1, none⟩ (.int .i64 ((K : Int) + 1))) 0 3 p (ic l)) := i3.of_heap fun m hm => by
        have hne : m ≠ g := fun e => hts.out j hj2 m (by rw [show KI.p ts2[j] = ts2[j].2.2 from rfl, hp]; exact hm) (by rw [e]; rfl)
        exact (heap_setCell_other _ ⟨g, j * 3 + 1, none⟩ m _ (by simpa using hne)).trans (heap_setCell_other _ ⟨g, j * 3, none⟩ m _ (by simpa using hne))
      have HCS := hide hcs
      have f0 := k4 (j * 3)
      have f1 := k4 (j * 3 + 1)
      have j0 : (0 : Int) ≤ (j : Int) := by omega
      have j1 : (j : Int) < (xs.length : Int) := by omega
      clear hts HT hp hl hcle hset hszj hmk hK i1 i2 i3 hcs k4 hl2 hj2
      go_wp2_with (go_at_call 37; refine (markI_any p l 0 (K + 2) _ HO.out (by omega) (by omega)).mono ?_; rintro e w1 ⟨rfl, R1, G1⟩; have H1 := hide (HM.out w1 R1 G1); clear R1 G1)
      go_roundw
      case rel => exact ⟨j + 1, by omega, by go_num, by rw [HCS.out]; go_num, H1.out.1, H1.out.2⟩
      case measure => simp [intOf]; omega
    · have hjl : j = xs.length := by omega
      have HJ := hide hjl
      clear hjl
      go_wp2
      go_ret
      obtain ⟨ts2, hts⟩ := HT.out
      rw [HJ.out, mkd_all] at hts
      exact ⟨ts2, by rw [HJ.out, cnt_all]; rfl, hts, HC.out⟩
set_option maxRecDepth 100000 in
set_option maxHeartbeats 1600000 in
theorem markBlkS_any (v : Value) (ts : List V3) (xs : List Blk) (S : Nat → Prop) (k : Nat) (w : World) (h : GO KB w S v ts xs) (hk0 : 1 ≤ k) (hk : cnt szB k xs ≤ 100000000000000) :
    Calls Tryz.prog 57 #[v, .int .i64 k] w fun e w' => ∃ ts', e = .returned (.int .i64 (cnt szB k xs : Nat)) ∧ GO KB w' S v ts' (mkL szB mkB k xs) ∧ Chg S w w' := by
  have hlen : k + xs.length ≤ cnt szB k xs := cnt_len (fun x => by simp [szB]; omega) k xs
  obtain ⟨a1, c1, rfl⟩ := h.form
  have HG := hide h
  have HK := hide hk
  clear h
  go_enter Tryz.func57, Tryz.ntmps57
  go_wp2
  go_loopw [1, 5] (fun x i wr => ∃ j : Nat, j ≤ xs.length ∧ i = .int .i64 j ∧ x = .int .i64 (cnt szB k (xs.take j) : Nat) ∧ Hid (∃ ts, GO KB wr S (.slice a1 xs.length c1) ts (mkd szB mkB k j xs)) ∧ Hid (Chg S w wr)) (fun _ i _ => xs.length - (intOf i).toNat)
  case atStart => exact ⟨0, Nat.zero_le _, rfl, rfl, ⟨ts, by rw [mkd_zero]; exact HG.out⟩, Chg.refl _ _⟩
  case round =>
    obtain ⟨j, hj, rfl, rfl, HT, HC⟩ := hrel
    by_cases hlt : j < xs.length
    · obtain ⟨ts2, hts⟩ := HT.out
      have hl2 : ts2.length = xs.length := by rw [hts.len, mkd_length]
      have hj2 : j < ts2.length := by omega
      obtain ⟨g, c2, e1, k1, k2, k3, k4, k5, -⟩ := hts.row.at j hj2
      simp only [Value.slice.injEq] at e1
      obtain ⟨rfl, -, rfl⟩ := e1
      have hin := hts.inn j hj2 (by rw [mkd_length]; exact hlt)
      rw [mkd_at k j xs hlt] at hin
      obtain ⟨i1, i2, i3⟩ := hin
      obtain ⟨p, hp⟩ : ∃ p, ts2[j].2.1 = p := ⟨_, rfl⟩
      obtain ⟨l, hl⟩ : ∃ l, xs[j].2.1 = l := ⟨_, rfl⟩
      obtain ⟨t0, ht0⟩ : ∃ t, xs[j].2.2 = t := ⟨_, rfl⟩
      rw [i1] at k1
      rw [i3, ht0] at k3
      rw [hp] at k2 i2
      rw [hl] at i2
      have hcle := cnt_le (sz := szB) k xs j hlt
      have hcs := cnt_succ (sz := szB) k xs j hlt
      have hset := mkd_set (sz := szB) (mk := mkB) k j xs hlt
      have hszj : szB xs[j] = 2 + l.length * 2 := by rw [← hl]; rfl
      rw [hszj] at hcle hcs
      have hmk : ∀ K, mkB K xs[j] = (mk3 K, mkS (K + 1) l.length, mkT (K + 1 + l.length * 2)) := fun K => by rw [← hl]; rfl
      rw [hmk] at hset
      have hK2 := cnt_ge (sz := szB) k (xs.take j)
      obtain ⟨K, hK⟩ : ∃ K : Nat, cnt szB k (xs.take j) = K := ⟨_, rfl⟩
      rw [hK] at hcle hcs hset hK2 ⊢
      have hK1 : K + (2 + l.length * 2) ≤ 100000000000000 := Nat.le_trans hcle hk
      have HM : Hid (∀ w1 w2, SOwns w1 0 126 p (mkS (K + 1) l.length) → (wr.setCell ⟨g, j * 3, none⟩ (.bool ((K : Int) % 3 == 0))).grownBy w1 p.ownBlock → Below w1.heap.size w1 w2 → (∃ ts, GO KB (w2.setCell ⟨g, j * 3 + 2, none⟩ (.string (mkT (K + 1 + l.length * 2)))) S (.slice (some ⟨g, 0, none⟩) xs.length c1) ts (mkd szB mkB k (j + 1) xs)) ∧ Chg S w (w2.setCell ⟨g, j * 3 + 2, none⟩ (.string (mkT (K + 1 + l.length * 2))))) := fun w1 w2 hr hg hb => by
        rw [← mk3_int] at hg
        have := hts.markB rfl j hj2 (mk3 K) (mkT (K + 1 + l.length * 2)) (mkS (K + 1) l.length) (by rw [hp]; exact hr) (by rw [hp]; exact hg) hb
        rw [hset] at this
        exact ⟨⟨_, this.1⟩, HC.out.trans this.2⟩
      have hne : ∀ m, p.ownBlock = some m → m ≠ g := fun m hm e => hts.out j hj2 m (by rw [show KB.p ts2[j] = ts2[j].2.1 from rfl, hp]; exact hm) (by rw [e]; rfl)
      have HO : Hid (SOwns (wr.setCell ⟨g, j * 3, none⟩ (.bool ((K : Int) % 3 == 0))) 0 126 p l) := i2.of_heap fun m hm => heap_setCell_other _ ⟨g, j * 3, none⟩ m _ (by simpa using hne m hm)
      have hfr : wr.frozen? ⟨g, j * 3 + 2, none⟩ = false := k4 _
      have HX : Hid (∀ w1 w2, (wr.setCell ⟨g, j * 3, none⟩ (.bool ((K : Int) % 3 == 0))).grownBy w1 p.ownBlock → Below w1.heap.size w1 w2 → w2.cell? ⟨g, j * 3 + 2, none⟩ = some (.string t0) ∧ w2.frozen? ⟨g, j * 3 + 2, none⟩ = false) := fun w1 w2 hg hb => by
        have hgw : g < wr.heap.size := hts.row.lt g rfl
        have hsz1 : wr.heap.size ≤ w1.heap.size := by have := hg.size; simpa using this
        have eh : w2.heap[g]? = (wr.setCell ⟨g, j * 3, none⟩ (.bool ((K : Int) % 3 == 0))).heap[g]? := (hb.block g (by omega)).trans (hg.block g (by simpa using hgw) (fun e => hne g e.symm rfl))
        have hrow0 : TOwns wr KB.T (.slice (some ⟨g, 0, none⟩) ts2.length c1) ts2 := by rw [hl2]; exact hts.row
        have hrow := hrow0.set0 j hj2 (.bool ((K : Int) % 3 == 0))
        have hrow2 : TOwns w2 KB.T (.slice (some ⟨g, 0, none⟩) ts2.length c1) (ts2.set j (.bool ((K : Int) % 3 == 0), ts2[j].2.1, ts2[j].2.2)) := hrow.of_heap fun m hm => by
          have e : m = g := by simpa [Value.ownBlock] using hm.symm
          subst e
          exact eh
        obtain ⟨g', c', e', q1, q2, q3, q4, -⟩ := hrow2.at j (by simpa using hj2)
        simp only [Value.slice.injEq, Option.some.injEq, Addr.mk.injEq] at e'
        obtain ⟨⟨rfl, -⟩, -⟩ := e'
        simp only [List.getElem_set_self] at q3
        rw [i3, ht0] at q3
        exact ⟨q3, q4 _⟩
      have HCS := hide hcs
      have f0 := k4 (j * 3)
      have j0 : (0 : Int) ≤ (j : Int) := by omega
      have j1 : (j : Int) < (xs.length : Int) := by omega
      clear hts HT hp hl hcle hset hszj hmk hK i1 i2 i3 hcs k4 hl2 hj2 hne k3 hfr
      go_wp2_with (first | (go_at_call 78; refine (markS_any p l 0 (K + 1) _ HO.out (by omega) (by omega) (by omega)).mono ?_; rintro e w1 ⟨rfl, R1, G1⟩; have HR1 := hide R1; have HG1 := hide G1; clear R1 G1) | (go_at_call 58; refine (markText_any (K + 1 + l.length * 2) _ (by omega) (by omega)).mono ?_; rintro e w2 ⟨rfl, B2⟩; have H1 := hide (HM.out _ w2 HR1.out HG1.out B2); obtain ⟨y1, y2⟩ := HX.out _ w2 HG1.out B2; clear B2))
      go_roundw
      case rel => exact ⟨j + 1, by omega, by go_num, by rw [HCS.out]; go_num, H1.out.1, H1.out.2⟩
      case measure => simp [intOf]; omega
    · have hjl : j = xs.length := by omega
      have HJ := hide hjl
      clear hjl
      go_wp2
      go_ret
      obtain ⟨ts2, hts⟩ := HT.out
      rw [HJ.out, mkd_all] at hts
      exact ⟨ts2, by rw [HJ.out, cnt_all]; rfl, hts, HC.out⟩
set_option maxRecDepth 100000 in
set_option maxHeartbeats 1600000 in
theorem heldInoS_any (v : Value) (ts : List V3) (xs : List Ino) (S : Nat → Prop) (k : Nat) (w : World) (h : GO KI w S v ts (mkL szI mkI k xs)) (hk : cnt szI k xs ≤ 100000000000000) :
    Calls Tryz.prog 60 #[v, .int .i64 k] w fun e w' => e = .returned (.int .i64 (cnt szI k xs : Nat)) ∧ Below w.heap.size w w' := by
  have hlen : k + xs.length ≤ cnt szI k xs := cnt_len (fun x => by simp [szI]; omega) k xs
  obtain ⟨a1, c1, rfl⟩ := h.form
  rw [mkL_length] at *
  have HG := hide h
  have HK := hide hk
  clear h
  go_enter Tryz.func60, Tryz.ntmps60
  go_wp2
  go_loopw [1, 5] (fun x i wr => ∃ j : Nat, j ≤ xs.length ∧ i = .int .i64 j ∧ x = .int .i64 (cnt szI k (xs.take j) : Nat) ∧ Hid (Below w.heap.size w wr)) (fun _ i _ => xs.length - (intOf i).toNat)
  case atStart => exact ⟨0, Nat.zero_le _, rfl, rfl, Below.refl _ _⟩
  case round =>
    obtain ⟨j, hj, rfl, rfl, HC⟩ := hrel
    by_cases hlt : j < xs.length
    · have hts := HG.out.below HC.out (Nat.le_refl _)
      have hl2 : ts.length = xs.length := by rw [hts.len, mkL_length]
      have hj2 : j < ts.length := by omega
      obtain ⟨g, c2, e1, k1, k2, k3, k4, k5, -⟩ := hts.row.at j hj2
      simp only [Value.slice.injEq] at e1
      obtain ⟨rfl, -, rfl⟩ := e1
      have hin := hts.inn j hj2 (by rw [mkL_length]; exact hlt)
      rw [mkL_at k j xs hlt] at hin
      obtain ⟨i1, i2, i3⟩ := hin
      obtain ⟨p, hp⟩ : ∃ p, ts[j].2.2 = p := ⟨_, rfl⟩
      rw [i1] at k1
      rw [i2] at k2
      rw [hp] at k3 i3
      have hcle := cnt_le (sz := szI) k xs j hlt
      have hcs := cnt_succ (sz := szI) k xs j hlt
      obtain ⟨n, hn⟩ : ∃ n, xs[j].2.2.length = n := ⟨_, rfl⟩
      have hszj : szI xs[j] = 2 + n := by rw [← hn]; rfl
      rw [hszj] at hcle hcs
      obtain ⟨K, hK⟩ : ∃ K : Nat, cnt szI k (xs.take j) = K := ⟨_, rfl⟩
      rw [hK] at hcle hcs k1 k2 i3 ⊢
      have k1' : wr.cell? ⟨g, j * 3, none⟩ = some (.int .i64 (K : Int)) := k1
      have k2' : wr.cell? ⟨g, j * 3 + 1, none⟩ = some (.int .i64 ((K : Int) + 1)) := k2
      have i3' : ROwns wr 0 3 p (ic (marksI (K + 2) n)) := by rw [← hn]; exact i3
      have hK1 : K + (2 + n) ≤ 100000000000000 := Nat.le_trans hcle hk
      have HO := hide i3'
      have HCS := hide hcs
      have j0 : (0 : Int) ≤ (j : Int) := by omega
      have j1 : (j : Int) < (xs.length : Int) := by omega
      clear hts hp hcle hszj hK i1 i2 i3 i3' hcs k4 hl2 hj2 k1 k2 hn
      go_wp2_with (go_at_call 62; refine (heldI_any p n 0 (K + 2) _ HO.out (by omega) (by omega)).mono ?_; rintro e w1 ⟨rfl, B1⟩; have H1 := hide (HC.out.trans (B1.mono HC.out.size)); clear B1; have hK3 : ¬ (((K + 2 + n : Nat) : Int) < 0) := by omega)
      go_roundw
      case rel => exact ⟨j + 1, by omega, by go_num, by rw [HCS.out]; go_num, H1.out⟩
      case measure => simp [intOf]; omega
    · have hjl : j = xs.length := by omega
      have HJ := hide hjl
      clear hjl
      go_wp2
      go_ret
      exact ⟨by rw [HJ.out, cnt_all]; rfl, HC.out⟩
set_option maxRecDepth 100000 in
set_option maxHeartbeats 1600000 in
theorem heldBlkS_any (v : Value) (ts : List V3) (xs : List Blk) (S : Nat → Prop) (k : Nat) (w : World) (h : GO KB w S v ts (mkL szB mkB k xs)) (hk0 : 1 ≤ k) (hk : cnt szB k xs ≤ 100000000000000) :
    Calls Tryz.prog 61 #[v, .int .i64 k] w fun e w' => e = .returned (.int .i64 (cnt szB k xs : Nat)) ∧ Below w.heap.size w w' := by
  have hlen : k + xs.length ≤ cnt szB k xs := cnt_len (fun x => by simp [szB]; omega) k xs
  obtain ⟨a1, c1, rfl⟩ := h.form
  rw [mkL_length] at *
  have HG := hide h
  have HK := hide hk
  clear h
  go_enter Tryz.func61, Tryz.ntmps61
  go_wp2
  go_loopw [1, 5] (fun x i wr => ∃ j : Nat, j ≤ xs.length ∧ i = .int .i64 j ∧ x = .int .i64 (cnt szB k (xs.take j) : Nat) ∧ Hid (Below w.heap.size w wr)) (fun _ i _ => xs.length - (intOf i).toNat)
  case atStart => exact ⟨0, Nat.zero_le _, rfl, rfl, Below.refl _ _⟩
  case round =>
    obtain ⟨j, hj, rfl, rfl, HC⟩ := hrel
    by_cases hlt : j < xs.length
    · have hts := HG.out.below HC.out (Nat.le_refl _)
      have hl2 : ts.length = xs.length := by rw [hts.len, mkL_length]
      have hj2 : j < ts.length := by omega
      obtain ⟨g, c2, e1, k1, k2, k3, k4, k5, -⟩ := hts.row.at j hj2
      simp only [Value.slice.injEq] at e1
      obtain ⟨rfl, -, rfl⟩ := e1
      have hin := hts.inn j hj2 (by rw [mkL_length]; exact hlt)
      rw [mkL_at k j xs hlt] at hin
      obtain ⟨i1, i2, i3⟩ := hin
      obtain ⟨p, hp⟩ : ∃ p, ts[j].2.1 = p := ⟨_, rfl⟩
      rw [i1] at k1
      rw [i3] at k3
      rw [hp] at k2 i2
      have hcle := cnt_le (sz := szB) k xs j hlt
      have hcs := cnt_succ (sz := szB) k xs j hlt
      have hK2 := cnt_ge (sz := szB) k (xs.take j)
      obtain ⟨n, hn⟩ : ∃ n, xs[j].2.1.length = n := ⟨_, rfl⟩
      have hszj : szB xs[j] = 2 + n * 2 := by rw [← hn]; rfl
      rw [hszj] at hcle hcs
      obtain ⟨K, hK⟩ : ∃ K : Nat, cnt szB k (xs.take j) = K := ⟨_, rfl⟩
      rw [hK] at hcle hcs k1 k3 i2 hK2 ⊢
      have k1' : wr.cell? ⟨g, j * 3, none⟩ = some (.bool ((K : Int) % 3 == 0)) := by rw [← mk3_int]; exact k1
      have k3' : wr.cell? ⟨g, j * 3 + 2, none⟩ = some (.string (mkT (K + 1 + n * 2))) := by rw [← hn]; exact k3
      have i2' : SOwns wr 0 126 p (mkS (K + 1) n) := by rw [← hn]; exact i2
      have hK1 : K + (2 + n * 2) ≤ 100000000000000 := Nat.le_trans hcle hk
      have HO := hide i2'
      have HCS := hide hcs
      have HX : Hid (∀ w', Below wr.heap.size wr w' → w'.cell? ⟨g, j * 3 + 2, none⟩ = some (.string (mkT (K + 1 + n * 2)))) := fun w' hb => (hb.cell (p := ⟨g, j * 3 + 2, none⟩) k5).trans k3'
      have j0 : (0 : Int) ≤ (j : Int) := by omega
      have j1 : (j : Int) < (xs.length : Int) := by omega
      clear hts hp hcle hszj hK i1 i2 i3 i2' hcs k4 hl2 hj2 k1 k3 k3' hn
      go_wp2_with (go_at_call 79; refine (heldS_any p n 0 (K + 1) _ HO.out (by omega) (by omega) (by omega)).mono ?_; rintro e w1 ⟨rfl, B1⟩; have H1 := hide B1; clear B1; have hK3 : ¬ (((K + 1 + n * 2 : Nat) : Int) < 0) := by omega)
      have BB := H1.out.drew
      have y0 := HX.out _ H1.out
      have tt : ((mkT (K + 1 + n * 2)).toList == (mkT (K + 1 + n * 2)).toList) = true := by simp
      go_region_held3 (fun w' => w'.cell? ⟨g, j * 3 + 2, none⟩ = some (.string (mkT (K + 1 + n * 2)))) (first | exact HX.out _ BB | exact HX.out _ (BB.trans (B6.mono BB.size))) ((go_at_call 58; refine (markText_any (K + 1 + n * 2) _ (by omega) (by omega)).mono ?_; rintro e w6 ⟨rfl, B6⟩))
      have H6 := hide (HC.out.trans ((BB.trans (B6.mono BB.size)).mono HC.out.size))
      clear BB B6
      go_wp2
      go_roundw
      case rel => exact ⟨j + 1, by omega, by go_num, by rw [HCS.out]; go_num, H6.out⟩
      case measure => simp [intOf]; omega
    · have hjl : j = xs.length := by omega
      have HJ := hide hjl
      clear hjl
      go_wp2
      go_ret
      exact ⟨by rw [HJ.out, cnt_all]; rfl, HC.out⟩
end Go.Proofs.YtaoachljojbnjaaGreat
/- Disks that are marked, and held against their marks: laws.markDisk, laws.heldDisk by their contracts. -/
namespace Go.Proofs.YtaoachljojbnjaaGreat
open Go.RowKit Kit
/-- The number behind a marked disk. -/
def cntD (k : Nat) (xs ys : List Bool) (is : List Ino) (bs : List Blk) : Nat := cnt szB (cnt szI (k + xs.length + ys.length) is) bs
/-- A disk of memory of its own, all of whose parts are marked from k on. -/
def DM (w : World) (S : Nat → Prop) (u v iv bv : Value) (k : Nat) (xs ys : List Bool) (is : List Ino) (bs : List Blk) : Prop :=
  DO w S u v iv bv (marksB k xs.length) (marksB (k + xs.length) ys.length) (mkL szI mkI (k + xs.length + ys.length) is) (mkL szB mkB (cnt szI (k + xs.length + ys.length) is) bs)
set_option maxRecDepth 100000 in
set_option maxHeartbeats 1600000 in
theorem markDisk_any (u v iv bv : Value) (xs ys : List Bool) (is : List Ino) (bs : List Blk) (S : Nat → Prop) (k : Nat) (w : World) (h : DO w S u v iv bv xs ys is bs) (hk0 : 1 ≤ k) (hk : cntD k xs ys is bs ≤ 100000000000000) :
    Calls Tryz.prog 34 #[.agg #[u, v, iv, bv], .int .i64 k] w fun e w' => e = .returned (.int .i64 (cntD k xs ys is bs : Nat)) ∧ DM w' S u v iv bv k xs ys is bs ∧ Chg S w w' := by
  have HF := hide h.dr.form
  obtain ⟨S1, S2, S3, ti, tb, hT, hs1, hi, hb, d1, d2, hU⟩ := h
  have hc1 : cnt szI (k + xs.length + ys.length) is ≤ 100000000000000 := Nat.le_trans (cnt_ge _ _) hk
  have hc0 : k + xs.length + ys.length ≤ 100000000000000 := Nat.le_trans (cnt_ge _ _) hc1
  obtain ⟨K1, hK1⟩ : ∃ K, k + xs.length + ys.length = K := ⟨_, rfl⟩
  obtain ⟨K2, hK2⟩ : ∃ K, cnt szI K1 is = K := ⟨_, rfl⟩
  have hg1 : K1 ≤ K2 := by rw [← hK2]; exact cnt_ge _ _
  have hkb : cnt szB K2 bs ≤ 100000000000000 := by rw [← hK2, ← hK1]; exact hk
  have hCD : cntD k xs ys is bs = cnt szB K2 bs := by rw [cntD, hK1, hK2]
  have HDM : Hid (∀ w', DO w' S u v iv bv (marksB k xs.length) (marksB (k + xs.length) ys.length) (mkL szI mkI K1 is) (mkL szB mkB K2 bs) → DM w' S u v iv bv k xs ys is bs) := fun w' hd => by rw [DM, hK1, hK2]; exact hd
  rw [hK1] at hc1 hc0
  rw [hCD]
  have C1 := hide (fun W h => markN_any u v xs ys 0 k W h (by omega) (by omega) (by omega))
  rw [hK1] at C1
  have C2 := hide (fun W h => markInoS_any iv ti is (fun m => S2 m ∧ m < w.heap.size) K1 W h hc1)
  rw [hK2] at C2
  have C3 := hide (fun W h => markBlkS_any bv tb bs (fun m => S3 m ∧ m < w.heap.size) K2 W h (by omega) hkb)
  generalize cnt szB K2 bs = K3 at *
  have HT := hide hT
  have HI := hide hi.bound
  have HB := hide hb.bound
  have HS := hide (And.intro hs1 (And.intro d1 (And.intro d2 hU)))
  have h12 : ∀ m, (u.ownBlock = some m ∨ v.ownBlock = some m) → m < w.heap.size := fun m hm => hm.elim (fun e => (hT.a.lt m e).2) (fun e => (hT.b.lt m e).2)
  have HL := hide h12
  clear hT hi hb hs1 d1 d2 hU h12 hk hkb hCD hK1 hK2
  obtain ⟨a1, c1, a2, c2, a3, c3, a4, c4, rfl, rfl, rfl, rfl⟩ := HF.out
  go_enter Tryz.func34, Tryz.ntmps34
  go_wp2_with fail
  refine (C1.out _ (HT.out.alloc _)).mono ?_
  rintro e w1 ⟨rfl, T1, G1⟩
  have bx1 : AtC w1 w.heap.size 41 #[.slice a1 xs.length c1, .slice a2 ys.length c2, .slice a3 is.length c3, .slice a4 bs.length c4] := (G1.block w.heap.size (by simp) (fun e => Nat.lt_irrefl _ (HL.out _ (.inl e))) (fun e => Nat.lt_irrefl _ (HL.out _ (.inr e)))).trans (AtC.new w 41 _)
  have z1 : w.heap.size + 1 ≤ w1.heap.size := by have := G1.size; simpa using this
  have I1 := (HI.out.alloc (.cells #[.slice a1 xs.length c1, .slice a2 ys.length c2, .slice a3 is.length c3, .slice a4 bs.length c4] 41)).of_heap (w' := w1) fun m hm hlt => G1.block m hlt (fun e => (HS.out.2.1 m (HS.out.1 m (.inl e))).1 hm.1) (fun e => (HS.out.2.1 m (HS.out.1 m (.inr e))).1 hm.1)
  have J1 := (HB.out.alloc (.cells #[.slice a1 xs.length c1, .slice a2 ys.length c2, .slice a3 is.length c3, .slice a4 bs.length c4] 41)).of_heap (w' := w1) fun m hm hlt => G1.block m hlt (fun e => (HS.out.2.1 m (HS.out.1 m (.inl e))).2 hm.1) (fun e => (HS.out.2.1 m (HS.out.1 m (.inr e))).2 hm.1)
  have ch1 : Chg S w w1 := (Chg.of_below ((Below.refl _ w).alloc (Nat.le_refl _) _)).trans (Chg.of_g2 G1 (fun m e => HS.out.2.2.2 m (.inl (HS.out.1 m (.inl e)))) (fun m e => HS.out.2.2.2 m (.inl (HS.out.1 m (.inr e)))))
  have q2 : w1.cell? ⟨w.heap.size, 2, none⟩ = some (.slice a3 is.length c3) := bx1.cell 2
  have H1 := hide (And.intro bx1 (And.intro I1 (And.intro J1 (And.intro ch1 (And.intro z1 T1)))))
  clear bx1 I1 J1 ch1 z1 G1 T1 C1
  go_wp2_with fail
  refine (C2.out _ H1.out.2.1).mono ?_
  rintro e w2 ⟨ti2, rfl, I2, ch2⟩
  have bx2 : AtC w2 w.heap.size 41 #[.slice a1 xs.length c1, .slice a2 ys.length c2, .slice a3 is.length c3, .slice a4 bs.length c4] := (ch2.block w.heap.size (by have := H1.out.2.2.2.2.1; omega) (fun e => Nat.lt_irrefl _ e.2)).trans H1.out.1
  have J2 := H1.out.2.2.1.of_heap (w' := w2) fun m hm hlt => ch2.block m hlt (fun e => HS.out.2.2.1 m e.1 hm.1)
  have T2 : Two w2 0 (.slice a1 xs.length c1) (.slice a2 ys.length c2) (marksB k xs.length) (marksB (k + xs.length) ys.length) :=
    ⟨H1.out.2.2.2.2.2.a.of_heap fun m hm => ch2.block m (H1.out.2.2.2.2.2.a.lt m hm).2 (fun e => (HS.out.2.1 m (HS.out.1 m (.inl hm))).1 e.1), H1.out.2.2.2.2.2.b.of_heap fun m hm => ch2.block m (H1.out.2.2.2.2.2.b.lt m hm).2 (fun e => (HS.out.2.1 m (HS.out.1 m (.inr hm))).1 e.1), H1.out.2.2.2.2.2.ne⟩
  have chg2 : Chg S w w2 := H1.out.2.2.2.1.trans (ch2.mono fun m e => HS.out.2.2.2 m (.inr (.inl e.1)))
  have z2 : w.heap.size + 1 ≤ w2.heap.size := Nat.le_trans H1.out.2.2.2.2.1 ch2.size
  have q3 : w2.cell? ⟨w.heap.size, 3, none⟩ = some (.slice a4 bs.length c4) := bx2.cell 3
  have H2 := hide (And.intro I2 (And.intro J2 (And.intro chg2 (And.intro z2 T2))))
  clear bx2 I2 J2 chg2 z2 T2 ch2 C2 H1
  go_wp2_with fail
  refine (C3.out _ H2.out.2.1).mono ?_
  rintro e w3 ⟨tb2, rfl, J3, ch3⟩
  have I3 := H2.out.1.of_heap (w' := w3) fun m hm hlt => ch3.block m hlt (fun e => HS.out.2.2.1 m hm.1 e.1)
  have T3 : Two w3 0 (.slice a1 xs.length c1) (.slice a2 ys.length c2) (marksB k xs.length) (marksB (k + xs.length) ys.length) :=
    ⟨H2.out.2.2.2.2.a.of_heap fun m hm => ch3.block m (H2.out.2.2.2.2.a.lt m hm).2 (fun e => (HS.out.2.1 m (HS.out.1 m (.inl hm))).2 e.1), H2.out.2.2.2.2.b.of_heap fun m hm => ch3.block m (H2.out.2.2.2.2.b.lt m hm).2 (fun e => (HS.out.2.1 m (HS.out.1 m (.inr hm))).2 e.1), H2.out.2.2.2.2.ne⟩
  have H3 := hide (And.intro (HDM.out w3 ⟨S1, _, _, ti2, tb2, T3, HS.out.1, I3, J3, fun m hm => ⟨fun e => (HS.out.2.1 m hm).1 e.1, fun e => (HS.out.2.1 m hm).2 e.1⟩, fun m hm e => HS.out.2.2.1 m hm.1 e.1, fun m hm => HS.out.2.2.2 m (hm.imp id (Or.imp And.left And.left))⟩) (H2.out.2.2.1.trans (ch3.mono fun m e => HS.out.2.2.2 m (.inr (.inr e.1)))))
  clear I3 T3 J3 ch3 C3 H2
  go_wp2
  go_ret
  exact ⟨rfl, H3.out⟩
set_option maxRecDepth 100000 in
set_option maxHeartbeats 1600000 in
theorem heldDisk_any (u v iv bv : Value) (xs ys : List Bool) (is : List Ino) (bs : List Blk) (S : Nat → Prop) (k : Nat) (w : World) (h : DM w S u v iv bv k xs ys is bs) (hk0 : 1 ≤ k) (hk : cntD k xs ys is bs ≤ 100000000000000) :
    Calls Tryz.prog 38 #[.agg #[u, v, iv, bv], .int .i64 k] w fun e w' => e = .returned (.int .i64 (cntD k xs ys is bs : Nat)) ∧ Below w.heap.size w w' := by
  have HF := hide h.dr.form
  obtain ⟨S1, S2, S3, ti, tb, hT, hs1, hi, hb, d1, d2, hU⟩ := h
  have hc1 : cnt szI (k + xs.length + ys.length) is ≤ 100000000000000 := Nat.le_trans (cnt_ge _ _) hk
  have hc0 : k + xs.length + ys.length ≤ 100000000000000 := Nat.le_trans (cnt_ge _ _) hc1
  obtain ⟨K1, hK1⟩ : ∃ K, k + xs.length + ys.length = K := ⟨_, rfl⟩
  obtain ⟨K2, hK2⟩ : ∃ K, cnt szI K1 is = K := ⟨_, rfl⟩
  have hg1 : K1 ≤ K2 := by rw [← hK2]; exact cnt_ge _ _
  have hkb : cnt szB K2 bs ≤ 100000000000000 := by rw [← hK2, ← hK1]; exact hk
  have hCD : cntD k xs ys is bs = cnt szB K2 bs := by rw [cntD, hK1, hK2]
  rw [hK1] at hc1 hc0 hi hb
  rw [hK2] at hb
  rw [hCD]
  have C1 := hide (fun W h => heldN_any u v xs.length ys.length 0 k W h (by omega) (by omega) (by omega))
  rw [hK1] at C1
  have C2 := hide (fun W h => heldInoS_any iv ti is S2 K1 W h hc1)
  rw [hK2] at C2
  have C3 := hide (fun W h => heldBlkS_any bv tb bs S3 K2 W h (by omega) hkb)
  have hg2 : K2 ≤ cnt szB K2 bs := cnt_ge _ _
  generalize cnt szB K2 bs = K3 at *
  have HT := hide hT
  have HI := hide hi
  have HB := hide hb
  clear hT hi hb hs1 d1 d2 hU hk hkb hCD hK1 hK2
  obtain ⟨a1, c1, a2, c2, a3, c3, a4, c4, rfl, rfl, rfl, rfl⟩ := HF.out
  generalize (marksB k xs.length).length = l1 at *
  generalize (marksB (k + xs.length) ys.length).length = l2 at *
  generalize (mkL szI mkI (k + xs.length + ys.length) is).length = l3 at *
  generalize (mkL szB mkB (cnt szI (k + xs.length + ys.length) is) bs).length = l4 at *
  have n1 : ¬ ((K1 : Int) < 0) := by omega
  have n2 : ¬ ((K2 : Int) < 0) := by omega
  have n3 : ¬ ((K3 : Int) < 0) := by omega
  go_enter Tryz.func38, Tryz.ntmps38
  go_wp2_with fail
  refine (C1.out _ (HT.out.alloc _)).mono ?_
  rintro e w1 ⟨rfl, B1⟩
  have bx1 : AtC w1 w.heap.size 41 #[.slice a1 l1 c1, .slice a2 l2 c2, .slice a3 l3 c3, .slice a4 l4 c4] := (AtC.new w 41 _).over B1
  have b1 : Below w.heap.size w w1 := ((Below.refl _ w).alloc (Nat.le_refl _) _).trans (B1.mono (by simp))
  have q2 : w1.cell? ⟨w.heap.size, 2, none⟩ = some (.slice a3 l3 c3) := bx1.cell 2
  have H1 := hide (And.intro bx1 b1)
  clear bx1 b1 B1 C1
  go_wp2_with fail
  refine (C2.out _ (HI.out.below H1.out.2 (Nat.le_refl _))).mono ?_
  rintro e w2 ⟨rfl, B2⟩
  have bx2 := H1.out.1.over B2
  have b2 := H1.out.2.trans (B2.mono H1.out.2.size)
  have q3 : w2.cell? ⟨w.heap.size, 3, none⟩ = some (.slice a4 l4 c4) := bx2.cell 3
  have H2 := hide b2
  clear bx2 b2 B2 C2 H1
  go_wp2_with fail
  refine (C3.out _ (HB.out.below H2.out (Nat.le_refl _))).mono ?_
  rintro e w3 ⟨rfl, B3⟩
  have H3 := hide (H2.out.trans (B3.mono H2.out.size))
  clear B3 C3 H2
  go_wp2
  go_ret
  exact ⟨rfl, H3.out⟩
end Go.Proofs.YtaoachljojbnjaaGreat
/- laws.markDepS and laws.heldDepS by their contracts. -/
namespace Go.Proofs.YtaoachljojbnjaaGreat
open Go.RowKit Kit
theorem mk3_toInt {z : Int} {k : Nat} (h : z = (k : Int)) : (z % 3 == 0) = mk3 k := by rw [h, mk3_int]
set_option maxRecDepth 100000 in
set_option maxHeartbeats 3200000 in
theorem markDepS_any (v : Value) (ts : List Row) (xs : List Dp) (S : Nat → Prop) (k : Nat) (w : World) (h : GN KDep w S v ts xs) (hk : cnt szDp k xs ≤ 100000000000000) :
    Calls Tryz.prog 36 #[v, .int .i64 k] w fun e w' => ∃ ts', e = .returned (.int .i64 (cnt szDp k xs : Nat)) ∧ GN KDep w' S v ts' (mkL szDp mkDp k xs) ∧ Chg S w w' := by
  have hlen : k + xs.length ≤ cnt szDp k xs := cnt_len (fun x => by simp [szDp]; omega) k xs
  obtain ⟨a1, c1, rfl⟩ := h.form
  have HG := hide h
  have HK := hide hk
  clear h
  go_enter Tryz.func36, Tryz.ntmps36
  go_wp2
  go_loopw [1, 5] (fun x i wr => ∃ j : Nat, j ≤ xs.length ∧ i = .int .i64 j ∧ x = .int .i64 (cnt szDp k (xs.take j) : Nat) ∧ Hid (∃ ts, GN KDep wr S (.slice a1 xs.length c1) ts (mkd szDp mkDp k j xs)) ∧ Hid (Chg S w wr)) (fun _ i _ => xs.length - (intOf i).toNat)
  case atStart => exact ⟨0, Nat.zero_le _, rfl, rfl, ⟨ts, by rw [mkd_zero]; exact HG.out⟩, Chg.refl _ _⟩
  case round =>
    obtain ⟨j, hj, rfl, rfl, HT, HC⟩ := hrel
    by_cases hlt : j < xs.length
    · obtain ⟨ts2, hts⟩ := HT.out
      have hl2 : ts2.length = xs.length := by rw [hts.len, mkd_length]
      have hj2 : j < ts2.length := by omega
      have hin := hts.inn j hj2 (by rw [mkd_length]; exact hlt)
      rw [mkd_at k j xs hlt] at hin
      obtain ⟨p, hrow, hO⟩ := hin
      obtain ⟨g, c2, e1, -, -, k5, -⟩ := hts.row.at j hj2
      simp only [Value.slice.injEq] at e1
      obtain ⟨rfl, -, rfl⟩ := e1
      have hcle := cnt_le (sz := szDp) k xs j hlt
      have hcs := cnt_succ (sz := szDp) k xs j hlt
      have hset := mkd_set (sz := szDp) (mk := mkDp) k j xs hlt
      obtain ⟨X, hX⟩ : ∃ X, xs[j] = X := ⟨_, rfl⟩
      rw [hX] at hrow hO hcle hcs hset
      obtain ⟨id, kd, io, pt, bk, sl, nm, bt, ot, af, bl⟩ := X
      simp only at hO
      obtain ⟨pa, pc, rfl⟩ := hO.rints.form
      obtain ⟨d0, fz⟩ := hts.row.deps j hj2 hrow rfl
      simp only [DCells] at d0
      obtain ⟨k0, k1, k2, k3, k4, k5', -⟩ := d0
      obtain ⟨K, hK⟩ : ∃ K : Nat, cnt szDp k (xs.take j) = K := ⟨_, rfl⟩
      rw [hK] at hcle hcs hset ⊢
      simp only [szDp] at hcle hcs
      have hK1 : K + (10 + bl.length) ≤ 100000000000000 := Nat.le_trans hcle hk
      obtain ⟨z1, e1⟩ : ∃ z : Int, (K : Int) + 1 = z := ⟨_, rfl⟩
      obtain ⟨z2, e2⟩ : ∃ z : Int, z1 + 1 = z := ⟨_, rfl⟩
      obtain ⟨z3, e3⟩ : ∃ z : Int, z2 + 1 = z := ⟨_, rfl⟩
      obtain ⟨z4, e4⟩ : ∃ z : Int, z3 + 1 = z := ⟨_, rfl⟩
      obtain ⟨z5, e5⟩ : ∃ z : Int, z4 + 1 = z := ⟨_, rfl⟩
      obtain ⟨z6, e6⟩ : ∃ z : Int, z5 + 1 = z := ⟨_, rfl⟩
      obtain ⟨z7, e7⟩ : ∃ z : Int, z6 + 1 = z := ⟨_, rfl⟩
      obtain ⟨z8, e8⟩ : ∃ z : Int, z7 + 1 = z := ⟨_, rfl⟩
      obtain ⟨z9, e9⟩ : ∃ z : Int, z8 + 1 = z := ⟨_, rfl⟩
      obtain ⟨z10, e10⟩ : ∃ z : Int, z9 + 1 = z := ⟨_, rfl⟩
      have t1 : z1 = ((K + 1 : Nat) : Int) := by omega
      have t2 : z2 = ((K + 2 : Nat) : Int) := by omega
      have t3 : z3 = ((K + 3 : Nat) : Int) := by omega
      have t4 : z4 = ((K + 4 : Nat) : Int) := by omega
      have t5 : z5 = ((K + 5 : Nat) : Int) := by omega
      have t6 : z6 = ((K + 6 : Nat) : Int) := by omega
      have t7 : z7 = ((K + 7 : Nat) : Int) := by omega
      have t8 : z8 = ((K + 8 : Nat) : Int) := by omega
      have t9 : z9 = ((K + 9 : Nat) : Int) := by omega
      have t10 : z10 = ((K + 10 : Nat) : Int) := by omega
      have HM : Hid (∀ w2, Below ((((((wr.setCell ⟨g, j * 11, none⟩ (.int .i64 (K : Int))).setCell ⟨g, j * 11 + 1, none⟩ (.int .i64 z1)).setCell ⟨g, j * 11 + 2, none⟩ (.int .i64 z2)).setCell ⟨g, j * 11 + 3, none⟩ (.int .i64 z3)).setCell ⟨g, j * 11 + 4, none⟩ (.int .i64 z4)).setCell ⟨g, j * 11 + 5, none⟩ (.int .i64 z5)).heap.size ((((((wr.setCell ⟨g, j * 11, none⟩ (.int .i64 (K : Int))).setCell ⟨g, j * 11 + 1, none⟩ (.int .i64 z1)).setCell ⟨g, j * 11 + 2, none⟩ (.int .i64 z2)).setCell ⟨g, j * 11 + 3, none⟩ (.int .i64 z3)).setCell ⟨g, j * 11 + 4, none⟩ (.int .i64 z4)).setCell ⟨g, j * 11 + 5, none⟩ (.int .i64 z5)) w2 → (w2.cell? ⟨g, j * 11 + 6, none⟩ = some (.string nm) ∧ w2.cell? ⟨g, j * 11 + 7, none⟩ = some (.bool bt) ∧ w2.cell? ⟨g, j * 11 + 8, none⟩ = some (.bool ot) ∧ w2.cell? ⟨g, j * 11 + 9, none⟩ = some (.int .i64 af) ∧ w2.cell? ⟨g, j * 11 + 10, none⟩ = some (.slice pa bl.length pc) ∧ (∀ i, w2.frozen? ⟨g, i, none⟩ = false)) ∧ ROwns ((((w2.setCell ⟨g, j * 11 + 6, none⟩ (.string (mkT z6.toNat))).setCell ⟨g, j * 11 + 7, none⟩ (.bool ((z7 % 3) == 0))).setCell ⟨g, j * 11 + 8, none⟩ (.bool ((z8 % 3) == 0))).setCell ⟨g, j * 11 + 9, none⟩ (.int .i64 z9)) 0 3 (.slice pa bl.length pc) (ic bl) ∧ ∀ w4, ROwns w4 0 3 (.slice pa bl.length pc) (ic (marksI (K + 10) bl.length)) → ((((w2.setCell ⟨g, j * 11 + 6, none⟩ (.string (mkT z6.toNat))).setCell ⟨g, j * 11 + 7, none⟩ (.bool ((z7 % 3) == 0))).setCell ⟨g, j * 11 + 8, none⟩ (.bool ((z8 % 3) == 0))).setCell ⟨g, j * 11 + 9, none⟩ (.int .i64 z9)).grownBy w4 (Value.slice pa bl.length pc).ownBlock → (∃ ts, GN KDep w4 S (.slice (some ⟨g, 0, none⟩) xs.length c1) ts (mkd szDp mkDp k (j + 1) xs)) ∧ Chg S w w4) := fun w2 hb => by
        obtain ⟨q1, q2, q3⟩ := hts.markD rfl j hj2 hrow (K : Int) z1 z2 z3 z4 z5 hb
        obtain ⟨-, -, -, -, -, -, y6, y7, y8, y9, y10⟩ := q1
        obtain ⟨q4, q5⟩ := q3 (mkT z6.toNat) (z7 % 3 == 0) (z8 % 3 == 0) z9 bl (marksI (K + 10) bl.length) hO
        refine ⟨⟨y6, y7, y8, y9, y10, q2⟩, q4, fun w4 hr hg => ?_⟩
        obtain ⟨r1, r2⟩ := q5 w4 hr hg
        rw [show (⟨(K : Int), z1, z2, z3, z4, z5, mkT z6.toNat, z7 % 3 == 0, z8 % 3 == 0, z9, marksI (K + 10) bl.length⟩ : Dp) = mkDp K ⟨id, kd, io, pt, bk, sl, nm, bt, ot, af, bl⟩ by
          rw [mk3_toInt t7, mk3_toInt t8, t1, t2, t3, t4, t5, t6, t9, Int.toNat_natCast]; rfl, hset] at r1
        exact ⟨⟨_, r1⟩, HC.out.trans r2⟩
      have HCS := hide hcs
      have HZ10 := hide t10
      have f0 := fz (j * 11)
      have f1 := fz (j * 11 + 1)
      have f2 := fz (j * 11 + 2)
      have f3 := fz (j * 11 + 3)
      have f4 := fz (j * 11 + 4)
      have f5 := fz (j * 11 + 5)
      have j0 : (0 : Int) ≤ (j : Int) := by omega
      have j1 : (j : Int) < (xs.length : Int) := by omega
      clear hts HT hcle hset hK hrow hO hcs fz hl2 hj2 hX t1 t2 t3 t4 t5 t6 t7 t8 t9 t10
      go_wp2_with (first | (go_at_call 58; refine (markText_int _ _ (by omega) (by omega)).mono ?_; rintro e w2 ⟨rfl, B2⟩; obtain ⟨⟨y6, y7, y8, y9, y10, yf⟩, HO', HW'⟩ := HM.out w2 B2; have HO := hide HO'; have HW := hide HW'; have u6 := yf (j * 11 + 6); have u7 := yf (j * 11 + 7); have u8 := yf (j * 11 + 8); have u9 := yf (j * 11 + 9); clear B2 yf HO' HW') | (go_at_call 37; rw [HZ10.out]; refine (markI_any _ bl 0 (K + 10) _ HO.out (by omega) (by omega)).mono ?_; rintro e w4 ⟨rfl, R4, G4⟩; have H1 := hide (HW.out w4 R4 G4); clear R4 G4))
      go_roundw
      case rel => exact ⟨j + 1, by omega, by go_num, by rw [HCS.out]; go_num, H1.out.1, H1.out.2⟩
      case measure => simp [intOf]; omega
    · have hjl : j = xs.length := by omega
      have HJ := hide hjl
      clear hjl
      go_wp2
      go_ret
      obtain ⟨ts2, hts⟩ := HT.out
      rw [HJ.out, mkd_all] at hts
      exact ⟨ts2, by rw [HJ.out, cnt_all]; rfl, hts, HC.out⟩
end Go.Proofs.YtaoachljojbnjaaGreat
