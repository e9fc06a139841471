/- impl.scriptWords by its contract: a map of closures. -/
import Derived.Test.YthfiaihbpnlbjaaDoorCx
import Derived.Maps.OwnSet
import Derived.Maps.Views
namespace Go.Proofs.YthfiaihbpnlbjaaDoor
open Go.RowKit Kit
open Go.Maps (Keyed IsMap string_keyed atKey_put_same atKey_put_other has_put_same has_put_other)
abbrev RH : Value → Option (DataW Value × List MemPlace) := fun v => some (.held v, [])
/-- The i-th word, and how many parts stand behind it. -/
def word (i : Nat) : ByteArray := (wk.getD i (e0, 0)).1
def nOf (i : Nat) : Nat := (wk.getD i (e0, 1)).2 - 1
/-- The closure that reads the parts of the i-th word. -/
def RF (w : World) (B i : Nat) (rf : Value) : Prop :=
  if i = 2 then rf = .func (.func 27) #[] #[] else if i = 4 then rf = .func (.func 26) #[] #[] else if i = 5 then rf = .func (.func 29) #[] #[]
  else ∃ pk, B ≤ pk ∧ rf = .func (.func (if i < 6 then 37 else 38)) #[] #[pt pk] ∧ AtC w pk 3 #[.int .i64 ((i : Int) + 1)]
def FW (w : World) (B i : Nat) (f : Value) : Prop := ∃ pn pr rf, f = exF pn pr ∧ B ≤ pn ∧ B ≤ pr ∧ AtC w pn 3 #[.int .i64 (nOf i)] ∧ AtC w pr 48 #[rf] ∧ RF w B i rf
theorem RF.kept {w w' : World} {B i : Nat} {rf : Value} (h : RF w B i rf) (hk : ∀ b T cs, B ≤ b → AtC w b T cs → AtC w' b T cs) : RF w' B i rf := by
  unfold RF at *
  split
  · rw [if_pos (by assumption)] at h; exact h
  · rename_i h2
    rw [if_neg h2] at h
    split
    · rw [if_pos (by assumption)] at h; exact h
    · rename_i h4
      rw [if_neg h4] at h
      split
      · rw [if_pos (by assumption)] at h; exact h
      · rename_i h5
        rw [if_neg h5] at h
        obtain ⟨pk, h6, h7, h8⟩ := h
        exact ⟨pk, h6, h7, hk _ _ _ h6 h8⟩
theorem FW.kept {w w' : World} {B i : Nat} {f : Value} (h : FW w B i f) (hk : ∀ b T cs, B ≤ b → AtC w b T cs → AtC w' b T cs) : FW w' B i f := by
  obtain ⟨pn, pr, rf, h1, h2, h3, h4, h5, h6⟩ := h
  exact ⟨pn, pr, rf, h1, h2, h3, hk _ _ _ h2 h4, hk _ _ _ h3 h5, h6.kept hk⟩
theorem FW.over {w w' : World} {B i : Nat} {f : Value} (h : FW w B i f) (hb : Below w.heap.size w w') : FW w' B i f := h.kept fun _ _ _ _ h => h.over hb
theorem FW.mono {w : World} {B B' i : Nat} {f : Value} (h : FW w B i f) (hB : B' ≤ B) : FW w B' i f := by
  obtain ⟨pn, pr, rf, h1, h2, h3, h4, h5, h6⟩ := h
  refine ⟨pn, pr, rf, h1, by omega, by omega, h4, h5, ?_⟩
  unfold RF at *
  split
  · rw [if_pos (by assumption)] at h6; exact h6
  · rename_i k2
    rw [if_neg k2] at h6
    split
    · rw [if_pos (by assumption)] at h6; exact h6
    · rename_i k4
      rw [if_neg k4] at h6
      split
      · rw [if_pos (by assumption)] at h6; exact h6
      · rename_i k5
        rw [if_neg k5] at h6
        obtain ⟨pk, h6, h7, h8⟩ := h6
        exact ⟨pk, by omega, h7, h8⟩
/-- What the map holds, the last entry first. -/
def kyL (i : Nat) : List UInt8 := (word i).data.toList
def DL : List (Nat × Value) → DataW Value
  | [] => .map []
  | x :: l => (DL l).put (.string (kyL x.1)) (.held x.2)
def lk : List (Nat × Value) → List UInt8 → Option Value
  | [], _ => none
  | x :: l, t => if kyL x.1 = t then some x.2 else lk l t
theorem DL_map : ∀ l, IsMap (DL l)
  | [] => ⟨[], rfl⟩
  | _ :: l => (DL_map l).put _ _
theorem DL_has (t : List UInt8) : ∀ l, Maps.has (DL l) (.string t) = (lk l t).isSome
  | [] => rfl
  | x :: l => by
    by_cases h : kyL x.1 = t
    · rw [DL, lk, if_pos h, h, has_put_same (DL_map l) (by simp [WideAt.IsKeyLit])]
      rfl
    · rw [DL, lk, if_neg h, has_put_other (fun e => h (by injection e with e; exact e.symm)), DL_has t l]
theorem DL_at (t : List UInt8) (z : Value) : ∀ l, (DL l).atKey (.string t) (.held z) = .held ((lk l t).getD z)
  | [] => rfl
  | x :: l => by
    by_cases h : kyL x.1 = t
    · rw [DL, lk, if_pos h, h, atKey_put_same (DL_map l) (by simp [WideAt.IsKeyLit])]
      rfl
    · rw [DL, lk, if_neg h, atKey_put_other (fun e => h (by injection e with e; exact e.symm)), DL_at t z l]
theorem key9 (s : ByteArray) (hs : s.size ≤ 1000000) : keyOf Tryd.prog 9 (.string s) = some (.string s.data.toList) := by
  simp only [keyOf, mapKey, Tryd.underlying9]
  rw [if_pos (by unfold maxLen; omega)]
theorem keyed9 : Keyed Tryd.prog 9 := string_keyed Tryd.underlying9
/-- The map while it is filled. -/
structure MW (w0 w : World) (l : List (Nat × Value)) : Prop where
  own : w.ownsMap Tryd.prog 9 RH w0.heap.size l.length (DL l)
  bl : Below w0.heap.size w0 w
  fs : ∀ x ∈ l, FW w (w0.heap.size + 1) x.1 x.2
theorem MW.over {w0 w w' : World} {l : List (Nat × Value)} (h : MW w0 w l) (hb : Below w.heap.size w w') : MW w0 w' l :=
  ⟨h.own.kept (grownBy_below hb none) (by simp), h.bl.trans (hb.mono h.bl.size), fun x hx => (h.fs x hx).over hb⟩
theorem MW.step {w0 w : World} {l : List (Nat × Value)} (h : MW w0 w l) (i : Nat) (f : Value) (hf : FW w (w0.heap.size + 1) i f) (hl : l.length ≤ 10) (hi : i < 8) :
    ∃ w2, (Instr.mapUpdate 37 (.map (some w0.heap.size)) (.string (word i)) f).run Tryd.prog w = .ok () w2 ∧ MW w0 w2 ((i, f) :: l) := by
  have hs : (word i).size ≤ 1000000 := by
    have : i = 0 ∨ i = 1 ∨ i = 2 ∨ i = 3 ∨ i = 4 ∨ i = 5 ∨ i = 6 ∨ i = 7 := by omega
    rcases this with rfl | rfl | rfl | rfl | rfl | rfl | rfl | rfl <;> decide
  obtain ⟨w2, h1, h2, h3⟩ := h.own.update (t := 37) (e := 48) keyed9 Tryd.underlying37 (by unfold maxLen; omega) (key9 (word i) hs) (val := f) (d := .held f) (ps := []) rfl
  have hk : ∀ b T cs, w0.heap.size + 1 ≤ b → AtC w b T cs → AtC w2 b T cs := fun b T cs hb ha => ha.grown h3 (fun e => by simp only [Option.some.injEq] at e; omega)
  refine ⟨w2, h1, h2, h.bl.grown h3 h.bl.size (fun k e => by simp only [Option.some.injEq] at e; omega), fun x hx => ?_⟩
  rcases List.mem_cons.1 hx with rfl | hx
  · exact hf.kept hk
  · exact (h.fs x hx).kept hk
theorem pathWordF_any (i : Nat) (hi : i = 0 ∨ i = 1 ∨ i = 3) (w : World) :
    Calls Tryd.prog 23 #[.int .i64 ((i : Int) + 1)] w fun e w' => ∃ f, e = .returned f ∧ FW w' w.heap.size i f ∧ Below w.heap.size w w' := by
  refine (pathWord_any _ w).mono ?_
  rintro e w' ⟨rfl, rfl⟩
  have b0 := AtC.new w 3 #[.int .i64 ((i : Int) + 1)]
  refine ⟨_, rfl, ⟨w.heap.size + 1, w.heap.size + 1 + 1, .func (.func 37) #[] #[pt w.heap.size], rfl, by omega, by omega, ?_, ?_, ?_⟩, (((Below.refl _ w).alloc (Nat.le_refl _) _).alloc (by simp) _).alloc (by simp; omega) _⟩
  · have := AtC.new (w.alloc (.cells #[.int .i64 ((i : Int) + 1)] 3)) 3 #[.int .i64 (nOf i)]
    rw [show (w.alloc (.cells #[.int .i64 ((i : Int) + 1)] 3)).heap.size = w.heap.size + 1 by simp] at this
    rcases hi with rfl | rfl | rfl <;> exact this.alloc _
  · have := AtC.new ((w.alloc (.cells #[.int .i64 ((i : Int) + 1)] 3)).alloc (.cells #[.int .i64 1] 3)) 48 #[.func (.func 37) #[] #[pt w.heap.size]]
    rw [show ((w.alloc (.cells #[.int .i64 ((i : Int) + 1)] 3)).alloc (.cells #[.int .i64 1] 3)).heap.size = w.heap.size + 1 + 1 by simp] at this
    exact this
  · have h3 := (b0.alloc (.cells #[.int .i64 1] 3)).alloc (.cells #[.func (.func 37) #[] #[pt w.heap.size]] 48)
    rcases hi with rfl | rfl | rfl <;> exact ⟨w.heap.size, Nat.le_refl _, rfl, h3⟩
theorem loneWordF_any (i : Nat) (hi : i = 6 ∨ i = 7) (w : World) :
    Calls Tryd.prog 24 #[.int .i64 ((i : Int) + 1)] w fun e w' => ∃ f, e = .returned f ∧ FW w' w.heap.size i f ∧ Below w.heap.size w w' := by
  refine (loneWord_any _ w).mono ?_
  rintro e w' ⟨rfl, rfl⟩
  have b0 := AtC.new w 3 #[.int .i64 ((i : Int) + 1)]
  refine ⟨_, rfl, ⟨w.heap.size + 1, w.heap.size + 1 + 1, .func (.func 38) #[] #[pt w.heap.size], rfl, by omega, by omega, ?_, ?_, ?_⟩, (((Below.refl _ w).alloc (Nat.le_refl _) _).alloc (by simp) _).alloc (by simp; omega) _⟩
  · have := AtC.new (w.alloc (.cells #[.int .i64 ((i : Int) + 1)] 3)) 3 #[.int .i64 (nOf i)]
    rw [show (w.alloc (.cells #[.int .i64 ((i : Int) + 1)] 3)).heap.size = w.heap.size + 1 by simp] at this
    rcases hi with rfl | rfl <;> exact this.alloc _
  · have := AtC.new ((w.alloc (.cells #[.int .i64 ((i : Int) + 1)] 3)).alloc (.cells #[.int .i64 0] 3)) 48 #[.func (.func 38) #[] #[pt w.heap.size]]
    rw [show ((w.alloc (.cells #[.int .i64 ((i : Int) + 1)] 3)).alloc (.cells #[.int .i64 0] 3)).heap.size = w.heap.size + 1 + 1 by simp] at this
    exact this
  · have h3 := (b0.alloc (.cells #[.int .i64 0] 3)).alloc (.cells #[.func (.func 38) #[] #[pt w.heap.size]] 48)
    rcases hi with rfl | rfl <;> exact ⟨w.heap.size, Nat.le_refl _, rfl, h3⟩
theorem exactlyF_any (i g : Nat) (hi : (i = 2 ∧ g = 27) ∨ (i = 4 ∧ g = 26) ∨ (i = 5 ∧ g = 29)) (w : World) :
    Calls Tryd.prog 25 #[.int .i64 (nOf i), .func (.func g) #[] #[]] w fun e w' => ∃ f, e = .returned f ∧ FW w' w.heap.size i f ∧ Below w.heap.size w w' := by
  refine (exactly_any _ _ _ w).mono ?_
  rintro e w' ⟨rfl, rfl⟩
  refine ⟨_, rfl, ⟨w.heap.size, w.heap.size + 1, .func (.func g) #[] #[], rfl, by omega, by omega, (AtC.new w 3 _).alloc _, ?_, ?_⟩, ((Below.refl _ w).alloc (Nat.le_refl _) _).alloc (by simp) _⟩
  · have := AtC.new (w.alloc (.cells #[.int .i64 (nOf i)] 3)) 48 #[.func (.func g) #[] #[]]
    rw [show (w.alloc (.cells #[.int .i64 (nOf i)] 3)).heap.size = w.heap.size + 1 by simp] at this
    exact this
  · rcases hi with ⟨rfl, rfl⟩ | ⟨rfl, rfl⟩ | ⟨rfl, rfl⟩ <;> rfl
abbrev ls8 (f0 f1 f2 f3 f4 f5 f6 f7 : Value) : List (Nat × Value) := [(5, f7), (2, f6), (4, f5), (7, f4), (6, f3), (3, f2), (1, f1), (0, f0)]
set_option maxRecDepth 100000 in
set_option maxHeartbeats 3200000 in
theorem words_any (w : World) : Calls Tryd.prog 14 #[] w fun e w' => ∃ f0 f1 f2 f3 f4 f5 f6 f7, e = .returned (.map (some w.heap.size)) ∧ MW w w' (ls8 f0 f1 f2 f3 f4 f5 f6 f7) := by
  have M0 : MW w (w.alloc (.map #[] 0)) [] := ⟨World.ownsMap_made w _ _ _, (Below.refl _ w).alloc (Nat.le_refl _) _, fun x hx => by cases hx⟩
  have z0 : (w.alloc (.map #[] 0)).heap.size = w.heap.size + 1 := by simp
  have M0h := hide M0
  have hf := hmf
  have hmm : ∀ (t : TypeId) (W : World), (Instr.makeMap t none).run Tryd.prog W = .ok (.map (some W.heap.size)) (W.alloc (.map #[] 0)) := fun _ _ => rfl
  go_enter Tryd.func14, Tryd.ntmps14
  go_wp2_with fail
  refine (show Calls Tryd.prog 23 #[.int .i64 1] _ (fun e w' => ∃ f, e = .returned f ∧ FW w' _ 0 f ∧ Below _ _ w') from pathWordF_any 0 (by decide) _).mono ?_
  rintro e v0 ⟨f0, rfl, F0, B0⟩
  obtain ⟨w1, r0, M1⟩ := (M0h.out.over B0).step 0 f0 (F0.mono (by have := z0; omega)) (by simp) (by decide)
  replace r0 : (Instr.mapUpdate 37 (.map (some w.heap.size)) (.string { data := #[109, 97, 107, 101] }) f0).run Tryd.prog v0 = .ok () w1 := r0
  have M1h := hide M1
  clear F0 B0 M1
  go_wp2_with fail
  refine (show Calls Tryd.prog 23 #[.int .i64 2] _ (fun e w' => ∃ f, e = .returned f ∧ FW w' _ 1 f ∧ Below _ _ w') from pathWordF_any 1 (by decide) _).mono ?_
  rintro e v1 ⟨f1, rfl, F1, B1⟩
  obtain ⟨w2, r1, M2⟩ := (M1h.out.over B1).step 1 f1 (F1.mono (by have := M1h.out.own.lt; omega)) (by simp) (by decide)
  replace r1 : (Instr.mapUpdate 37 (.map (some w.heap.size)) (.string { data := #[100, 105, 114] }) f1).run Tryd.prog v1 = .ok () w2 := r1
  have M2h := hide M2
  clear F1 B1 M2
  go_wp2_with fail
  refine (show Calls Tryd.prog 23 #[.int .i64 4] _ (fun e w' => ∃ f, e = .returned f ∧ FW w' _ 3 f ∧ Below _ _ w') from pathWordF_any 3 (by decide) _).mono ?_
  rintro e v2 ⟨f2, rfl, F2, B2⟩
  obtain ⟨w3, r2, M3⟩ := (M2h.out.over B2).step 3 f2 (F2.mono (by have := M2h.out.own.lt; omega)) (by simp) (by decide)
  replace r2 : (Instr.mapUpdate 37 (.map (some w.heap.size)) (.string { data := #[114, 101, 109, 111, 118, 101] }) f2).run Tryd.prog v2 = .ok () w3 := r2
  have M3h := hide M3
  clear F2 B2 M3
  go_wp2_with fail
  refine (show Calls Tryd.prog 24 #[.int .i64 7] _ (fun e w' => ∃ f, e = .returned f ∧ FW w' _ 6 f ∧ Below _ _ w') from loneWordF_any 6 (by decide) _).mono ?_
  rintro e v3 ⟨f3, rfl, F3, B3⟩
  obtain ⟨w4, r3, M4⟩ := (M3h.out.over B3).step 6 f3 (F3.mono (by have := M3h.out.own.lt; omega)) (by simp) (by decide)
  replace r3 : (Instr.mapUpdate 37 (.map (some w.heap.size)) (.string { data := #[102, 108, 117, 115, 104] }) f3).run Tryd.prog v3 = .ok () w4 := r3
  have M4h := hide M4
  clear F3 B3 M4
  go_wp2_with fail
  refine (show Calls Tryd.prog 24 #[.int .i64 8] _ (fun e w' => ∃ f, e = .returned f ∧ FW w' _ 7 f ∧ Below _ _ w') from loneWordF_any 7 (by decide) _).mono ?_
  rintro e v4 ⟨f4, rfl, F4, B4⟩
  obtain ⟨w5, r4, M5⟩ := (M4h.out.over B4).step 7 f4 (F4.mono (by have := M4h.out.own.lt; omega)) (by simp) (by decide)
  replace r4 : (Instr.mapUpdate 37 (.map (some w.heap.size)) (.string { data := #[102, 97, 108, 108] }) f4).run Tryd.prog v4 = .ok () w5 := r4
  have M5h := hide M5
  clear F4 B4 M5
  go_wp2_with fail
  refine (show Calls Tryd.prog 25 #[.int .i64 2, .func (.func 26) #[] #[]] _ (fun e w' => ∃ f, e = .returned f ∧ FW w' _ 4 f ∧ Below _ _ w') from exactlyF_any 4 26 (by decide) _).mono ?_
  rintro e v5 ⟨f5, rfl, F5, B5⟩
  obtain ⟨w6, r5, M6⟩ := (M5h.out.over B5).step 4 f5 (F5.mono (by have := M5h.out.own.lt; omega)) (by simp) (by decide)
  replace r5 : (Instr.mapUpdate 37 (.map (some w.heap.size)) (.string { data := #[109, 111, 118, 101] }) f5).run Tryd.prog v5 = .ok () w6 := r5
  have M6h := hide M6
  clear F5 B5 M6
  go_wp2_with fail
  refine (show Calls Tryd.prog 25 #[.int .i64 3, .func (.func 27) #[] #[]] _ (fun e w' => ∃ f, e = .returned f ∧ FW w' _ 2 f ∧ Below _ _ w') from exactlyF_any 2 27 (by decide) _).mono ?_
  rintro e v6 ⟨f6, rfl, F6, B6⟩
  obtain ⟨w7, r6, M7⟩ := (M6h.out.over B6).step 2 f6 (F6.mono (by have := M6h.out.own.lt; omega)) (by simp) (by decide)
  replace r6 : (Instr.mapUpdate 37 (.map (some w.heap.size)) (.string { data := #[119, 114, 105, 116, 101] }) f6).run Tryd.prog v6 = .ok () w7 := r6
  have M7h := hide M7
  clear F6 B6 M7
  go_wp2_with fail
  refine (show Calls Tryd.prog 25 #[.int .i64 1, .func (.func 29) #[] #[]] _ (fun e w' => ∃ f, e = .returned f ∧ FW w' _ 5 f ∧ Below _ _ w') from exactlyF_any 5 29 (by decide) _).mono ?_
  rintro e v7 ⟨f7, rfl, F7, B7⟩
  obtain ⟨w8, r7, M8⟩ := (M7h.out.over B7).step 5 f7 (F7.mono (by have := M7h.out.own.lt; omega)) (by simp) (by decide)
  replace r7 : (Instr.mapUpdate 37 (.map (some w.heap.size)) (.string { data := #[98, 97, 99, 107] }) f7).run Tryd.prog v7 = .ok () w8 := r7
  have M8h := hide M8
  clear F7 B7 M8
  go_wp2
  go_ret
  exact ⟨f0, f1, f2, f3, f4, f5, f6, f7, rfl, M8h.out⟩
end Go.Proofs.YthfiaihbpnlbjaaDoor
