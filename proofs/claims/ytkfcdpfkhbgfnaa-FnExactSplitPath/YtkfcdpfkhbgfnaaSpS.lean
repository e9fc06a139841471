/- Of the specification: SplitPath by its contract. -/
import Derived.Test.YtkfcdpfkhbgfnaaSm
import Derived.Deep.DeepCutAuto
import Derived.Deep.CutRange
import Derived.OwnWalk
namespace Go.Proofs.Ytkfcdpfkhbgfnaa.Kit
open Go.RowKit
theorem step_append_one {P : Program} (W : World) {ops : Array Oper} {o : Oper} {a : Act} {K : Act → World → Prop} {Q : Exit → Act → World → Prop} {E : Prop} (hgd : o.guard = none) (s x : Operand) (t : TypeId)
    (ho : o.op = .call { callee := .builtin .append, args := #[s, x], argTypes := #[t, t] }) (base : Nat) (e : TypeId) (ht : P.underlying t = some (.slice e)) (z : Value) (bytes : Nat)
    (hi : (P.info? e).map (fun i => (i.zero, i.size, i.bytes)) = some (some z, 1, bytes)) (hzc : z.cells.size = 1) (hby : bytes ≤ 640) (v : Value) (l : List Value) (hs : a.eval s = v) (hown : ROwns W base e v l) (hbase : base ≤ W.heap.size)
    (g : Nat) (y : Value) (hx : a.eval x = .slice (some ⟨g, 0, none⟩) 1 1) (hc : W.cell? ⟨g, 0, none⟩ = some y) (h1 : y.oneCell' = true) (hl : l.length ≤ 100000000000)
    (h : ∀ v' w', ROwns w' base e v' (l ++ [y]) → W.grownBy w' v.ownBlock → (∀ k, v'.ownBlock = some k → v.ownBlock = some k ∨ W.heap.size ≤ k) → K (a.put o.dst v') w') :
    if Region.wanted o (yielded ops a.tmps) = true then Oper.wp P o a W K Q else E := by
  obtain ⟨i0, hi, hz0, hz1, hz2⟩ := info_parts hi
  refine step_append_lies _ hgd s x t ho base e i0 z 1 bytes ht hi hz0 hz1 hz2 hzc (by decide) v l.length l hs hown ⟨g, 0, none⟩ 1 1 [y] hx rfl ?_ (by simpa using h1) (by decide) ?_ ?_ hbase W.heap.size rfl ?_
  · intro j u hj
    cases j with
    | zero => simp only [List.getElem?_cons_zero, Option.some.injEq] at hj; subst hj; simpa [Addr.add] using hc
    | succ j => simp at hj
  · unfold maxLen; omega
  · have : (l.length + 1) * bytes ≤ 100000000001 * 640 := Nat.mul_le_mul (by omega) hby
    omega
  · intro g' cap w' hown' hgrow hat _
    refine h _ w' ?_ hgrow fun k hk => ?_
    · unfold ROwns
      rw [List.length_append]
      exact hown'
    · simp only [Value.ownBlock, Option.some.injEq] at hk
      subst hk
      rcases hat with hat | hat
      · exact .inl hat
      · exact .inr (by omega)
theorem heap_new (w : World) (o : Obj) : (w.alloc o).heap[w.heap.size]? = some o := by
  show (w.heap.push o)[w.heap.size]? = some o
  simp
theorem one_cell (w : World) (T : TypeId) (v : Value) : (w.alloc (.cells #[v] T)).cell? ⟨w.heap.size, 0, none⟩ = some v := cell_of_row _ _ 0 #[v] T _ (heap_new w _)
end Go.Proofs.Ytkfcdpfkhbgfnaa.Kit
namespace Go.Proofs.Ytkfcdpfkhbgfnaa
open Go.RowKit Kit
/-- The answer, as names that are the call's own. -/
def SpR (B : Nat) (w : World) (e : Ending) (l : List ByteArray) (ok : Bool) : Prop := ∃ lv : Value, e = .returned (.tuple #[lv, .bool ok]) ∧ ROwns w B 9 lv (sc l)
theorem SpR.mk {B : Nat} {w : World} {e : Ending} {l : List ByteArray} {ok : Bool} (h : ∃ lv : Value, e = .returned (.tuple #[lv, .bool ok]) ∧ ROwns w B 9 lv (sc l)) : SpR B w e l ok := h
theorem SpR.eq {B : Nat} {w : World} {l l' : List ByteArray} {ok ok' : Bool} (h : l' = l ∧ ok' = ok) {lv : Value} (ho : ROwns w B 9 lv (sc l)) : SpR B w (.returned (.tuple #[lv, .bool ok])) l' ok' := by
  obtain ⟨rfl, rfl⟩ := h
  exact ⟨lv, rfl, ho⟩
/-- What is still to come of the names, when the place is not past the end. -/
def left (p : ByteArray) (b n : Nat) : List ByteArray := if n ≤ p.size then rest p b n else []
theorem left_cut {p : ByteArray} {b n : Nat} (h : n < p.size) (hc : (p[n]).toNat = 47) : left p b n = p.extract b n :: left p (n + 1) (n + 1) := by
  unfold left
  rw [if_pos (by omega), if_pos (by omega), rest_cut p b n h hc]
theorem left_skip {p : ByteArray} {b n : Nat} (h : n < p.size) (hc : (p[n]).toNat ≠ 47) : left p b n = left p b (n + 1) := by
  unfold left
  rw [if_pos (by omega), if_pos (by omega), rest_skip p b n h hc]
theorem left_end {p : ByteArray} {b n : Nat} (h : n = p.size) : left p b n = p.extract b n :: left p (n + 1) (n + 1) := by
  unfold left
  rw [if_pos (by omega), if_neg (by omega), rest_end p b n (by omega), h]
theorem left_none {p : ByteArray} {b n : Nat} (h : p.size < n) : left p b n = [] := if_neg (by omega)
theorem Try.u22s : Try.prog.underlying 22 = some (.slice 9) := by kernel_rfl
theorem Try.i9s : (Try.prog.info? 9).map (fun i => (i.zero, i.size, i.bytes)) = some (some (.string ⟨#[]⟩), 1, 16) := by kernel_rfl
set_option maxRecDepth 100000 in
set_option maxHeartbeats 6400000 in
theorem specSplit_any (p : ByteArray) (w : World) (hp : p.size ≤ 1048576) (al : List ByteArray) (ok : Bool) (ha : Ans p al ok) :
    Calls Try.prog 4 #[.string p] w fun e w' => SpR w.heap.size w' e al ok ∧ Below w.heap.size w w' := by
  have HANS := hide ha
  clear ha
  have H0 : Hid (ROwns (w.alloc (.cells #[] 9)) w.heap.size 9 (.slice (some ⟨w.heap.size, 0, none⟩) 0 0) (sc []) ∧ Below w.heap.size w (w.alloc (.cells #[] 9))) := ⟨ROwns.lit0 w _ 9 (Nat.le_refl _), (Below.refl _ w).alloc (Nat.le_refl _) _⟩
  by_cases h0 : p.size = 0
  · have HN := hide (HANS.out.none (not_begins_zero h0))
    have e0 : p = ⟨#[]⟩ := by
      cases p with | mk d => cases d with | mk l => cases l with | nil => rfl | cons a b => simp [ByteArray.size] at h0
    clear HANS
    subst e0
    go_enter Try.func4, Try.ntmps4
    go_wp2
    go_ret2
    exact ⟨SpR.eq HN.out H0.out.1, H0.out.2⟩
  have h1 : 0 < p.size := by omega
  have hz : ((p.size : Int) == 0) = false := beq_eq_false_iff_ne.mpr (by omega)
  obtain ⟨c0, hc0⟩ : ∃ c0 : Nat, (p[0]'h1).toNat = c0 := ⟨_, rfl⟩
  by_cases hc : c0 = 47
  rotate_left
  · have HN := hide (HANS.out.none (not_begins h1 hc0 hc))
    have hcb : ((c0 : Int) != 47) = true := by simp; omega
    go_enter Try.func4, Try.ntmps4
    go_wp2
    go_ret2
    exact ⟨SpR.eq HN.out H0.out.1, H0.out.2⟩
  have HBG := hide (begins_of h1 hc0 hc)
  have hone := one_iff p h1 (by rw [hc0, hc])
  subst hc
  by_cases hq : p.size = 1
  · have HN := hide (HANS.out.root HBG.out hq)
    rw [decide_eq_true hq] at hone
    go_enter Try.func4, Try.ntmps4
    go_wp2
    go_ret2
    exact ⟨SpR.eq HN.out H0.out.1, H0.out.2⟩
  have hp1 : 1 < p.size := by omega
  rw [decide_eq_false hq] at hone
  go_enter Try.func4, Try.ntmps4
  go_wp2_with fail
  clear hz hc0 hone
  go_loopw [6, 5, 4] (fun i bg lv wr => ∃ (n b : Nat) (l : List ByteArray), 1 ≤ b ∧ b ≤ n ∧ n ≤ p.size + 1 ∧ i = .int .i64 n ∧ bg = .int .i64 b ∧ Hid (ROwns wr w.heap.size 9 lv (sc l) ∧ l.length ≤ n ∧ (∀ s ∈ l, nameOk s = true) ∧ rest p 1 1 = l ++ left p b n ∧ Below w.heap.size w wr)) (fun i bg lv _ => p.size + 2 - (intOf i).toNat)
  case atStart => exact ⟨1, 1, [], Nat.le_refl _, Nat.le_refl _, by omega, rfl, rfl, H0.out.1, Nat.zero_le _, fun s hs => by simp at hs, by unfold left; rw [if_pos (by omega)]; rfl, H0.out.2⟩
  case round =>
    obtain ⟨n, b, l, hb1, hbn, hnp, rfl, rfl, HR⟩ := hrel
    have n0 : (0 : Int) ≤ (n : Int) := by omega
    have b0 : (0 : Int) ≤ (b : Int) := by omega
    by_cases hle : n ≤ p.size
    · have n1 : (n : Int) ≤ (p.size : Int) := by omega
      have bn1 : (b : Int) ≤ (n : Int) := by omega
      have HX : Hid ((p.extract b n).size ≤ 1048576) := by show _ ≤ _; rw [ByteArray.size_extract]; omega
      obtain ⟨r, hr⟩ : ∃ r, nameOk (p.extract b n) = r := ⟨_, rfl⟩
      have CN : Hid (∀ W, Calls Try.prog 9 #[.string (p.extract b n)] W fun e w' => e = .returned (.bool r) ∧ Below W.heap.size W w') := fun W => by rw [← hr]; exact specName_any _ W HX.out
      have HNR := hide hr
      clear hr HX
      have HTL : Hid ((sc l).length ≤ 100000000000) := by have := HR.out.2.1; show _ ≤ _; rw [sc_length]; omega
      by_cases hlt : n < p.size
      · obtain ⟨c, hc⟩ : ∃ c : Nat, (p[n]).toNat = c := ⟨_, rfl⟩
        have HC := hide hc
        have n2 : (n : Int) < (p.size : Int) := by omega
        by_cases h47 : c = 47
        · subst h47
          cases r with
          | false =>
            have HBAD : Hid (al = [] ∧ ok = false) := HANS.out.bad HBG.out hp1 (not_good_mem (HR.out.2.2.2.1.trans (by rw [left_cut hlt HC.out])) HNR.out)
            go_wp2_with (go_at_call 9; refine (CN.out _).mono ?_; rintro e w2 ⟨rfl, B2⟩; have HB2 := hide (HR.out.2.2.2.2.trans (B2.mono HR.out.2.2.2.2.size)); clear B2)
            go_ret2
            exact ⟨SpR.eq HBAD.out (ROwns.lit0 _ _ 9 HB2.out.size), HB2.out.alloc HB2.out.size _⟩
          | true =>
            go_wp2_with (first | (go_at_call 9; refine (CN.out _).mono ?_; rintro e w2 ⟨rfl, B2⟩; have HB2 := hide (HR.out.2.2.2.2.trans (B2.mono HR.out.2.2.2.2.size)); have HT : Hid (ROwns (w2.alloc (.cells #[.string (p.extract b n)] 9)) w.heap.size 9 u4 (sc l)) := (HR.out.1.below B2 (Nat.le_refl _)).alloc _; have HK2 : Hid ((w2.alloc (.cells #[.string (p.extract b n)] 9)).cell? ⟨w2.heap.size, 0, none⟩ = some (.string (p.extract b n))) := one_cell w2 9 (.string (p.extract b n)); have HSZ : Hid (w.heap.size ≤ (w2.alloc (.cells #[.string (p.extract b n)] 9)).heap.size) := (HB2.out.alloc HB2.out.size _).size; clear B2) | (at_builtin; refine wpList_step fun K' hK' => ?_; refine step_append_one _ rfl (.tmp 43) (.tmp 48) 22 rfl w.heap.size 9 Try.u22s _ 16 Try.i9s rfl (by decide) u4 _ rfl HT.out HSZ.out w2.heap.size (.string (p.extract b n)) rfl HK2.out rfl HTL.out ?_; intro v12 w12 T12 G12 V12; refine hK' _ _ ?_; have HR12 := hide (And.intro T12 ((HB2.out.alloc HB2.out.size _).grown G12 HSZ.out (fun k hk => (HT.out.lt k hk).1))); clear T12 G12 V12 hK'))
            have HREL : Hid (∃ (n' b' : Nat) (l' : List ByteArray), 1 ≤ b' ∧ b' ≤ n' ∧ n' ≤ p.size + 1 ∧ Value.int .i64 ((n : Int) + 1) = .int .i64 n' ∧ Value.int .i64 ((n : Int) + 1) = .int .i64 b' ∧ Hid (ROwns w12 w.heap.size 9 v12 (sc l') ∧ l'.length ≤ n' ∧ (∀ s ∈ l', nameOk s = true) ∧ rest p 1 1 = l' ++ left p b' n' ∧ Below w.heap.size w w12)) := by
              refine ⟨n + 1, n + 1, l ++ [p.extract b n], by omega, Nat.le_refl _, by omega, by go_num, by go_num, by rw [sc_append]; exact HR12.out.1, by have := HR.out.2.1; simp; omega, fun s hs => ?_, ?_, HR12.out.2⟩
              · rcases List.mem_append.mp hs with e | e
                · exact HR.out.2.2.1 s e
                · simp only [List.mem_cons, List.not_mem_nil, or_false] at e
                  subst e
                  exact HNR.out
              · rw [HR.out.2.2.2.1, left_cut hlt HC.out, List.append_assoc]; rfl
            go_roundw
            case rel => first | exact HREL.out | ((repeat apply Exists.intro); exact ⟨HREL.out, rfl⟩)
            case measure => simp [intOf]; omega
        · have hcb : ((c : Int) != 47) = true := by simp; omega
          have HS : Hid (left p b n = left p b (n + 1)) := left_skip hlt (by rw [HC.out]; exact h47)
          go_wp2
          go_roundw
          case rel => exact ⟨n + 1, b, l, hb1, by omega, by omega, by go_num, rfl, HR.out.1, by have := HR.out.2.1; omega, HR.out.2.2.1, by rw [← HS.out]; exact HR.out.2.2.2.1, HR.out.2.2.2.2⟩
          case measure => simp [intOf]; omega
      · have n2 : ¬ ((n : Int) < (p.size : Int)) := by omega
        have HEQ : Hid (n = p.size) := by show _ = _; omega
        cases r with
        | false =>
          have HBAD : Hid (al = [] ∧ ok = false) := HANS.out.bad HBG.out hp1 (not_good_mem (HR.out.2.2.2.1.trans (by rw [left_end HEQ.out])) HNR.out)
          go_wp2_with (go_at_call 9; refine (CN.out _).mono ?_; rintro e w2 ⟨rfl, B2⟩; have HB2 := hide (HR.out.2.2.2.2.trans (B2.mono HR.out.2.2.2.2.size)); clear B2)
          go_ret2
          exact ⟨SpR.eq HBAD.out (ROwns.lit0 _ _ 9 HB2.out.size), HB2.out.alloc HB2.out.size _⟩
        | true =>
          go_wp2_with (first | (go_at_call 9; refine (CN.out _).mono ?_; rintro e w2 ⟨rfl, B2⟩; have HB2 := hide (HR.out.2.2.2.2.trans (B2.mono HR.out.2.2.2.2.size)); have HT : Hid (ROwns (w2.alloc (.cells #[.string (p.extract b n)] 9)) w.heap.size 9 u4 (sc l)) := (HR.out.1.below B2 (Nat.le_refl _)).alloc _; have HK2 : Hid ((w2.alloc (.cells #[.string (p.extract b n)] 9)).cell? ⟨w2.heap.size, 0, none⟩ = some (.string (p.extract b n))) := one_cell w2 9 (.string (p.extract b n)); have HSZ : Hid (w.heap.size ≤ (w2.alloc (.cells #[.string (p.extract b n)] 9)).heap.size) := (HB2.out.alloc HB2.out.size _).size; clear B2) | (at_builtin; refine wpList_step fun K' hK' => ?_; refine step_append_one _ rfl (.tmp 43) (.tmp 48) 22 rfl w.heap.size 9 Try.u22s _ 16 Try.i9s rfl (by decide) u4 _ rfl HT.out HSZ.out w2.heap.size (.string (p.extract b n)) rfl HK2.out rfl HTL.out ?_; intro v12 w12 T12 G12 V12; refine hK' _ _ ?_; have HR12 := hide (And.intro T12 ((HB2.out.alloc HB2.out.size _).grown G12 HSZ.out (fun k hk => (HT.out.lt k hk).1))); clear T12 G12 V12 hK'))
          have HREL : Hid (∃ (n' b' : Nat) (l' : List ByteArray), 1 ≤ b' ∧ b' ≤ n' ∧ n' ≤ p.size + 1 ∧ Value.int .i64 ((n : Int) + 1) = .int .i64 n' ∧ Value.int .i64 ((n : Int) + 1) = .int .i64 b' ∧ Hid (ROwns w12 w.heap.size 9 v12 (sc l') ∧ l'.length ≤ n' ∧ (∀ s ∈ l', nameOk s = true) ∧ rest p 1 1 = l' ++ left p b' n' ∧ Below w.heap.size w w12)) := by
            refine ⟨n + 1, n + 1, l ++ [p.extract b n], by omega, Nat.le_refl _, by omega, by go_num, by go_num, by rw [sc_append]; exact HR12.out.1, by have := HR.out.2.1; simp; omega, fun s hs => ?_, ?_, HR12.out.2⟩
            · rcases List.mem_append.mp hs with e | e
              · exact HR.out.2.2.1 s e
              · simp only [List.mem_cons, List.not_mem_nil, or_false] at e
                subst e
                exact HNR.out
            · rw [HR.out.2.2.2.1, left_end HEQ.out, List.append_assoc]; rfl
          go_roundw
          case rel => first | exact HREL.out | ((repeat apply Exists.intro); exact ⟨HREL.out, rfl⟩)
          case measure => simp [intOf]; omega
    · have n1 : ¬ ((n : Int) ≤ (p.size : Int)) := by omega
      have HALL : Hid (rest p 1 1 = l) := by have := HR.out.2.2.2.1; rw [left_none (by omega), List.append_nil] at this; exact this
      obtain ⟨la, lc, rfl, -⟩ := HR.out.1.form
      obtain ⟨ll, hll⟩ : ∃ ll, (sc l).length = ll := ⟨_, rfl⟩
      have hl2 : l.length = ll := by rw [← hll, sc_length]
      rw [hll] at HR
      rw [hll]
      have HL2 := hide hl2
      clear hll hl2
      by_cases h4 : 4 < ll
      · have h4i : (4 : Int) < (ll : Int) := by omega
        have HBAD : Hid (al = [] ∧ ok = false) := HANS.out.bad HBG.out hp1 (not_good_len (by rw [HALL.out, HL2.out]; exact h4))
        have HE : Hid (ROwns (wr.alloc (.cells #[] 9)) w.heap.size 9 (.slice (some ⟨wr.heap.size, 0, none⟩) 0 0) (sc []) ∧ Below w.heap.size w (wr.alloc (.cells #[] 9))) := ⟨ROwns.lit0 wr _ 9 HR.out.2.2.2.2.size, HR.out.2.2.2.2.alloc HR.out.2.2.2.2.size _⟩
        clear HR
        go_wp2
        go_ret2
        exact ⟨SpR.eq HBAD.out HE.out.1, HE.out.2⟩
      · have h4i : ¬ ((4 : Int) < (ll : Int)) := by omega
        have HGD : Hid (al = l ∧ ok = true) := by
          have := HANS.out.good HBG.out hp1 ⟨fun s hs => HR.out.2.2.1 s (by rwa [HALL.out] at hs), by rw [HALL.out, HL2.out]; omega⟩
          rw [HALL.out] at this
          exact this
        go_wp2
        go_ret2
        exact ⟨SpR.eq HGD.out HR.out.1, HR.out.2.2.2.2⟩
end Go.Proofs.Ytkfcdpfkhbgfnaa
