/- Of the program: SplitPath by its contract. -/
import Derived.Test.YtkfcdpfkhbgfnaaSpI
namespace Go.Proofs.Ytkfcdpfkhbgfnaa
open Go.RowKit Kit
theorem emp_iff (r : ByteArray) (h : 0 < r.size) : (r.toList == ([] : List UInt8)) = false := by
  have := emp_false h
  cases hl : r.toList with
  | nil => rw [hl] at this; simp at this
  | cons a b => rfl
set_option maxRecDepth 100000 in
set_option maxHeartbeats 6400000 in
theorem implSplit_any (p : ByteArray) (w : World) (hp : p.size ≤ 1048576) (al : List ByteArray) (ok : Bool) (ha : Ans p al ok) :
    Calls Try.prog 5 #[.string p] w fun e w' => SpR w.heap.size w' e al ok ∧ Below w.heap.size w w' := by
  have HANS := hide ha
  clear ha
  by_cases hbg : begins p
  rotate_left
  · have HN := hide (HANS.out.none hbg)
    have HB := hide hbg
    clear hbg
    go_enter Try.func5, Try.ntmps5
    go_wp2_with (go_at_call 10; refine (cutPrefix_no p _ HB.out).mono ?_; rintro e w2 ⟨rfl, rfl⟩)
    go_ret2
    exact ⟨SpR.eq HN.out (ROwns.nil _ _ _), Below.refl _ _⟩
  have HBG := hide hbg
  obtain ⟨h0, -⟩ := id hbg
  clear hbg
  obtain ⟨r, hr⟩ : ∃ r, p.extract 1 p.size = r := ⟨_, rfl⟩
  have hrz : r.size = p.size - 1 := by rw [← hr, ByteArray.size_extract]; omega
  have CP : Hid (∀ W, Calls Try.prog 10 #[.string p, .string ⟨#[47]⟩] W fun e w' => e = .returned (.tuple #[.string r, .bool true]) ∧ w' = W) := fun W => by rw [← hr]; exact cutPrefix_yes p W HBG.out
  by_cases h1 : p.size = 1
  · have HN := hide (HANS.out.root HBG.out h1)
    have he := emp_true (s := r) (by omega)
    go_enter Try.func5, Try.ntmps5
    go_wp2_with (go_at_call 10; refine (CP.out _).mono ?_; rintro e w2 ⟨rfl, rfl⟩)
    go_ret2
    exact ⟨SpR.eq HN.out (ROwns.nil _ _ _), Below.refl _ _⟩
  have h2 : 1 < p.size := by omega
  have HRT : Hid (rest p 1 1 = rest r 0 0) := by show _ = _; rw [rest_tail p (by omega), hr]
  have he := emp_false (s := r) (by omega)
  have hr1 : r.size ≤ 1048576 := by omega
  clear hr hrz hp h1
  go_enter Try.func5, Try.ntmps5
  go_wp2_with (go_at_call 10; refine (CP.out _).mono ?_; rintro e w2 ⟨rfl, hw2⟩; subst w2)
  clear he
  go_loopw [6, 7] (fun lv fr wr => ∃ (pos b : Nat) (l : List ByteArray), b ≤ pos ∧ pos ≤ r.size ∧ fr = .int .i64 b ∧ wr.heap[w.heap.size]? = some (.stringIter r pos) ∧ Hid (ROwns wr (w.heap.size + 1) 9 lv (sc l) ∧ l.length ≤ 4 ∧ (∀ s ∈ l, nameOk s = true) ∧ rest r 0 0 = l ++ rest r b pos ∧ Below w.heap.size w wr)) (fun _ _ wr => r.size - wr.iterPos w.heap.size)
  case atStart => exact ⟨0, 0, [], Nat.le_refl _, Nat.zero_le _, rfl, World.iter_heap w r 0, ROwns.nil _ _ _, by simp, fun s hs => by simp at hs, rfl, (Below.refl _ w).alloc (Nat.le_refl _) _⟩
  case round =>
    obtain ⟨pos, b, l, hbp, hps, rfl, hit, HR⟩ := hrel
    have hsz : w.heap.size < wr.heap.size := (Array.getElem?_eq_some_iff.1 hit).1
    have b0 : (0 : Int) ≤ (b : Int) := by omega
    have bp : (b : Int) ≤ (pos : Int) := by omega
    by_cases hlt : pos < r.size
    · have pr : (pos : Int) ≤ (r.size : Int) := by omega
      have hnx : ∀ ty, (Instr.next (.pointer (some ⟨w.heap.size, 0, none⟩)) true ty).run Try.prog wr = _ := fun ty => Lib.run_next_any_at wr w.heap.size r pos ty hit hlt
      have hst := step_at r pos hlt
      have hd1 := decode_le r pos
      obtain ⟨d, hd⟩ : ∃ d, (Utf8.decode r pos).1 = d := ⟨_, rfl⟩
      obtain ⟨k, hk⟩ : ∃ k, (Utf8.decode r pos).2 = k := ⟨_, rfl⟩
      rw [hd, hk] at hst hnx
      rw [hd] at hd1
      obtain ⟨W, hW⟩ : ∃ W, wr.iterAt w.heap.size r (pos + k) = W := ⟨_, rfl⟩
      have hit2 : W.heap[w.heap.size]? = some (.stringIter r (pos + k)) := by rw [← hW]; exact Lib.iterAt_heap wr w.heap.size r pos (pos + k) hit
      have HW : Hid (ROwns W (w.heap.size + 1) 9 u6 (sc l) ∧ Below w.heap.size w W) := by
        rw [← hW]
        exact ⟨HR.out.1.of_heap fun j hj => Lib.iterAt_other wr w.heap.size j r (pos + k) (by have := (HR.out.1.lt j hj).1; omega), Lib.below_iterAt HR.out.2.2.2.2 (Nat.le_refl _) r (pos + k)⟩
      have HIP : Hid (wr.iterPos w.heap.size = pos) := by show _ = _; simp only [World.iterPos, hit]
      rw [hW] at hnx
      clear hd hk hW
      have hsz2 : w.heap.size + 1 ≤ W.heap.size := (Array.getElem?_eq_some_iff.1 hit2).1
      rcases hst with ⟨rfl, rfl, h47⟩ | ⟨h47, hk1, hsk⟩
      · have HC : Hid (rest r b pos = r.extract b pos :: rest r (pos + 1) (pos + 1)) := rest_cut r b pos hlt h47
        obtain ⟨x, hx⟩ : ∃ x, r.extract b pos = x := ⟨_, rfl⟩
        rw [hx] at HC
        by_cases h4 : l.length = 4
        · have HBAD : Hid (al = [] ∧ ok = false) := HANS.out.bad HBG.out h2 (not_good_len (by rw [HRT.out, HR.out.2.2.2.1, HC.out]; simp; omega))
          go_wp2_with (go_at_call 11; refine (withName_full u6 l _ x _ HW.out.1 h4).mono ?_; rintro e w2 ⟨rfl, rfl⟩)
          go_ret2
          exact ⟨SpR.eq HBAD.out (ROwns.nil _ _ _), HW.out.2⟩
        · have HL4 : Hid (l.length < 4) := by have := HR.out.2.1; show _ < _; omega
          cases hn : nameOk x with
          | false =>
            have HBAD : Hid (al = [] ∧ ok = false) := HANS.out.bad HBG.out h2 (not_good_mem (x := x) (by rw [HRT.out, HR.out.2.2.2.1, HC.out]) hn)
            have HN := hide hn
            clear hn
            go_wp2_with (go_at_call 11; refine (withName_bad u6 l _ x _ HW.out.1 HL4.out HN.out).mono ?_; rintro e w2 ⟨rfl, B2⟩; have HB2 := hide (HW.out.2.trans (B2.mono HW.out.2.size)); clear B2)
            go_ret2
            exact ⟨SpR.eq HBAD.out (ROwns.nil _ _ _), HB2.out⟩
          | true =>
            have HN := hide hn
            clear hn
            go_wp2_with (go_at_call 11; refine (withName_ok u6 l _ x _ hsz2 HW.out.1 HL4.out HN.out).mono ?_; rintro e w2 ⟨v2, rfl, O2, G2⟩; have HO2 := hide O2; have HG2 := hide G2; clear O2 G2)
            have hit3 : w2.heap[w.heap.size]? = some (.stringIter r (pos + 1)) := (HG2.out.block w.heap.size (by omega) (fun e => by have := (HW.out.1.lt w.heap.size e.symm).1; omega)).trans hit2
            have HREL : Hid (∃ (pos' b' : Nat) (l' : List ByteArray), b' ≤ pos' ∧ pos' ≤ r.size ∧ Value.int .i64 ((pos : Int) + 1) = .int .i64 b' ∧ w2.heap[w.heap.size]? = some (.stringIter r pos') ∧ Hid (ROwns w2 (w.heap.size + 1) 9 v2 (sc l') ∧ l'.length ≤ 4 ∧ (∀ s ∈ l', nameOk s = true) ∧ rest r 0 0 = l' ++ rest r b' pos' ∧ Below w.heap.size w w2)) := by
              refine ⟨pos + 1, pos + 1, l ++ [x], Nat.le_refl _, by omega, by go_num, hit3, HO2.out, by have := HL4.out; simp; omega, fun s hs => ?_, ?_, HW.out.2.trans ⟨HG2.out.os, HG2.out.tape, HG2.out.output, HG2.out.size, fun j hj => HG2.out.block j (by omega) (fun e => by have := (HW.out.1.lt j e.symm).1; omega)⟩⟩
              · rcases List.mem_append.mp hs with e | e
                · exact HR.out.2.2.1 s e
                · simp only [List.mem_cons, List.not_mem_nil, or_false] at e
                  subst e
                  exact HN.out
              · rw [HR.out.2.2.2.1, HC.out, List.append_assoc]; rfl
            have HM : Hid (w2.iterPos w.heap.size = pos + 1) := by show _ = _; simp only [World.iterPos, hit3]
            go_roundw
            case rel => first | exact HREL.out | ((repeat apply Exists.intro); exact ⟨HREL.out, rfl⟩)
            case measure => rw [HM.out, HIP.out]; omega
      · have hpk : pos + k ≤ r.size := by
          obtain ⟨q, -⟩ := hsk (pos + k - 1) (by omega) (by omega)
          omega
        have HS : Hid (rest r b pos = rest r b (pos + k)) := rest_skips r b k pos hsk
        clear hsk
        have hdi : ((d : Int) != 47) = true := by simp; omega
        have HM : Hid (W.iterPos w.heap.size = pos + k) := by show _ = _; simp only [World.iterPos, hit2]
        go_wp2
        go_roundw
        case rel => exact ⟨pos + k, b, l, by omega, hpk, rfl, hit2, HW.out.1, HR.out.2.1, HR.out.2.2.1, by rw [← HS.out]; exact HR.out.2.2.2.1, HW.out.2⟩
        case measure => rw [HM.out, HIP.out]; omega
    · have hnx : ∀ ty, (Instr.next (.pointer (some ⟨w.heap.size, 0, none⟩)) true ty).run Try.prog wr = _ := fun ty => Lib.run_next_end_at wr w.heap.size r pos ty hit hlt
      have br : (b : Int) ≤ (r.size : Int) := by omega
      have HC : Hid (rest r b pos = [r.extract b r.size]) := rest_end r b pos (by omega)
      obtain ⟨x, hx⟩ : ∃ x, r.extract b r.size = x := ⟨_, rfl⟩
      rw [hx] at HC
      have HALL : Hid (rest p 1 1 = l ++ [x]) := by show _ = _; rw [HRT.out, HR.out.2.2.2.1, HC.out]
      have hsz2 : w.heap.size + 1 ≤ wr.heap.size := hsz
      by_cases h4 : l.length = 4
      · have HBAD : Hid (al = [] ∧ ok = false) := HANS.out.bad HBG.out h2 (not_good_len (by rw [HALL.out]; simp; omega))
        go_wp2_with (go_at_call 11; refine (withName_full u6 l _ x _ HR.out.1 h4).mono ?_; rintro e w2 ⟨rfl, rfl⟩)
        go_ret2
        exact ⟨SpR.eq HBAD.out (ROwns.nil _ _ _), HR.out.2.2.2.2⟩
      · have HL4 : Hid (l.length < 4) := by have := HR.out.2.1; show _ < _; omega
        cases hn : nameOk x with
        | false =>
          have HBAD : Hid (al = [] ∧ ok = false) := HANS.out.bad HBG.out h2 (not_good_mem (x := x) (b := []) HALL.out hn)
          have HN := hide hn
          clear hn
          go_wp2_with (go_at_call 11; refine (withName_bad u6 l _ x _ HR.out.1 HL4.out HN.out).mono ?_; rintro e w2 ⟨rfl, B2⟩; have HB2 := hide (HR.out.2.2.2.2.trans (B2.mono HR.out.2.2.2.2.size)); clear B2)
          go_ret2
          exact ⟨SpR.eq HBAD.out (ROwns.nil _ _ _), HB2.out⟩
        | true =>
          have HGD : Hid (al = l ++ [x] ∧ ok = true) := by
            have := HANS.out.good HBG.out h2 ⟨fun s hs => ?_, by rw [HALL.out]; have := HL4.out; simp; omega⟩
            · rw [HALL.out] at this; exact this
            · rw [HALL.out] at hs
              rcases List.mem_append.mp hs with e | e
              · exact HR.out.2.2.1 s e
              · simp only [List.mem_cons, List.not_mem_nil, or_false] at e
                subst e
                exact hn
          have HN := hide hn
          clear hn
          go_wp2_with (go_at_call 11; refine (withName_ok u6 l _ x _ hsz2 HR.out.1 HL4.out HN.out).mono ?_; rintro e w2 ⟨v2, rfl, O2, G2⟩; have HO2 := hide O2; have HG2 := hide G2; clear O2 G2)
          go_ret2
          exact ⟨SpR.eq HGD.out (HO2.out.base_le (by omega)), HR.out.2.2.2.2.trans ⟨HG2.out.os, HG2.out.tape, HG2.out.output, HG2.out.size, fun j hj => HG2.out.block j (by omega) (fun e => by have := (HR.out.1.lt j e.symm).1; omega)⟩⟩
end Go.Proofs.Ytkfcdpfkhbgfnaa
