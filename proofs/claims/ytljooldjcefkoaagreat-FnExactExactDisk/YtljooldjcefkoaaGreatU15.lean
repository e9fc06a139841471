/- Texts of the proof, bundled: Im, Iu, Hd, Sf. -/
import Derived.Test.YtljooldjcefkoaaGreatU14
/- impl.Dangling, Short and WrongKind by their contracts. -/
namespace Go.Proofs.YtljooldjcefkoaaGreat
open Go.RowKit Kit
theorem countP_range {α : Type} (l : List α) (d : α) (f : α → Bool) : ∀ q, q ≤ l.length → (List.range q).countP (fun k => f (l.getD k d)) = (l.take q).countP f
  | 0, _ => by simp
  | q + 1, h => by
    have hq : q < l.length := by omega
    rw [List.range_succ, List.countP_append, countP_range l d f q (by omega), List.countP_cons, List.countP_nil, List.take_succ_eq_append_getElem hq, List.countP_append, List.countP_cons, List.countP_nil]
    simp [hq]
theorem countP_all {α : Type} (l : List α) (d : α) (f : α → Bool) : (List.range l.length).countP (fun k => f (l.getD k d)) = l.countP f := by
  rw [countP_range l d f _ (Nat.le_refl _), List.take_length]
theorem getD_at {α : Type} {l : List α} {k : Nat} (d : α) (h : k < l.length) : l.getD k d = l[k] := by simp [h]
theorem chgF {w W : World} (h : Chg (fun _ => False) w W) : Below w.heap.size w W := h.below (Nat.le_refl _) (fun _ e => e.elim)
theorem mem_ptrL {is : List Ino} {l : List Int} {s : Pr} (h : s ∈ ptrL is l) : s.1 ∈ l ∧ 1 ≤ s.2 ∧ s.2 ≤ 16 := by
  obtain ⟨i, hi, hs⟩ := List.mem_flatMap.1 h
  unfold ptrI at hs
  obtain ⟨p, hp, rfl⟩ := List.mem_map.1 hs
  have := inB_true (List.mem_filter.1 hp).2
  exact ⟨hi, this⟩
/-- What is told of short ones. -/
noncomputable def shortN (is : List Ino) (bs : List Blk) : Nat := (reachL is bs).countP fun i => decide (¬ i = 1 ∧ lnkAt is (i - 1).toNat < linksN is bs i)
/-- What is told of blocks of the wrong kind. -/
noncomputable def wrongN (is : List Ino) (bs : List Blk) : Nat := (ptrL is (reachL is bs)).countP fun s => (blkAt bs s.2).1 != (kindAt is s.1 == 2)
theorem eg61 : ∀ args w, (callFunc 61 args).run Tryz.prog w = .ok (.enter 61 args) w := enters_of Tryz.func61 (by kernel_rfl) rfl
theorem eg71 : ∀ args w, (callFunc 71 args).run Tryz.prog w = .ok (.enter 71 args) w := enters_of Tryz.func71 (by kernel_rfl) rfl
theorem eg73 : ∀ args w, (callFunc 73 args).run Tryz.prog w = .ok (.enter 73 args) w := enters_of Tryz.func73 (by kernel_rfl) rfl
theorem eg67 : ∀ args w, (callFunc 67 args).run Tryz.prog w = .ok (.enter 67 args) w := enters_of Tryz.func67 (by kernel_rfl) rfl
theorem eg70 : ∀ args w, (callFunc 70 args).run Tryz.prog w = .ok (.enter 70 args) w := enters_of Tryz.func70 (by kernel_rfl) rfl
theorem eg64 : ∀ args w, (callFunc 64 args).run Tryz.prog w = .ok (.enter 64 args) w := enters_of Tryz.func64 (by kernel_rfl) rfl
set_option maxRecDepth 100000 in
set_option maxHeartbeats 1600000 in
theorem implDang_any (dx dy iv bv : Value) (xs ys : List Bool) (is : List Ino) (bs : List Blk) (w : World) (h : DR w dx dy iv bv xs ys is bs) (hX : RX xs ys is bs) :
    Calls Tryz.prog 26 #[.agg #[dx, dy, iv, bv]] w fun e w' => e = .returned (.int .i64 (dangN is bs)) ∧ Below w.heap.size w w' := by
  obtain ⟨a1, c1, a2, c2, a3, c3, a4, c4, rfl, rfl, rfl, rfl⟩ := h.form
  have hmf : ∀ (fn : Fn) (first cap : Array Value) (w : World), (Instr.makeFunc fn first cap).run Tryz.prog w = .ok (.func fn first cap) w := fun _ _ _ _ => rfl
  have HB0 : Hid (Below w.heap.size w (w.alloc (.cells #[.slice a1 xs.length c1, .slice a2 ys.length c2, .slice a3 is.length c3, .slice a4 bs.length c4] 35))) := (Below.refl _ w).alloc (Nat.le_refl _) _
  have HA0 := hide (AtC.new w 35 #[.slice a1 xs.length c1, .slice a2 ys.length c2, .slice a3 is.length c3, .slice a4 bs.length c4])
  have CR := hide (rSlots_any (.slice a1 xs.length c1) (.slice a2 ys.length c2) (.slice a3 is.length c3) (.slice a4 bs.length c4) xs ys is bs (w.alloc (.cells #[.slice a1 xs.length c1, .slice a2 ys.length c2, .slice a3 is.length c3, .slice a4 bs.length c4] 35)) (h.alloc _) hX.r)
  have CC : Hid (∀ (v : Value) (w1 : World), SOwns w1 (w.alloc (.cells #[.slice a1 xs.length c1, .slice a2 ys.length c2, .slice a3 is.length c3, .slice a4 bs.length c4] 35)).heap.size 77 v (slotsR is bs) → Below (w.alloc (.cells #[.slice a1 xs.length c1, .slice a2 ys.length c2, .slice a3 is.length c3, .slice a4 bs.length c4] 35)).heap.size (w.alloc (.cells #[.slice a1 xs.length c1, .slice a2 ys.length c2, .slice a3 is.length c3, .slice a4 bs.length c4] 35)) w1 → Calls Tryz.prog 62 #[.agg #[v, .func (.func 61) #[] #[.pointer (some ⟨w.heap.size, 0, none⟩)]]] w1 fun e w' => e = .returned (.int .i64 (dangN is bs)) ∧ Below w.heap.size w w') := fun v w1 ho hb => by
    have b1 : Below w.heap.size w w1 := HB0.out.trans (hb.mono HB0.out.size)
    refine (cntS_any 61 eg61 (.pointer (some ⟨w.heap.size, 0, none⟩)) v (slotsR is bs) (fun k => (fun s : Sl => decide (kindAt is s.2 = 0)) (((slotsR is bs)).getD k (⟨#[]⟩, 0))) (fun _ _ => True) (fun _ => False) w1 (by have := slotsR_len hX.r; omega) (fun _ e => e.elim) (fun W c => ho.rsl.below (chgF c) (Nat.le_refl _)) (fun _ _ => trivial) (fun _ _ _ _ _ => trivial) (fun k hk W _ c => ?_)).mono ?_
    · have b2 := b1.trans ((chgF c).mono b1.size)
      have hd := (HA0.out.over hb).over (chgF c)
      have hw := h.below b2 (Nat.le_refl _)
      have hmem := List.getElem_mem hk
      show Calls _ _ _ _ fun e w' => e = .returned (.bool ((fun s : Sl => decide (kindAt is s.2 = 0)) (((slotsR is bs)).getD k (⟨#[]⟩, 0)))) ∧ _
      rw [getD_at (⟨#[]⟩, 0) hk]
      exact (c61_any _ _ a1 a2 a3 a4 c1 c2 c3 c4 xs ys is bs w.heap.size W hw hX.r hd).mono fun e w' hh => ⟨hh.1, trivial, Chg.of_below hh.2⟩
    · rintro e w' ⟨rfl, -, c⟩
      rw [countP_all (slotsR is bs) (⟨#[]⟩, 0) (fun s : Sl => decide (kindAt is s.2 = 0))]
      exact ⟨rfl, b1.trans ((chgF c).mono b1.size)⟩
  clear h hX
  go_enter Tryz.func26, Tryz.ntmps26
  go_wp2_with fail
  refine CR.out.mono ?_
  rintro e w1 ⟨v, rfl, S1, B1⟩
  have CC1 := hide (CC.out v w1 S1 B1)
  obtain ⟨va, vc, rfl, -⟩ := S1.form
  clear S1 B1 CC CR HB0 HA0
  go_wp2_with fail
  refine CC1.out.mono ?_
  rintro e w2 ⟨rfl, B2⟩
  have HB2 := hide B2
  clear B2 CC1
  go_wp2
  go_ret
  exact ⟨rfl, HB2.out⟩
set_option maxRecDepth 100000 in
set_option maxHeartbeats 1600000 in
theorem implShort_any (dx dy iv bv : Value) (xs ys : List Bool) (is : List Ino) (bs : List Blk) (w : World) (h : DR w dx dy iv bv xs ys is bs) (hX : RX xs ys is bs) :
    Calls Tryz.prog 29 #[.agg #[dx, dy, iv, bv]] w fun e w' => e = .returned (.int .i64 (shortN is bs)) ∧ Below w.heap.size w w' := by
  obtain ⟨a1, c1, a2, c2, a3, c3, a4, c4, rfl, rfl, rfl, rfl⟩ := h.form
  have hmf : ∀ (fn : Fn) (first cap : Array Value) (w : World), (Instr.makeFunc fn first cap).run Tryz.prog w = .ok (.func fn first cap) w := fun _ _ _ _ => rfl
  have HB0 : Hid (Below w.heap.size w (w.alloc (.cells #[.slice a1 xs.length c1, .slice a2 ys.length c2, .slice a3 is.length c3, .slice a4 bs.length c4] 35))) := (Below.refl _ w).alloc (Nat.le_refl _) _
  have HA0 := hide (AtC.new w 35 #[.slice a1 xs.length c1, .slice a2 ys.length c2, .slice a3 is.length c3, .slice a4 bs.length c4])
  have CR := hide (implReach_any (.slice a1 xs.length c1) (.slice a2 ys.length c2) (.slice a3 is.length c3) (.slice a4 bs.length c4) xs ys is bs (w.alloc (.cells #[.slice a1 xs.length c1, .slice a2 ys.length c2, .slice a3 is.length c3, .slice a4 bs.length c4] 35)) (h.alloc _) hX.r)
  have CC : Hid (∀ (v : Value) (w1 : World), ROwns w1 (w.alloc (.cells #[.slice a1 xs.length c1, .slice a2 ys.length c2, .slice a3 is.length c3, .slice a4 bs.length c4] 35)).heap.size 3 v (ic (reachL is bs)) → Below (w.alloc (.cells #[.slice a1 xs.length c1, .slice a2 ys.length c2, .slice a3 is.length c3, .slice a4 bs.length c4] 35)).heap.size (w.alloc (.cells #[.slice a1 xs.length c1, .slice a2 ys.length c2, .slice a3 is.length c3, .slice a4 bs.length c4] 35)) w1 → Calls Tryz.prog 43 #[.agg #[v, .func (.func 71) #[] #[.pointer (some ⟨w.heap.size, 0, none⟩)]]] w1 fun e w' => e = .returned (.int .i64 (shortN is bs)) ∧ Below w.heap.size w w') := fun v w1 ho hb => by
    have b1 : Below w.heap.size w w1 := HB0.out.trans (hb.mono HB0.out.size)
    refine (cntI_any 71 eg71 (.pointer (some ⟨w.heap.size, 0, none⟩)) v (reachL is bs) (fun k => (fun i : Int => decide (¬ i = 1 ∧ lnkAt is (i - 1).toNat < linksN is bs i)) (((reachL is bs)).getD k 0)) (fun _ _ => True) (fun _ => False) w1 (by have := reachL_len is bs; omega) (fun _ e => e.elim) (fun W c => ho.rints.below (chgF c) (Nat.le_refl _)) (fun _ _ => trivial) (fun _ _ _ _ _ => trivial) (fun k hk W _ c => ?_)).mono ?_
    · have b2 := b1.trans ((chgF c).mono b1.size)
      have hd := (HA0.out.over hb).over (chgF c)
      have hw := h.below b2 (Nat.le_refl _)
      have hmem := List.getElem_mem hk
      show Calls _ _ _ _ fun e w' => e = .returned (.bool ((fun i : Int => decide (¬ i = 1 ∧ lnkAt is (i - 1).toNat < linksN is bs i)) (((reachL is bs)).getD k 0))) ∧ _
      rw [getD_at 0 hk]
      have hr := reach8 hmem
      obtain ⟨q, hq⟩ : ∃ q : Nat, (reachL is bs)[k] = (q : Int) + 1 := ⟨((reachL is bs)[k] - 1).toNat, by omega⟩
      rw [hq]
      refine (c71_any q a1 a2 a3 a4 c1 c2 c3 c4 xs ys is bs w.heap.size W hw hX hd (by omega)).mono fun e w' hh => ⟨?_, trivial, Chg.of_below hh.2⟩
      rw [hh.1]
      congr 3
      rw [show ((q : Int) + 1 - 1).toNat = q by omega]
      exact propext ⟨fun ⟨a, b⟩ => ⟨by omega, b⟩, fun ⟨a, b⟩ => ⟨by omega, b⟩⟩
    · rintro e w' ⟨rfl, -, c⟩
      rw [countP_all (reachL is bs) 0 (fun i : Int => decide (¬ i = 1 ∧ lnkAt is (i - 1).toNat < linksN is bs i))]
      exact ⟨rfl, b1.trans ((chgF c).mono b1.size)⟩
  clear h hX
  go_enter Tryz.func29, Tryz.ntmps29
  go_wp2_with fail
  refine CR.out.mono ?_
  rintro e w1 ⟨v, rfl, S1, B1⟩
  have CC1 := hide (CC.out v w1 S1 B1)
  obtain ⟨va, vc, rfl, -⟩ := S1.form
  clear S1 B1 CC CR HB0 HA0
  go_wp2_with fail
  refine CC1.out.mono ?_
  rintro e w2 ⟨rfl, B2⟩
  have HB2 := hide B2
  clear B2 CC1
  go_wp2
  go_ret
  exact ⟨rfl, HB2.out⟩
set_option maxRecDepth 100000 in
set_option maxHeartbeats 1600000 in
theorem implWrong_any (dx dy iv bv : Value) (xs ys : List Bool) (is : List Ino) (bs : List Blk) (w : World) (h : DR w dx dy iv bv xs ys is bs) (hX : RX xs ys is bs) :
    Calls Tryz.prog 30 #[.agg #[dx, dy, iv, bv]] w fun e w' => e = .returned (.int .i64 (wrongN is bs)) ∧ Below w.heap.size w w' := by
  obtain ⟨a1, c1, a2, c2, a3, c3, a4, c4, rfl, rfl, rfl, rfl⟩ := h.form
  have hmf : ∀ (fn : Fn) (first cap : Array Value) (w : World), (Instr.makeFunc fn first cap).run Tryz.prog w = .ok (.func fn first cap) w := fun _ _ _ _ => rfl
  have HB0 : Hid (Below w.heap.size w (w.alloc (.cells #[.slice a1 xs.length c1, .slice a2 ys.length c2, .slice a3 is.length c3, .slice a4 bs.length c4] 35))) := (Below.refl _ w).alloc (Nat.le_refl _) _
  have HA0 := hide (AtC.new w 35 #[.slice a1 xs.length c1, .slice a2 ys.length c2, .slice a3 is.length c3, .slice a4 bs.length c4])
  have CR := hide (rPtrs_any (.slice a1 xs.length c1) (.slice a2 ys.length c2) (.slice a3 is.length c3) (.slice a4 bs.length c4) xs ys is bs (w.alloc (.cells #[.slice a1 xs.length c1, .slice a2 ys.length c2, .slice a3 is.length c3, .slice a4 bs.length c4] 35)) (h.alloc _) hX.r)
  have CC : Hid (∀ (v : Value) (w1 : World), POwns w1 (w.alloc (.cells #[.slice a1 xs.length c1, .slice a2 ys.length c2, .slice a3 is.length c3, .slice a4 bs.length c4] 35)).heap.size 93 v (ptrL is (reachL is bs)) → Below (w.alloc (.cells #[.slice a1 xs.length c1, .slice a2 ys.length c2, .slice a3 is.length c3, .slice a4 bs.length c4] 35)).heap.size (w.alloc (.cells #[.slice a1 xs.length c1, .slice a2 ys.length c2, .slice a3 is.length c3, .slice a4 bs.length c4] 35)) w1 → Calls Tryz.prog 65 #[.agg #[v, .func (.func 73) #[] #[.pointer (some ⟨w.heap.size, 0, none⟩)]]] w1 fun e w' => e = .returned (.int .i64 (wrongN is bs)) ∧ Below w.heap.size w w') := fun v w1 ho hb => by
    have b1 : Below w.heap.size w w1 := HB0.out.trans (hb.mono HB0.out.size)
    refine (cntP_any 73 eg73 (.pointer (some ⟨w.heap.size, 0, none⟩)) v (ptrL is (reachL is bs)) (fun k => (fun s : Pr => (blkAt bs s.2).1 != (kindAt is s.1 == 2)) (((ptrL is (reachL is bs))).getD k (0, 0))) (fun _ _ => True) (fun _ => False) w1 (by have := ptrL_len hX.r (reachL is bs); have := reachL_len is bs; omega) (fun _ e => e.elim) (fun W c => ho.rpr.below (chgF c) (Nat.le_refl _)) (fun _ _ => trivial) (fun _ _ _ _ _ => trivial) (fun k hk W _ c => ?_)).mono ?_
    · have b2 := b1.trans ((chgF c).mono b1.size)
      have hd := (HA0.out.over hb).over (chgF c)
      have hw := h.below b2 (Nat.le_refl _)
      have hmem := List.getElem_mem hk
      show Calls _ _ _ _ fun e w' => e = .returned (.bool ((fun s : Pr => (blkAt bs s.2).1 != (kindAt is s.1 == 2)) (((ptrL is (reachL is bs))).getD k (0, 0)))) ∧ _
      rw [getD_at (0, 0) hk]
      have hr := (mem_ptrL hmem).2
      obtain ⟨⟨io, p⟩, hs⟩ : ∃ s, (ptrL is (reachL is bs))[k] = s := ⟨_, rfl⟩
      rw [hs] at hr ⊢
      simp only at hr ⊢
      obtain ⟨q, rfl⟩ : ∃ q : Nat, p = (q : Int) + 1 := ⟨(p - 1).toNat, by omega⟩
      exact (c73_any io q a1 a2 a3 a4 c1 c2 c3 c4 xs ys is bs w.heap.size W hw hX hd (by omega)).mono fun e w' hh => ⟨hh.1, trivial, Chg.of_below hh.2⟩
    · rintro e w' ⟨rfl, -, c⟩
      rw [countP_all (ptrL is (reachL is bs)) (0, 0) (fun s : Pr => (blkAt bs s.2).1 != (kindAt is s.1 == 2))]
      exact ⟨rfl, b1.trans ((chgF c).mono b1.size)⟩
  clear h hX
  go_enter Tryz.func30, Tryz.ntmps30
  go_wp2_with fail
  refine CR.out.mono ?_
  rintro e w1 ⟨v, rfl, S1, B1⟩
  have CC1 := hide (CC.out v w1 S1 B1)
  obtain ⟨va, vc, rfl, -⟩ := S1.form
  clear S1 B1 CC CR HB0 HA0
  go_wp2_with fail
  refine CC1.out.mono ?_
  rintro e w2 ⟨rfl, B2⟩
  have HB2 := hide B2
  clear B2 CC1
  go_wp2
  go_ret
  exact ⟨rfl, HB2.out⟩
end Go.Proofs.YtljooldjcefkoaaGreat
/- impl.Unmarked by its contract. -/
namespace Go.Proofs.YtljooldjcefkoaaGreat
open Go.RowKit Kit
noncomputable def unmP (xs : List Bool) (is : List Ino) (bs : List Blk) : Nat := (ptrL is (reachL is bs)).countP (fun s : Pr => !(xs.getD (s.2 - 1).toNat false))
noncomputable def unmI (ys : List Bool) (is : List Ino) (bs : List Blk) : Nat := (reachL is bs).countP (fun i : Int => !(ys.getD (i - 1).toNat false))
theorem unm_le {is : List Ino} {bs : List Blk} (h : RD is bs) (xs ys : List Bool) : unmP xs is bs ≤ 16 ∧ unmI ys is bs ≤ 8 := by
  have h1 := ptrL_len h (reachL is bs)
  have h2 := reachL_len is bs
  exact ⟨Nat.le_trans List.countP_le_length (by omega), Nat.le_trans List.countP_le_length h2⟩
set_option maxRecDepth 100000 in
set_option maxHeartbeats 3200000 in
theorem implUnm_any (dx dy iv bv : Value) (xs ys : List Bool) (is : List Ino) (bs : List Blk) (w : World) (h : DR w dx dy iv bv xs ys is bs) (hX : RX xs ys is bs) :
    Calls Tryz.prog 28 #[.agg #[dx, dy, iv, bv]] w fun e w' => e = .returned (.int .i64 ((unmP xs is bs : Int) + (unmI ys is bs : Int))) ∧ Below w.heap.size w w' := by
  obtain ⟨a1, c1, a2, c2, a3, c3, a4, c4, rfl, rfl, rfl, rfl⟩ := h.form
  have hmf : ∀ (fn : Fn) (first cap : Array Value) (w : World), (Instr.makeFunc fn first cap).run Tryz.prog w = .ok (.func fn first cap) w := fun _ _ _ _ => rfl
  have HB0 : Hid (Below w.heap.size w (w.alloc (.cells #[.slice a1 xs.length c1, .slice a2 ys.length c2, .slice a3 is.length c3, .slice a4 bs.length c4] 35))) := (Below.refl _ w).alloc (Nat.le_refl _) _
  have HA0 := hide (AtC.new w 35 #[.slice a1 xs.length c1, .slice a2 ys.length c2, .slice a3 is.length c3, .slice a4 bs.length c4])
  have CR := hide (rPtrs_any (.slice a1 xs.length c1) (.slice a2 ys.length c2) (.slice a3 is.length c3) (.slice a4 bs.length c4) xs ys is bs (w.alloc (.cells #[.slice a1 xs.length c1, .slice a2 ys.length c2, .slice a3 is.length c3, .slice a4 bs.length c4] 35)) (h.alloc _) hX.r)
  have CQ := hide (fun (W : World) (hb : Below w.heap.size w W) => implReach_any (.slice a1 xs.length c1) (.slice a2 ys.length c2) (.slice a3 is.length c3) (.slice a4 bs.length c4) xs ys is bs W (h.below hb (Nat.le_refl _)) hX.r)
  have CP : Hid (∀ (v : Value) (W : World), RPr W v (ptrL is (reachL is bs)) → Below w.heap.size w W → AtC W w.heap.size 35 #[.slice a1 xs.length c1, .slice a2 ys.length c2, .slice a3 is.length c3, .slice a4 bs.length c4] → Calls Tryz.prog 65 #[.agg #[v, .func (.func 67) #[] #[.pointer (some ⟨w.heap.size, 0, none⟩)]]] W fun e w' => e = .returned (.int .i64 (unmP xs is bs)) ∧ Below W.heap.size W w') := fun v W ho b1 ha => by
    refine (cntP_any 67 eg67 (.pointer (some ⟨w.heap.size, 0, none⟩)) v (ptrL is (reachL is bs)) (fun k => (fun s : Pr => !(xs.getD (s.2 - 1).toNat false)) ((ptrL is (reachL is bs)).getD k (0, 0))) (fun _ _ => True) (fun _ => False) W (by have := ptrL_len hX.r (reachL is bs); have := reachL_len is bs; omega) (fun _ e => e.elim) (fun W' c => ho.below (chgF c) (Nat.le_refl _)) (fun _ _ => trivial) (fun _ _ _ _ _ => trivial) (fun k hk W' _ c => ?_)).mono ?_
    · have b2 := b1.trans ((chgF c).mono b1.size)
      have hd := ha.over (chgF c)
      have hw := h.below b2 (Nat.le_refl _)
      have hmem := List.getElem_mem hk
      show Calls _ _ _ _ fun e w' => e = .returned (.bool ((fun s : Pr => !(xs.getD (s.2 - 1).toNat false)) ((ptrL is (reachL is bs)).getD k (0, 0)))) ∧ _
      rw [getD_at (0, 0) hk]
      have hr := (mem_ptrL hmem).2
      obtain ⟨⟨io, p⟩, hs⟩ : ∃ s, (ptrL is (reachL is bs))[k] = s := ⟨_, rfl⟩
      rw [hs] at hr ⊢
      simp only at hr ⊢
      obtain ⟨q, rfl⟩ : ∃ q : Nat, p = (q : Int) + 1 := ⟨(p - 1).toNat, by omega⟩
      rw [show ((q : Int) + 1 - 1).toNat = q by omega]
      exact (c67_any io q a1 a2 a3 a4 c1 c2 c3 c4 xs ys is bs w.heap.size W' hw hX hd (by omega)).mono fun e w' hh => ⟨hh.1, trivial, Chg.of_below hh.2⟩
    · rintro e w' ⟨rfl, -, c⟩
      rw [countP_all (ptrL is (reachL is bs)) (0, 0) (fun s : Pr => !(xs.getD (s.2 - 1).toNat false))]
      exact ⟨rfl, chgF c⟩
  have CI : Hid (∀ (v : Value) (W : World), RInts W v (reachL is bs) → Below w.heap.size w W → AtC W w.heap.size 35 #[.slice a1 xs.length c1, .slice a2 ys.length c2, .slice a3 is.length c3, .slice a4 bs.length c4] → Calls Tryz.prog 43 #[.agg #[v, .func (.func 70) #[] #[.pointer (some ⟨w.heap.size, 0, none⟩)]]] W fun e w' => e = .returned (.int .i64 (unmI ys is bs)) ∧ Below W.heap.size W w') := fun v W ho b1 ha => by
    refine (cntI_any 70 eg70 (.pointer (some ⟨w.heap.size, 0, none⟩)) v (reachL is bs) (fun k => (fun i : Int => !(ys.getD (i - 1).toNat false)) ((reachL is bs).getD k 0)) (fun _ _ => True) (fun _ => False) W (by have := reachL_len is bs; omega) (fun _ e => e.elim) (fun W' c => ho.below (chgF c) (Nat.le_refl _)) (fun _ _ => trivial) (fun _ _ _ _ _ => trivial) (fun k hk W' _ c => ?_)).mono ?_
    · have b2 := b1.trans ((chgF c).mono b1.size)
      have hd := ha.over (chgF c)
      have hw := h.below b2 (Nat.le_refl _)
      have hmem := List.getElem_mem hk
      show Calls _ _ _ _ fun e w' => e = .returned (.bool ((fun i : Int => !(ys.getD (i - 1).toNat false)) ((reachL is bs).getD k 0))) ∧ _
      rw [getD_at 0 hk]
      have hr := reach8 hmem
      obtain ⟨q, hq⟩ : ∃ q : Nat, (reachL is bs)[k] = (q : Int) + 1 := ⟨((reachL is bs)[k] - 1).toNat, by omega⟩
      rw [hq]
      simp only
      rw [show ((q : Int) + 1 - 1).toNat = q by omega]
      exact (c70_any q a1 a2 a3 a4 c1 c2 c3 c4 xs ys is bs w.heap.size W' hw hX hd (by omega)).mono fun e w' hh => ⟨hh.1, trivial, by rw [hh.2]; exact Chg.refl _ _⟩
    · rintro e w' ⟨rfl, -, c⟩
      rw [countP_all (reachL is bs) 0 (fun i : Int => !(ys.getD (i - 1).toNat false))]
      exact ⟨rfl, chgF c⟩
  obtain ⟨hu1, hu2⟩ := unm_le hX.r xs ys
  obtain ⟨uP, hUP⟩ : ∃ n, unmP xs is bs = n := ⟨_, rfl⟩
  obtain ⟨uI, hUI⟩ : ∃ n, unmI ys is bs = n := ⟨_, rfl⟩
  rw [hUP] at CP hu1 ⊢
  rw [hUI] at CI hu2 ⊢
  clear h hX hUP hUI
  go_enter Tryz.func28, Tryz.ntmps28
  go_wp2_with fail
  refine CR.out.mono ?_
  rintro e w1 ⟨v, rfl, S1, B1⟩
  obtain ⟨va, vc, rfl, -⟩ := S1.form
  have HS1 : Hid (RPr w1 (.slice va (ptrL is (reachL is bs)).length vc) (ptrL is (reachL is bs)) ∧ Below w.heap.size w w1 ∧ AtC w1 w.heap.size 35 #[.slice a1 xs.length c1, .slice a2 ys.length c2, .slice a3 is.length c3, .slice a4 bs.length c4]) := ⟨S1.rpr, HB0.out.trans (B1.mono HB0.out.size), HA0.out.over B1⟩
  have hne : ¬ w.heap.size = w1.heap.size := by have := HS1.out.2.2.lt; omega
  have hne2 : ¬ w1.heap.size = w.heap.size := fun e => hne e.symm
  obtain ⟨W1, hW1⟩ : ∃ W, w1.alloc (.cells #[.slice va (ptrL is (reachL is bs)).length vc, .func (.func 67) #[] #[.pointer (some ⟨w.heap.size, 0, none⟩)]] 96) = W := ⟨_, rfl⟩
  have HW1 : Hid (RPr W1 (.slice va (ptrL is (reachL is bs)).length vc) (ptrL is (reachL is bs)) ∧ Below w.heap.size w W1 ∧ AtC W1 w.heap.size 35 #[.slice a1 xs.length c1, .slice a2 ys.length c2, .slice a3 is.length c3, .slice a4 bs.length c4] ∧ AtC W1 w1.heap.size 96 #[.slice va (ptrL is (reachL is bs)).length vc, .func (.func 67) #[] #[.pointer (some ⟨w.heap.size, 0, none⟩)]]) := by
    rw [← hW1]
    exact ⟨HS1.out.1.alloc _, HS1.out.2.1.alloc HS1.out.2.1.size _, HS1.out.2.2.alloc _, AtC.new _ _ _⟩
  have z0 : w1.cell? ⟨w.heap.size, 0, none⟩ = some (.slice a1 xs.length c1) := HS1.out.2.2.cell 0
  have z1 : w1.cell? ⟨w.heap.size, 1, none⟩ = some (.slice a2 ys.length c2) := HS1.out.2.2.cell 1
  have z2 : w1.cell? ⟨w.heap.size, 2, none⟩ = some (.slice a3 is.length c3) := HS1.out.2.2.cell 2
  have z3 : w1.cell? ⟨w.heap.size, 3, none⟩ = some (.slice a4 bs.length c4) := HS1.out.2.2.cell 3
  clear S1 B1 CR HB0 HA0
  go_upto_region 2 with fail
  clear hW1 z0 z1 z2 z3 HS1
  have z0 : W1.cell? ⟨w.heap.size, 0, none⟩ = some (.slice a1 xs.length c1) := HW1.out.2.2.1.cell 0
  have z1 : W1.cell? ⟨w.heap.size, 1, none⟩ = some (.slice a2 ys.length c2) := HW1.out.2.2.1.cell 1
  have z2 : W1.cell? ⟨w.heap.size, 2, none⟩ = some (.slice a3 is.length c3) := HW1.out.2.2.1.cell 2
  have z3 : W1.cell? ⟨w.heap.size, 3, none⟩ = some (.slice a4 bs.length c4) := HW1.out.2.2.1.cell 3
  have CQ1 := hide (CQ.out W1 HW1.out.2.1)
  go_wp2_with fail
  refine CQ1.out.mono ?_
  rintro e w2 ⟨rv, rfl, R2, B2⟩
  obtain ⟨ra, rc, rfl, -⟩ := R2.form
  rw [ic_length] at R2 ⊢
  have HW2 : Hid (RPr w2 (.slice va (ptrL is (reachL is bs)).length vc) (ptrL is (reachL is bs)) ∧ Below w.heap.size w w2 ∧ AtC w2 w.heap.size 35 #[.slice a1 xs.length c1, .slice a2 ys.length c2, .slice a3 is.length c3, .slice a4 bs.length c4] ∧ AtC w2 w1.heap.size 96 #[.slice va (ptrL is (reachL is bs)).length vc, .func (.func 67) #[] #[.pointer (some ⟨w.heap.size, 0, none⟩)]] ∧ RInts w2 (.slice ra (reachL is bs).length rc) (reachL is bs)) := ⟨HW1.out.1.below B2 (Nat.le_refl _), HW1.out.2.1.trans (B2.mono HW1.out.2.1.size), HW1.out.2.2.1.over B2, HW1.out.2.2.2.over B2, R2.rints⟩
  obtain ⟨W3, hW3⟩ : ∃ W, w2.alloc (.cells #[.slice ra (reachL is bs).length rc, .func (.func 70) #[] #[.pointer (some ⟨w.heap.size, 0, none⟩)]] 59) = W := ⟨_, rfl⟩
  have HW3 : Hid (RPr W3 (.slice va (ptrL is (reachL is bs)).length vc) (ptrL is (reachL is bs)) ∧ Below w.heap.size w W3 ∧ AtC W3 w.heap.size 35 #[.slice a1 xs.length c1, .slice a2 ys.length c2, .slice a3 is.length c3, .slice a4 bs.length c4] ∧ AtC W3 w1.heap.size 96 #[.slice va (ptrL is (reachL is bs)).length vc, .func (.func 67) #[] #[.pointer (some ⟨w.heap.size, 0, none⟩)]] ∧ RInts W3 (.slice ra (reachL is bs).length rc) (reachL is bs) ∧ AtC W3 w2.heap.size 59 #[.slice ra (reachL is bs).length rc, .func (.func 70) #[] #[.pointer (some ⟨w.heap.size, 0, none⟩)]]) := by
    rw [← hW3]
    have b := (Below.refl _ w2).alloc (Nat.le_refl _) (.cells #[.slice ra (reachL is bs).length rc, .func (.func 70) #[] #[.pointer (some ⟨w.heap.size, 0, none⟩)]] 59)
    exact ⟨HW2.out.1.alloc _, HW2.out.2.1.alloc HW2.out.2.1.size _, HW2.out.2.2.1.alloc _, HW2.out.2.2.2.1.alloc _, HW2.out.2.2.2.2.below b (Nat.le_refl _), AtC.new _ _ _⟩
  clear R2 B2 CQ1 CQ z0 z1 z2 z3 HW1 HW2
  go_upto_region 3 with fail
  clear hW3 hmf
  have HX3 : Hid (∀ W, Below W3.drew.heap.size W3.drew W → RPr W (.slice va (ptrL is (reachL is bs)).length vc) (ptrL is (reachL is bs)) ∧ Below w.heap.size w W ∧ AtC W w.heap.size 35 #[.slice a1 xs.length c1, .slice a2 ys.length c2, .slice a3 is.length c3, .slice a4 bs.length c4] ∧ AtC W w1.heap.size 96 #[.slice va (ptrL is (reachL is bs)).length vc, .func (.func 67) #[] #[.pointer (some ⟨w.heap.size, 0, none⟩)]] ∧ RInts W (.slice ra (reachL is bs).length rc) (reachL is bs) ∧ AtC W w2.heap.size 59 #[.slice ra (reachL is bs).length rc, .func (.func 70) #[] #[.pointer (some ⟨w.heap.size, 0, none⟩)]]) := fun W b => ⟨HW3.out.1.drew.below b (Nat.le_refl _), HW3.out.2.1.drew.trans (b.mono HW3.out.2.1.drew.size), HW3.out.2.2.1.drew.over b, HW3.out.2.2.2.1.drew.over b, (HW3.out.2.2.2.2.1.below (Below.refl _ _).drew (Nat.le_refl _)).below b (Nat.le_refl _), HW3.out.2.2.2.2.2.drew.over b⟩
  obtain ⟨H1, H2, H3, H4, H5, H6⟩ := HX3.out _ (Below.refl _ _)
  have p0 : W3.drew.cell? ⟨w1.heap.size, 0, none⟩ = some (.slice va (ptrL is (reachL is bs)).length vc) := H4.cell 0
  have p1 : W3.drew.cell? ⟨w1.heap.size, 1, none⟩ = some (.func (.func 67) #[] #[.pointer (some ⟨w.heap.size, 0, none⟩)]) := H4.cell 1
  have i0 : W3.drew.cell? ⟨w2.heap.size, 0, none⟩ = some (.slice ra (reachL is bs).length rc) := H6.cell 0
  have i1 : W3.drew.cell? ⟨w2.heap.size, 1, none⟩ = some (.func (.func 70) #[] #[.pointer (some ⟨w.heap.size, 0, none⟩)]) := H6.cell 1
  have CP1 := hide (CP.out _ _ H1 H2 H3)
  clear H1 H2 H3 H4 H5 H6
  go_region_with (first | (go_at_call 65; refine CP1.out.mono ?_; rintro e w5 ⟨rfl, B5⟩; obtain ⟨H1, H2, H3, H4, H5, H6⟩ := HX3.out _ B5; have j0 : w5.cell? ⟨w2.heap.size, 0, none⟩ = some (.slice ra (reachL is bs).length rc) := H6.cell 0; have j1 : w5.cell? ⟨w2.heap.size, 1, none⟩ = some (.func (.func 70) #[] #[.pointer (some ⟨w.heap.size, 0, none⟩)]) := H6.cell 1; have CI1 := hide (CI.out _ _ H5 H2 H3); have HB5 := hide H2; clear H1 H2 H3 H4 H5 H6 B5) | (go_at_call 43; refine CI1.out.mono ?_; rintro e w6 ⟨rfl, B6⟩))
  all_goals (have hsum : IntKind.i64.wrap ((uP : Int) + (uI : Int)) = (uP : Int) + (uI : Int) := wrap_small _ (by omega) (by omega))
  all_goals (try go_wp2)
  all_goals go_ret
  all_goals (refine ⟨?_, HB5.out.trans (B6.mono HB5.out.size)⟩)
  all_goals (first | rfl | (congr 1; go_num) | (go_simp; done) | (simp only [go_sem, hsum]; done) | (simp [go_sem, hsum]; done) | trace_state)
end Go.Proofs.YtljooldjcefkoaaGreat
/- What is shared, as plain functions. No Go function is spoken of. -/
namespace Go.Proofs.YtljooldjcefkoaaGreat
open Go.RowKit Kit
/-- The blocks that all pointers have, in order. -/
def allP (is : List Ino) : List Int := (ptrL is (kndL is)).map (·.2)
/-- How many of the first m have a block that one ahead has. -/
def shrQ (l : List Int) (m : Nat) : Nat := (List.range m).countP fun k => decide (l.getD k 0 ∈ l.take k)
def sharedN (is : List Ino) : Nat := shrQ (allP is) (allP is).length
theorem kndL_len (is : List Ino) : (kndL is).length ≤ 8 := kndQ_len is 8
theorem allP_len {is : List Ino} {bs : List Blk} (h : RD is bs) : (allP is).length ≤ 16 := by
  unfold allP
  rw [List.length_map]
  have := ptrL_len h (kndL is)
  have := kndL_len is
  omega
theorem sharedN_le {is : List Ino} {bs : List Blk} (h : RD is bs) : sharedN is ≤ 16 := by
  have := allP_len h
  unfold sharedN shrQ
  exact Nat.le_trans List.countP_le_length (by rw [List.length_range]; exact this)
/-- The flags of those that were had. -/
structure Had (l : List Int) (k : Nat) (h : List Bool) : Prop where
  n : h.length = 16
  f : ∀ q : Nat, q < 16 → h.getD q false = decide (((q : Int) + 1) ∈ l.take k)
theorem Had.begin (l : List Int) : Had l 0 (List.replicate 16 false) := ⟨rfl, fun q _ => by
  rw [show l.take 0 = [] from rfl, List.getD_eq_getElem?_getD, List.getElem?_replicate]
  simp only [List.not_mem_nil, decide_false]
  split <;> rfl⟩
theorem Had.next {l : List Int} {k q : Nat} {h : List Bool} (H : Had l k h) (hk : k < l.length) (he : l[k] = (q : Int) + 1) (hq : q < 16) : Had l (k + 1) (h.set q true) := by
  refine ⟨by rw [List.length_set]; exact H.n, fun r hr => ?_⟩
  rw [getD_set (by rw [H.n]; exact hq), List.take_succ_eq_append_getElem hk, he]
  by_cases e : r = q
  · subst e; rw [if_pos rfl]; simp
  · rw [if_neg e, H.f r hr]
    have : ¬ ((r : Int) + 1 = (q : Int) + 1) := by omega
    simp [this]
/-- The state of the closure. -/
def HadW (l : List Int) (hb k : Nat) (W : World) : Prop := ∃ h, AtC W hb 89 (hA h) ∧ Had l k h
end Go.Proofs.YtljooldjcefkoaaGreat
/- What is safe, as a plain function. No Go function is spoken of. -/
namespace Go.Proofs.YtljooldjcefkoaaGreat
open Go.RowKit Kit
/-- A disk is safe. -/
noncomputable def safeB (xs ys : List Bool) (is : List Ino) (bs : List Blk) : Bool := diskOk xs ys is bs && decide (kindAt is 1 = 2 ∧ dangN is bs = 0 ∧ sharedN is = 0 ∧ unmP xs is bs + unmI ys is bs = 0 ∧ shortN is bs = 0 ∧ wrongN is bs = 0)
end Go.Proofs.YtljooldjcefkoaaGreat
