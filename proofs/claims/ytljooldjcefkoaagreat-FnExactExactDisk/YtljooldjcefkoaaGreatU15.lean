/- Texts of the proof, bundled: Im, Iu, Hd, Sf, Sh, Su. -/
import Derived.Test.YtljooldjcefkoaaGreatU14
import Derived.Test.YtljooldjcefkoaaGreatU12
/- impl.Dangling, Short and WrongKind by their contracts. -/
namespace Go.Proofs.YtljooldjcefkoaaGreat
open Go.RowKit Kit
theorem countP_range {α : Type} (l : List α) (d : α) (f : α → Bool) : ∀ q, q ≤ l.length → (List.range q).countP (fun k => f (l.getD k d)) = (l.take q).countP f
  | 0, _ => by simp
  | q + 1, h => by
    have hq : q < l.length := by omega
    rw [List.range_succ, List.countP_append, countP_range l d f q (by omega), List.countP_cons, List.countP_nil, List.take_succ_eq_append_getElem hq, List.countP_append, List.countP_cons, List.countP_nil]
    simp [hq]
theorem countP_all {α : Type} (l : List α) (d : α) (f : α → Bool) : (List.range l.length).countP (fun k => f (l.getD k d)) = l.countP f := by
  rw [countP_range l d f _ (Nat.le_refl _), List.take_length]
theorem getD_at {α : Type} {l : List α} {k : Nat} (d : α) (h : k < l.length) : l.getD k d = l[k] := by simp [h]
theorem chgF {w W : World} (h : Chg (fun _ => False) w W) : Below w.heap.size w W := h.below (Nat.le_refl _) (fun _ e => e.elim)
theorem mem_ptrL {is : List Ino} {l : List Int} {s : Pr} (h : s ∈ ptrL is l) : s.1 ∈ l ∧ 1 ≤ s.2 ∧ s.2 ≤ 16 := by
  obtain ⟨i, hi, hs⟩ := List.mem_flatMap.1 h
  unfold ptrI at hs
  obtain ⟨p, hp, rfl⟩ := List.mem_map.1 hs
  have := inB_true (List.mem_filter.1 hp).2
  exact ⟨hi, this⟩
/-- What is told of short ones. -/
def shortN (is : List Ino) (bs : List Blk) : Nat := (reachL is bs).countP fun i => decide (¬ i = 1 ∧ lnkAt is (i - 1).toNat < linksN is bs i)
/-- What is told of blocks of the wrong kind. -/
def wrongN (is : List Ino) (bs : List Blk) : Nat := (ptrL is (reachL is bs)).countP fun s => (blkAt bs s.2).1 != (kindAt is s.1 == 2)
theorem eg61 : ∀ args w, (callFunc 61 args).run Tryz.prog w = .ok (.enter 61 args) w := enters_of Tryz.func61 (by kernel_rfl) rfl
theorem eg71 : ∀ args w, (callFunc 71 args).run Tryz.prog w = .ok (.enter 71 args) w := enters_of Tryz.func71 (by kernel_rfl) rfl
theorem eg73 : ∀ args w, (callFunc 73 args).run Tryz.prog w = .ok (.enter 73 args) w := enters_of Tryz.func73 (by kernel_rfl) rfl
theorem eg67 : ∀ args w, (callFunc 67 args).run Tryz.prog w = .ok (.enter 67 args) w := enters_of Tryz.func67 (by kernel_rfl) rfl
theorem eg70 : ∀ args w, (callFunc 70 args).run Tryz.prog w = .ok (.enter 70 args) w := enters_of Tryz.func70 (by kernel_rfl) rfl
theorem eg64 : ∀ args w, (callFunc 64 args).run Tryz.prog w = .ok (.enter 64 args) w := enters_of Tryz.func64 (by kernel_rfl) rfl
set_option maxRecDepth 100000 in
set_option maxHeartbeats 1600000 in
theorem implDang_any (dx dy iv bv : Value) (xs ys : List Bool) (is : List Ino) (bs : List Blk) (w : World) (h : DR w dx dy iv bv xs ys is bs) (hX : RX xs ys is bs) :
    Calls Tryz.prog 26 #[.agg #[dx, dy, iv, bv]] w fun e w' => e = .returned (.int .i64 (dangN is bs)) ∧ Below w.heap.size w w' := by
  obtain ⟨a1, c1, a2, c2, a3, c3, a4, c4, rfl, rfl, rfl, rfl⟩ := h.form
  have hmf : ∀ (fn : Fn) (first cap : Array Value) (w : World), (Instr.makeFunc fn first cap).run Tryz.prog w = .ok (.func fn first cap) w := fun _ _ _ _ => rfl
  have HB0 : Hid (Below w.heap.size w (w.alloc (.cells #[.slice a1 xs.length c1, .slice a2 ys.length c2, .slice a3 is.length c3, .slice a4 bs.length c4] 35))) := (Below.refl _ w).alloc (Nat.le_refl _) _
  have HA0 := hide (AtC.new w 35 #[.slice a1 xs.length c1, .slice a2 ys.length c2, .slice a3 is.length c3, .slice a4 bs.length c4])
  have CR := hide (rSlots_any (.slice a1 xs.length c1) (.slice a2 ys.length c2) (.slice a3 is.length c3) (.slice a4 bs.length c4) xs ys is bs (w.alloc (.cells #[.slice a1 xs.length c1, .slice a2 ys.length c2, .slice a3 is.length c3, .slice a4 bs.length c4] 35)) (h.alloc _) hX.r)
  have CC : Hid (∀ (v : Value) (w1 : World), SOwns w1 (w.alloc (.cells #[.slice a1 xs.length c1, .slice a2 ys.length c2, .slice a3 is.length c3, .slice a4 bs.length c4] 35)).heap.size 77 v (slotsR is bs) → Below (w.alloc (.cells #[.slice a1 xs.length c1, .slice a2 ys.length c2, .slice a3 is.length c3, .slice a4 bs.length c4] 35)).heap.size (w.alloc (.cells #[.slice a1 xs.length c1, .slice a2 ys.length c2, .slice a3 is.length c3, .slice a4 bs.length c4] 35)) w1 → Calls Tryz.prog 62 #[.agg #[v, .func (.func 61) #[] #[.pointer (some ⟨w.heap.size, 0, none⟩)]]] w1 fun e w' => e = .returned (.int .i64 (dangN is bs)) ∧ Below w.heap.size w w') := fun v w1 ho hb => by
    have b1 : Below w.heap.size w w1 := HB0.out.trans (hb.mono HB0.out.size)
    refine (cntS_any 61 eg61 (.pointer (some ⟨w.heap.size, 0, none⟩)) v (slotsR is bs) (fun k => (fun s : Sl => decide (kindAt is s.2 = 0)) (((slotsR is bs)).getD k (⟨#[]⟩, 0))) (fun _ _ => True) (fun _ => False) w1 (by have := slotsR_len hX.r; omega) (fun _ e => e.elim) (fun W c => ho.rsl.below (chgF c) (Nat.le_refl _)) (fun _ _ => trivial) (fun _ _ _ _ _ => trivial) (fun k hk W _ c => ?_)).mono ?_
    · have b2 := b1.trans ((chgF c).mono b1.size)
      have hd := (HA0.out.over hb).over (chgF c)
      have hw := h.below b2 (Nat.le_refl _)
      have hmem := List.getElem_mem hk
      show Calls _ _ _ _ fun e w' => e = .returned (.bool ((fun s : Sl => decide (kindAt is s.2 = 0)) (((slotsR is bs)).getD k (⟨#[]⟩, 0)))) ∧ _
      rw [getD_at (⟨#[]⟩, 0) hk]
      exact (c61_any _ _ a1 a2 a3 a4 c1 c2 c3 c4 xs ys is bs w.heap.size W hw hX.r hd).mono fun e w' hh => ⟨hh.1, trivial, Chg.of_below hh.2⟩
    · rintro e w' ⟨rfl, -, c⟩
      rw [countP_all (slotsR is bs) (⟨#[]⟩, 0) (fun s : Sl => decide (kindAt is s.2 = 0))]
      exact ⟨rfl, b1.trans ((chgF c).mono b1.size)⟩
  clear h hX
  go_enter Tryz.func26, Tryz.ntmps26
  go_wp2_with fail
  refine CR.out.mono ?_
  rintro e w1 ⟨v, rfl, S1, B1⟩
  have CC1 := hide (CC.out v w1 S1 B1)
  obtain ⟨va, vc, rfl, -⟩ := S1.form
  clear S1 B1 CC CR HB0 HA0
  go_wp2_with fail
  refine CC1.out.mono ?_
  rintro e w2 ⟨rfl, B2⟩
  have HB2 := hide B2
  clear B2 CC1
  go_wp2
  go_ret
  exact ⟨rfl, HB2.out⟩
set_option maxRecDepth 100000 in
set_option maxHeartbeats 1600000 in
theorem implShort_any (dx dy iv bv : Value) (xs ys : List Bool) (is : List Ino) (bs : List Blk) (w : World) (h : DR w dx dy iv bv xs ys is bs) (hX : RX xs ys is bs) :
    Calls Tryz.prog 29 #[.agg #[dx, dy, iv, bv]] w fun e w' => e = .returned (.int .i64 (shortN is bs)) ∧ Below w.heap.size w w' := by
  obtain ⟨a1, c1, a2, c2, a3, c3, a4, c4, rfl, rfl, rfl, rfl⟩ := h.form
  have hmf : ∀ (fn : Fn) (first cap : Array Value) (w : World), (Instr.makeFunc fn first cap).run Tryz.prog w = .ok (.func fn first cap) w := fun _ _ _ _ => rfl
  have HB0 : Hid (Below w.heap.size w (w.alloc (.cells #[.slice a1 xs.length c1, .slice a2 ys.length c2, .slice a3 is.length c3, .slice a4 bs.length c4] 35))) := (Below.refl _ w).alloc (Nat.le_refl _) _
  have HA0 := hide (AtC.new w 35 #[.slice a1 xs.length c1, .slice a2 ys.length c2, .slice a3 is.length c3, .slice a4 bs.length c4])
  have CR := hide (implReach_any (.slice a1 xs.length c1) (.slice a2 ys.length c2) (.slice a3 is.length c3) (.slice a4 bs.length c4) xs ys is bs (w.alloc (.cells #[.slice a1 xs.length c1, .slice a2 ys.length c2, .slice a3 is.length c3, .slice a4 bs.length c4] 35)) (h.alloc _) hX.r)
  have CC : Hid (∀ (v : Value) (w1 : World), ROwns w1 (w.alloc (.cells #[.slice a1 xs.length c1, .slice a2 ys.length c2, .slice a3 is.length c3, .slice a4 bs.length c4] 35)).heap.size 3 v (ic (reachL is bs)) → Below (w.alloc (.cells #[.slice a1 xs.length c1, .slice a2 ys.length c2, .slice a3 is.length c3, .slice a4 bs.length c4] 35)).heap.size (w.alloc (.cells #[.slice a1 xs.length c1, .slice a2 ys.length c2, .slice a3 is.length c3, .slice a4 bs.length c4] 35)) w1 → Calls Tryz.prog 43 #[.agg #[v, .func (.func 71) #[] #[.pointer (some ⟨w.heap.size, 0, none⟩)]]] w1 fun e w' => e = .returned (.int .i64 (shortN is bs)) ∧ Below w.heap.size w w') := fun v w1 ho hb => by
    have b1 : Below w.heap.size w w1 := HB0.out.trans (hb.mono HB0.out.size)
    refine (cntI_any 71 eg71 (.pointer (some ⟨w.heap.size, 0, none⟩)) v (reachL is bs) (fun k => (fun i : Int => decide (¬ i = 1 ∧ lnkAt is (i - 1).toNat < linksN is bs i)) (((reachL is bs)).getD k 0)) (fun _ _ => True) (fun _ => False) w1 (by have := reachL_len is bs; omega) (fun _ e => e.elim) (fun W c => ho.rints.below (chgF c) (Nat.le_refl _)) (fun _ _ => trivial) (fun _ _ _ _ _ => trivial) (fun k hk W _ c => ?_)).mono ?_
    · have b2 := b1.trans ((chgF c).mono b1.size)
      have hd := (HA0.out.over hb).over (chgF c)
      have hw := h.below b2 (Nat.le_refl _)
      have hmem := List.getElem_mem hk
      show Calls _ _ _ _ fun e w' => e = .returned (.bool ((fun i : Int => decide (¬ i = 1 ∧ lnkAt is (i - 1).toNat < linksN is bs i)) (((reachL is bs)).getD k 0))) ∧ _
      rw [getD_at 0 hk]
      have hr := reach8 hmem
      obtain ⟨q, hq⟩ : ∃ q : Nat, (reachL is bs)[k] = (q : Int) + 1 := ⟨((reachL is bs)[k] - 1).toNat, by omega⟩
      rw [hq]
      refine (c71_any q a1 a2 a3 a4 c1 c2 c3 c4 xs ys is bs w.heap.size W hw hX hd (by omega)).mono fun e w' hh => ⟨?_, trivial, Chg.of_below hh.2⟩
      rw [hh.1]
      congr 3
      rw [show ((q : Int) + 1 - 1).toNat = q by omega]
      exact propext ⟨fun ⟨a, b⟩ => ⟨by omega, b⟩, fun ⟨a, b⟩ => ⟨by omega, b⟩⟩
    · rintro e w' ⟨rfl, -, c⟩
      rw [countP_all (reachL is bs) 0 (fun i : Int => decide (¬ i = 1 ∧ lnkAt is (i - 1).toNat < linksN is bs i))]
      exact ⟨rfl, b1.trans ((chgF c).mono b1.size)⟩
  clear h hX
  go_enter Tryz.func29, Tryz.ntmps29
  go_wp2_with fail
  refine CR.out.mono ?_
  rintro e w1 ⟨v, rfl, S1, B1⟩
  have CC1 := hide (CC.out v w1 S1 B1)
  obtain ⟨va, vc, rfl, -⟩ := S1.form
  clear S1 B1 CC CR HB0 HA0
  go_wp2_with fail
  refine CC1.out.mono ?_
  rintro e w2 ⟨rfl, B2⟩
  have HB2 := hide B2
  clear B2 CC1
  go_wp2
  go_ret
  exact ⟨rfl, HB2.out⟩
set_option maxRecDepth 100000 in
set_option maxHeartbeats 1600000 in
theorem implWrong_any (dx dy iv bv : Value) (xs ys : List Bool) (is : List Ino) (bs : List Blk) (w : World) (h : DR w dx dy iv bv xs ys is bs) (hX : RX xs ys is bs) :
    Calls Tryz.prog 30 #[.agg #[dx, dy, iv, bv]] w fun e w' => e = .returned (.int .i64 (wrongN is bs)) ∧ Below w.heap.size w w' := by
  obtain ⟨a1, c1, a2, c2, a3, c3, a4, c4, rfl, rfl, rfl, rfl⟩ := h.form
  have hmf : ∀ (fn : Fn) (first cap : Array Value) (w : World), (Instr.makeFunc fn first cap).run Tryz.prog w = .ok (.func fn first cap) w := fun _ _ _ _ => rfl
  have HB0 : Hid (Below w.heap.size w (w.alloc (.cells #[.slice a1 xs.length c1, .slice a2 ys.length c2, .slice a3 is.length c3, .slice a4 bs.length c4] 35))) := (Below.refl _ w).alloc (Nat.le_refl _) _
  have HA0 := hide (AtC.new w 35 #[.slice a1 xs.length c1, .slice a2 ys.length c2, .slice a3 is.length c3, .slice a4 bs.length c4])
  have CR := hide (rPtrs_any (.slice a1 xs.length c1) (.slice a2 ys.length c2) (.slice a3 is.length c3) (.slice a4 bs.length c4) xs ys is bs (w.alloc (.cells #[.slice a1 xs.length c1, .slice a2 ys.length c2, .slice a3 is.length c3, .slice a4 bs.length c4] 35)) (h.alloc _) hX.r)
  have CC : Hid (∀ (v : Value) (w1 : World), POwns w1 (w.alloc (.cells #[.slice a1 xs.length c1, .slice a2 ys.length c2, .slice a3 is.length c3, .slice a4 bs.length c4] 35)).heap.size 93 v (ptrL is (reachL is bs)) → Below (w.alloc (.cells #[.slice a1 xs.length c1, .slice a2 ys.length c2, .slice a3 is.length c3, .slice a4 bs.length c4] 35)).heap.size (w.alloc (.cells #[.slice a1 xs.length c1, .slice a2 ys.length c2, .slice a3 is.length c3, .slice a4 bs.length c4] 35)) w1 → Calls Tryz.prog 65 #[.agg #[v, .func (.func 73) #[] #[.pointer (some ⟨w.heap.size, 0, none⟩)]]] w1 fun e w' => e = .returned (.int .i64 (wrongN is bs)) ∧ Below w.heap.size w w') := fun v w1 ho hb => by
    have b1 : Below w.heap.size w w1 := HB0.out.trans (hb.mono HB0.out.size)
    refine (cntP_any 73 eg73 (.pointer (some ⟨w.heap.size, 0, none⟩)) v (ptrL is (reachL is bs)) (fun k => (fun s : Pr => (blkAt bs s.2).1 != (kindAt is s.1 == 2)) (((ptrL is (reachL is bs))).getD k (0, 0))) (fun _ _ => True) (fun _ => False) w1 (by have := ptrL_len hX.r (reachL is bs); have := reachL_len is bs; omega) (fun _ e => e.elim) (fun W c => ho.rpr.below (chgF c) (Nat.le_refl _)) (fun _ _ => trivial) (fun _ _ _ _ _ => trivial) (fun k hk W _ c => ?_)).mono ?_
    · have b2 := b1.trans ((chgF c).mono b1.size)
      have hd := (HA0.out.over hb).over (chgF c)
      have hw := h.below b2 (Nat.le_refl _)
      have hmem := List.getElem_mem hk
      show Calls _ _ _ _ fun e w' => e = .returned (.bool ((fun s : Pr => (blkAt bs s.2).1 != (kindAt is s.1 == 2)) (((ptrL is (reachL is bs))).getD k (0, 0)))) ∧ _
      rw [getD_at (0, 0) hk]
      have hr := (mem_ptrL hmem).2
      obtain ⟨⟨io, p⟩, hs⟩ : ∃ s, (ptrL is (reachL is bs))[k] = s := ⟨_, rfl⟩
      rw [hs] at hr ⊢
      simp only at hr ⊢
      obtain ⟨q, rfl⟩ : ∃ q : Nat, p = (q : Int) + 1 := ⟨(p - 1).toNat, by omega⟩
      exact (c73_any io q a1 a2 a3 a4 c1 c2 c3 c4 xs ys is bs w.heap.size W hw hX hd (by omega)).mono fun e w' hh => ⟨hh.1, trivial, Chg.of_below hh.2⟩
    · rintro e w' ⟨rfl, -, c⟩
      rw [countP_all (ptrL is (reachL is bs)) (0, 0) (fun s : Pr => (blkAt bs s.2).1 != (kindAt is s.1 == 2))]
      exact ⟨rfl, b1.trans ((chgF c).mono b1.size)⟩
  clear h hX
  go_enter Tryz.func30, Tryz.ntmps30
  go_wp2_with fail
  refine CR.out.mono ?_
  rintro e w1 ⟨v, rfl, S1, B1⟩
  have CC1 := hide (CC.out v w1 S1 B1)
  obtain ⟨va, vc, rfl, -⟩ := S1.form
  clear S1 B1 CC CR HB0 HA0
  go_wp2_with fail
  refine CC1.out.mono ?_
  rintro e w2 ⟨rfl, B2⟩
  have HB2 := hide B2
  clear B2 CC1
  go_wp2
  go_ret
  exact ⟨rfl, HB2.out⟩
end Go.Proofs.YtljooldjcefkoaaGreat
/- impl.Unmarked by its contract. -/
namespace Go.Proofs.YtljooldjcefkoaaGreat
open Go.RowKit Kit
def unmP (xs : List Bool) (is : List Ino) (bs : List Blk) : Nat := (ptrL is (reachL is bs)).countP (fun s : Pr => !(xs.getD (s.2 - 1).toNat false))
def unmI (ys : List Bool) (is : List Ino) (bs : List Blk) : Nat := (reachL is bs).countP (fun i : Int => !(ys.getD (i - 1).toNat false))
theorem unm_le {is : List Ino} {bs : List Blk} (h : RD is bs) (xs ys : List Bool) : unmP xs is bs ≤ 16 ∧ unmI ys is bs ≤ 8 := by
  have h1 := ptrL_len h (reachL is bs)
  have h2 := reachL_len is bs
  exact ⟨Nat.le_trans List.countP_le_length (by omega), Nat.le_trans List.countP_le_length h2⟩
set_option maxRecDepth 100000 in
set_option maxHeartbeats 3200000 in
theorem implUnm_any (dx dy iv bv : Value) (xs ys : List Bool) (is : List Ino) (bs : List Blk) (w : World) (h : DR w dx dy iv bv xs ys is bs) (hX : RX xs ys is bs) :
    Calls Tryz.prog 28 #[.agg #[dx, dy, iv, bv]] w fun e w' => e = .returned (.int .i64 ((unmP xs is bs : Int) + (unmI ys is bs : Int))) ∧ Below w.heap.size w w' := by
  obtain ⟨a1, c1, a2, c2, a3, c3, a4, c4, rfl, rfl, rfl, rfl⟩ := h.form
  have hmf : ∀ (fn : Fn) (first cap : Array Value) (w : World), (Instr.makeFunc fn first cap).run Tryz.prog w = .ok (.func fn first cap) w := fun _ _ _ _ => rfl
  have HB0 : Hid (Below w.heap.size w (w.alloc (.cells #[.slice a1 xs.length c1, .slice a2 ys.length c2, .slice a3 is.length c3, .slice a4 bs.length c4] 35))) := (Below.refl _ w).alloc (Nat.le_refl _) _
  have HA0 := hide (AtC.new w 35 #[.slice a1 xs.length c1, .slice a2 ys.length c2, .slice a3 is.length c3, .slice a4 bs.length c4])
  have CR := hide (rPtrs_any (.slice a1 xs.length c1) (.slice a2 ys.length c2) (.slice a3 is.length c3) (.slice a4 bs.length c4) xs ys is bs (w.alloc (.cells #[.slice a1 xs.length c1, .slice a2 ys.length c2, .slice a3 is.length c3, .slice a4 bs.length c4] 35)) (h.alloc _) hX.r)
  have CQ := hide (fun (W : World) (hb : Below w.heap.size w W) => implReach_any (.slice a1 xs.length c1) (.slice a2 ys.length c2) (.slice a3 is.length c3) (.slice a4 bs.length c4) xs ys is bs W (h.below hb (Nat.le_refl _)) hX.r)
  have CP : Hid (∀ (v : Value) (W : World), RPr W v (ptrL is (reachL is bs)) → Below w.heap.size w W → AtC W w.heap.size 35 #[.slice a1 xs.length c1, .slice a2 ys.length c2, .slice a3 is.length c3, .slice a4 bs.length c4] → Calls Tryz.prog 65 #[.agg #[v, .func (.func 67) #[] #[.pointer (some ⟨w.heap.size, 0, none⟩)]]] W fun e w' => e = .returned (.int .i64 (unmP xs is bs)) ∧ Below W.heap.size W w') := fun v W ho b1 ha => by
    refine (cntP_any 67 eg67 (.pointer (some ⟨w.heap.size, 0, none⟩)) v (ptrL is (reachL is bs)) (fun k => (fun s : Pr => !(xs.getD (s.2 - 1).toNat false)) ((ptrL is (reachL is bs)).getD k (0, 0))) (fun _ _ => True) (fun _ => False) W (by have := ptrL_len hX.r (reachL is bs); have := reachL_len is bs; omega) (fun _ e => e.elim) (fun W' c => ho.below (chgF c) (Nat.le_refl _)) (fun _ _ => trivial) (fun _ _ _ _ _ => trivial) (fun k hk W' _ c => ?_)).mono ?_
    · have b2 := b1.trans ((chgF c).mono b1.size)
      have hd := ha.over (chgF c)
      have hw := h.below b2 (Nat.le_refl _)
      have hmem := List.getElem_mem hk
      show Calls _ _ _ _ fun e w' => e = .returned (.bool ((fun s : Pr => !(xs.getD (s.2 - 1).toNat false)) ((ptrL is (reachL is bs)).getD k (0, 0)))) ∧ _
      rw [getD_at (0, 0) hk]
      have hr := (mem_ptrL hmem).2
      obtain ⟨⟨io, p⟩, hs⟩ : ∃ s, (ptrL is (reachL is bs))[k] = s := ⟨_, rfl⟩
      rw [hs] at hr ⊢
      simp only at hr ⊢
      obtain ⟨q, rfl⟩ : ∃ q : Nat, p = (q : Int) + 1 := ⟨(p - 1).toNat, by omega⟩
      rw [show ((q : Int) + 1 - 1).toNat = q by omega]
      exact (c67_any io q a1 a2 a3 a4 c1 c2 c3 c4 xs ys is bs w.heap.size W' hw hX hd (by omega)).mono fun e w' hh => ⟨hh.1, trivial, Chg.of_below hh.2⟩
    · rintro e w' ⟨rfl, -, c⟩
      rw [countP_all (ptrL is (reachL is bs)) (0, 0) (fun s : Pr => !(xs.getD (s.2 - 1).toNat false))]
      exact ⟨rfl, chgF c⟩
  have CI : Hid (∀ (v : Value) (W : World), RInts W v (reachL is bs) → Below w.heap.size w W → AtC W w.heap.size 35 #[.slice a1 xs.length c1, .slice a2 ys.length c2, .slice a3 is.length c3, .slice a4 bs.length c4] → Calls Tryz.prog 43 #[.agg #[v, .func (.func 70) #[] #[.pointer (some ⟨w.heap.size, 0, none⟩)]]] W fun e w' => e = .returned (.int .i64 (unmI ys is bs)) ∧ Below W.heap.size W w') := fun v W ho b1 ha => by
    refine (cntI_any 70 eg70 (.pointer (some ⟨w.heap.size, 0, none⟩)) v (reachL is bs) (fun k => (fun i : Int => !(ys.getD (i - 1).toNat false)) ((reachL is bs).getD k 0)) (fun _ _ => True) (fun _ => False) W (by have := reachL_len is bs; omega) (fun _ e => e.elim) (fun W' c => ho.below (chgF c) (Nat.le_refl _)) (fun _ _ => trivial) (fun _ _ _ _ _ => trivial) (fun k hk W' _ c => ?_)).mono ?_
    · have b2 := b1.trans ((chgF c).mono b1.size)
      have hd := ha.over (chgF c)
      have hw := h.below b2 (Nat.le_refl _)
      have hmem := List.getElem_mem hk
      show Calls _ _ _ _ fun e w' => e = .returned (.bool ((fun i : Int => !(ys.getD (i - 1).toNat false)) ((reachL is bs).getD k 0))) ∧ _
      rw [getD_at 0 hk]
      have hr := reach8 hmem
      obtain ⟨q, hq⟩ : ∃ q : Nat, (reachL is bs)[k] = (q : Int) + 1 := ⟨((reachL is bs)[k] - 1).toNat, by omega⟩
      rw [hq]
      simp only
      rw [show ((q : Int) + 1 - 1).toNat = q by omega]
      exact (c70_any q a1 a2 a3 a4 c1 c2 c3 c4 xs ys is bs w.heap.size W' hw hX hd (by omega)).mono fun e w' hh => ⟨hh.1, trivial, by rw [hh.2]; exact Chg.refl _ _⟩
    · rintro e w' ⟨rfl, -, c⟩
      rw [countP_all (reachL is bs) 0 (fun i : Int => !(ys.getD (i - 1).toNat false))]
      exact ⟨rfl, chgF c⟩
  obtain ⟨hu1, hu2⟩ := unm_le hX.r xs ys
  obtain ⟨uP, hUP⟩ : ∃ n, unmP xs is bs = n := ⟨_, rfl⟩
  obtain ⟨uI, hUI⟩ : ∃ n, unmI ys is bs = n := ⟨_, rfl⟩
  rw [hUP] at CP hu1 ⊢
  rw [hUI] at CI hu2 ⊢
  clear h hX hUP hUI
  go_enter Tryz.func28, Tryz.ntmps28
  go_wp2_with fail
  refine CR.out.mono ?_
  rintro e w1 ⟨v, rfl, S1, B1⟩
  obtain ⟨va, vc, rfl, -⟩ := S1.form
  have HS1 : Hid (RPr w1 (.slice va (ptrL is (reachL is bs)).length vc) (ptrL is (reachL is bs)) ∧ Below w.heap.size w w1 ∧ AtC w1 w.heap.size 35 #[.slice a1 xs.length c1, .slice a2 ys.length c2, .slice a3 is.length c3, .slice a4 bs.length c4]) := ⟨S1.rpr, HB0.out.trans (B1.mono HB0.out.size), HA0.out.over B1⟩
  have hne : ¬ w.heap.size = w1.heap.size := by have := HS1.out.2.2.lt; omega
  have hne2 : ¬ w1.heap.size = w.heap.size := fun e => hne e.symm
  obtain ⟨W1, hW1⟩ : ∃ W, w1.alloc (.cells #[.slice va (ptrL is (reachL is bs)).length vc, .func (.func 67) #[] #[.pointer (some ⟨w.heap.size, 0, none⟩)]] 96) = W := ⟨_, rfl⟩
  have HW1 : Hid (RPr W1 (.slice va (ptrL is (reachL is bs)).length vc) (ptrL is (reachL is bs)) ∧ Below w.heap.size w W1 ∧ AtC W1 w.heap.size 35 #[.slice a1 xs.length c1, .slice a2 ys.length c2, .slice a3 is.length c3, .slice a4 bs.length c4] ∧ AtC W1 w1.heap.size 96 #[.slice va (ptrL is (reachL is bs)).length vc, .func (.func 67) #[] #[.pointer (some ⟨w.heap.size, 0, none⟩)]]) := by
    rw [← hW1]
    exact ⟨HS1.out.1.alloc _, HS1.out.2.1.alloc HS1.out.2.1.size _, HS1.out.2.2.alloc _, AtC.new _ _ _⟩
  have z0 : w1.cell? ⟨w.heap.size, 0, none⟩ = some (.slice a1 xs.length c1) := HS1.out.2.2.cell 0
  have z1 : w1.cell? ⟨w.heap.size, 1, none⟩ = some (.slice a2 ys.length c2) := HS1.out.2.2.cell 1
  have z2 : w1.cell? ⟨w.heap.size, 2, none⟩ = some (.slice a3 is.length c3) := HS1.out.2.2.cell 2
  have z3 : w1.cell? ⟨w.heap.size, 3, none⟩ = some (.slice a4 bs.length c4) := HS1.out.2.2.cell 3
  clear S1 B1 CR HB0 HA0
  go_upto_region 2 with fail
  clear hW1 z0 z1 z2 z3 HS1
  have z0 : W1.cell? ⟨w.heap.size, 0, none⟩ = some (.slice a1 xs.length c1) := HW1.out.2.2.1.cell 0
  have z1 : W1.cell? ⟨w.heap.size, 1, none⟩ = some (.slice a2 ys.length c2) := HW1.out.2.2.1.cell 1
  have z2 : W1.cell? ⟨w.heap.size, 2, none⟩ = some (.slice a3 is.length c3) := HW1.out.2.2.1.cell 2
  have z3 : W1.cell? ⟨w.heap.size, 3, none⟩ = some (.slice a4 bs.length c4) := HW1.out.2.2.1.cell 3
  have CQ1 := hide (CQ.out W1 HW1.out.2.1)
  go_wp2_with fail
  refine CQ1.out.mono ?_
  rintro e w2 ⟨rv, rfl, R2, B2⟩
  obtain ⟨ra, rc, rfl, -⟩ := R2.form
  rw [ic_length] at R2 ⊢
  have HW2 : Hid (RPr w2 (.slice va (ptrL is (reachL is bs)).length vc) (ptrL is (reachL is bs)) ∧ Below w.heap.size w w2 ∧ AtC w2 w.heap.size 35 #[.slice a1 xs.length c1, .slice a2 ys.length c2, .slice a3 is.length c3, .slice a4 bs.length c4] ∧ AtC w2 w1.heap.size 96 #[.slice va (ptrL is (reachL is bs)).length vc, .func (.func 67) #[] #[.pointer (some ⟨w.heap.size, 0, none⟩)]] ∧ RInts w2 (.slice ra (reachL is bs).length rc) (reachL is bs)) := ⟨HW1.out.1.below B2 (Nat.le_refl _), HW1.out.2.1.trans (B2.mono HW1.out.2.1.size), HW1.out.2.2.1.over B2, HW1.out.2.2.2.over B2, R2.rints⟩
  obtain ⟨W3, hW3⟩ : ∃ W, w2.alloc (.cells #[.slice ra (reachL is bs).length rc, .func (.func 70) #[] #[.pointer (some ⟨w.heap.size, 0, none⟩)]] 59) = W := ⟨_, rfl⟩
  have HW3 : Hid (RPr W3 (.slice va (ptrL is (reachL is bs)).length vc) (ptrL is (reachL is bs)) ∧ Below w.heap.size w W3 ∧ AtC W3 w.heap.size 35 #[.slice a1 xs.length c1, .slice a2 ys.length c2, .slice a3 is.length c3, .slice a4 bs.length c4] ∧ AtC W3 w1.heap.size 96 #[.slice va (ptrL is (reachL is bs)).length vc, .func (.func 67) #[] #[.pointer (some ⟨w.heap.size, 0, none⟩)]] ∧ RInts W3 (.slice ra (reachL is bs).length rc) (reachL is bs) ∧ AtC W3 w2.heap.size 59 #[.slice ra (reachL is bs).length rc, .func (.func 70) #[] #[.pointer (some ⟨w.heap.size, 0, none⟩)]]) := by
    rw [← hW3]
    have b := (Below.refl _ w2).alloc (Nat.le_refl _) (.cells #[.slice ra (reachL is bs).length rc, .func (.func 70) #[] #[.pointer (some ⟨w.heap.size, 0, none⟩)]] 59)
    exact ⟨HW2.out.1.alloc _, HW2.out.2.1.alloc HW2.out.2.1.size _, HW2.out.2.2.1.alloc _, HW2.out.2.2.2.1.alloc _, HW2.out.2.2.2.2.below b (Nat.le_refl _), AtC.new _ _ _⟩
  clear R2 B2 CQ1 CQ z0 z1 z2 z3 HW1 HW2
  go_upto_region 3 with fail
  clear hW3 hmf
  have HX3 : Hid (∀ W, Below W3.drew.heap.size W3.drew W → RPr W (.slice va (ptrL is (reachL is bs)).length vc) (ptrL is (reachL is bs)) ∧ Below w.heap.size w W ∧ AtC W w.heap.size 35 #[.slice a1 xs.length c1, .slice a2 ys.length c2, .slice a3 is.length c3, .slice a4 bs.length c4] ∧ AtC W w1.heap.size 96 #[.slice va (ptrL is (reachL is bs)).length vc, .func (.func 67) #[] #[.pointer (some ⟨w.heap.size, 0, none⟩)]] ∧ RInts W (.slice ra (reachL is bs).length rc) (reachL is bs) ∧ AtC W w2.heap.size 59 #[.slice ra (reachL is bs).length rc, .func (.func 70) #[] #[.pointer (some ⟨w.heap.size, 0, none⟩)]]) := fun W b => ⟨HW3.out.1.drew.below b (Nat.le_refl _), HW3.out.2.1.drew.trans (b.mono HW3.out.2.1.drew.size), HW3.out.2.2.1.drew.over b, HW3.out.2.2.2.1.drew.over b, (HW3.out.2.2.2.2.1.below (Below.refl _ _).drew (Nat.le_refl _)).below b (Nat.le_refl _), HW3.out.2.2.2.2.2.drew.over b⟩
  obtain ⟨H1, H2, H3, H4, H5, H6⟩ := HX3.out _ (Below.refl _ _)
  have p0 : W3.drew.cell? ⟨w1.heap.size, 0, none⟩ = some (.slice va (ptrL is (reachL is bs)).length vc) := H4.cell 0
  have p1 : W3.drew.cell? ⟨w1.heap.size, 1, none⟩ = some (.func (.func 67) #[] #[.pointer (some ⟨w.heap.size, 0, none⟩)]) := H4.cell 1
  have i0 : W3.drew.cell? ⟨w2.heap.size, 0, none⟩ = some (.slice ra (reachL is bs).length rc) := H6.cell 0
  have i1 : W3.drew.cell? ⟨w2.heap.size, 1, none⟩ = some (.func (.func 70) #[] #[.pointer (some ⟨w.heap.size, 0, none⟩)]) := H6.cell 1
  have CP1 := hide (CP.out _ _ H1 H2 H3)
  clear H1 H2 H3 H4 H5 H6
  go_region_with (first | (go_at_call 65; refine CP1.out.mono ?_; rintro e w5 ⟨rfl, B5⟩; obtain ⟨H1, H2, H3, H4, H5, H6⟩ := HX3.out _ B5; have j0 : w5.cell? ⟨w2.heap.size, 0, none⟩ = some (.slice ra (reachL is bs).length rc) := H6.cell 0; have j1 : w5.cell? ⟨w2.heap.size, 1, none⟩ = some (.func (.func 70) #[] #[.pointer (some ⟨w.heap.size, 0, none⟩)]) := H6.cell 1; have CI1 := hide (CI.out _ _ H5 H2 H3); have HB5 := hide H2; clear H1 H2 H3 H4 H5 H6 B5) | (go_at_call 43; refine CI1.out.mono ?_; rintro e w6 ⟨rfl, B6⟩))
  all_goals (have hsum : IntKind.i64.wrap ((uP : Int) + (uI : Int)) = (uP : Int) + (uI : Int) := wrap_small _ (by omega) (by omega))
  all_goals (try go_wp2)
  all_goals go_ret
  all_goals (refine ⟨?_, HB5.out.trans (B6.mono HB5.out.size)⟩)
  all_goals (first | rfl | (congr 1; go_num) | (go_simp; done) | (simp only [go_sem, hsum]; done) | (simp [go_sem, hsum]; done) | trace_state)
end Go.Proofs.YtljooldjcefkoaaGreat
/- What is shared, as plain functions. No Go function is spoken of. -/
namespace Go.Proofs.YtljooldjcefkoaaGreat
open Go.RowKit Kit
/-- The blocks that all pointers have, in order. -/
def allP (is : List Ino) : List Int := (ptrL is (kndL is)).map (·.2)
/-- How many of the first m have a block that one ahead has. -/
def shrQ (l : List Int) (m : Nat) : Nat := (List.range m).countP fun k => decide (l.getD k 0 ∈ l.take k)
def sharedN (is : List Ino) : Nat := shrQ (allP is) (allP is).length
theorem kndL_len (is : List Ino) : (kndL is).length ≤ 8 := kndQ_len is 8
theorem allP_len {is : List Ino} {bs : List Blk} (h : RD is bs) : (allP is).length ≤ 16 := by
  unfold allP
  rw [List.length_map]
  have := ptrL_len h (kndL is)
  have := kndL_len is
  omega
theorem sharedN_le {is : List Ino} {bs : List Blk} (h : RD is bs) : sharedN is ≤ 16 := by
  have := allP_len h
  unfold sharedN shrQ
  exact Nat.le_trans List.countP_le_length (by rw [List.length_range]; exact this)
/-- The flags of those that were had. -/
structure Had (l : List Int) (k : Nat) (h : List Bool) : Prop where
  n : h.length = 16
  f : ∀ q : Nat, q < 16 → h.getD q false = decide (((q : Int) + 1) ∈ l.take k)
theorem Had.begin (l : List Int) : Had l 0 (List.replicate 16 false) := ⟨rfl, fun q _ => by
  rw [show l.take 0 = [] from rfl, List.getD_eq_getElem?_getD, List.getElem?_replicate]
  simp only [List.not_mem_nil, decide_false]
  split <;> rfl⟩
theorem Had.next {l : List Int} {k q : Nat} {h : List Bool} (H : Had l k h) (hk : k < l.length) (he : l[k] = (q : Int) + 1) (hq : q < 16) : Had l (k + 1) (h.set q true) := by
  refine ⟨by rw [List.length_set]; exact H.n, fun r hr => ?_⟩
  rw [getD_set (by rw [H.n]; exact hq), List.take_succ_eq_append_getElem hk, he]
  by_cases e : r = q
  · subst e; rw [if_pos rfl]; simp
  · rw [if_neg e, H.f r hr]
    have : ¬ ((r : Int) + 1 = (q : Int) + 1) := by omega
    simp [this]
/-- The state of the closure. -/
def HadW (l : List Int) (hb k : Nat) (W : World) : Prop := ∃ h, AtC W hb 89 (hA h) ∧ Had l k h
end Go.Proofs.YtljooldjcefkoaaGreat
/- What is safe, as a plain function. No Go function is spoken of. -/
namespace Go.Proofs.YtljooldjcefkoaaGreat
open Go.RowKit Kit
/-- A disk is safe. -/
def safeB (xs ys : List Bool) (is : List Ino) (bs : List Blk) : Bool := diskOk xs ys is bs && decide (kindAt is 1 = 2 ∧ dangN is bs = 0 ∧ sharedN is = 0 ∧ unmP xs is bs + unmI ys is bs = 0 ∧ shortN is bs = 0 ∧ wrongN is bs = 0)
end Go.Proofs.YtljooldjcefkoaaGreat
/- Of the specification: Shared by its contract. -/
namespace Go.Proofs.YtljooldjcefkoaaGreat
open Go.RowKit Kit
def shrC (l : List Int) : Nat := shrQ l l.length
theorem shrC_snoc (l : List Int) (p : Int) : shrC (l ++ [p]) = shrC l + if l.contains p = true then 1 else 0 := by
  unfold shrC shrQ
  rw [List.length_append, List.length_singleton, List.range_succ, List.countP_append, List.countP_cons, List.countP_nil, Nat.zero_add]
  congr 1
  · apply List.countP_congr
    intro k hk
    rw [List.mem_range] at hk
    rw [List.take_append_of_le_length (by omega), List.getD_eq_getElem?_getD, List.getElem?_append_left hk, ← List.getD_eq_getElem?_getD]
  · have e : (l ++ [p]).getD l.length 0 = p := by simp
    have e2 : (l ++ [p]).take l.length = l := by simp
    rw [e, e2]
    by_cases hp : p ∈ l
    · simp [hp]
    · simp [hp]
/-- The blocks of pointers of the first inodes. -/
def curJ (is : List Ino) (j : Nat) : List Int := (ptrL is (kndQ is j)).map (·.2)
theorem curJ_succ (is : List Ino) (j : Nat) : curJ is (j + 1) = if kindAt is ((j : Int) + 1) = 0 then curJ is j else curJ is j ++ (ptrT ((j : Int) + 1) (ptrsAt is ((j : Int) + 1))).map (·.2) := by
  unfold curJ
  rw [kndQ_succ]
  split
  · rw [List.append_nil]
  · unfold ptrL
    rw [List.flatMap_append, List.map_append, List.flatMap_cons, List.flatMap_nil, List.append_nil]
    rfl
theorem curJ_len {is : List Ino} {bs : List Blk} (h : RD is bs) (j : Nat) : (curJ is j).length ≤ j * 2 := by
  unfold curJ
  rw [List.length_map]
  have h1 := ptrL_len h (kndQ is j)
  have h2 := kndQ_len is j
  omega
theorem shrC_le (l : List Int) : shrC l ≤ l.length := by
  unfold shrC shrQ
  exact Nat.le_trans List.countP_le_length (by rw [List.length_range]; exact Nat.le_refl _)
set_option maxRecDepth 100000 in
set_option maxHeartbeats 3200000 in
theorem specShr_any (dx dy iv bv : Value) (xs ys : List Bool) (is : List Ino) (bs : List Blk) (w : World) (h : DR w dx dy iv bv xs ys is bs) (hX : RX xs ys is bs) :
    Calls Tryz.prog 17 #[.agg #[dx, dy, iv, bv]] w fun e w' => e = .returned (.int .i64 (sharedN is)) ∧ Below w.heap.size w w' := by
  obtain ⟨a1, c1, a2, c2, a3, c3, a4, c4, rfl, rfl, rfl, rfl⟩ := h.form
  have HH := hide h
  have HX := hide hX
  have HI8 := hide hX.r.hi
  have HQ0 : Hid (ROwns ((w.alloc (.cells #[.slice a1 xs.length c1, .slice a2 ys.length c2, .slice a3 is.length c3, .slice a4 bs.length c4] 35)).alloc (.cells #[] 3)) (w.heap.size + 1) 3 (.slice (some ⟨w.heap.size + 1, 0, none⟩) 0 0) (ic (curJ is 0)) ∧ Below w.heap.size w ((w.alloc (.cells #[.slice a1 xs.length c1, .slice a2 ys.length c2, .slice a3 is.length c3, .slice a4 bs.length c4] 35)).alloc (.cells #[] 3)) ∧ AtC ((w.alloc (.cells #[.slice a1 xs.length c1, .slice a2 ys.length c2, .slice a3 is.length c3, .slice a4 bs.length c4] 35)).alloc (.cells #[] 3)) w.heap.size 35 #[.slice a1 xs.length c1, .slice a2 ys.length c2, .slice a3 is.length c3, .slice a4 bs.length c4]) := by
    have l0 := ROwns.lit0 (w.alloc (.cells #[.slice a1 xs.length c1, .slice a2 ys.length c2, .slice a3 is.length c3, .slice a4 bs.length c4] 35)) (w.heap.size + 1) 3 (by simp)
    have e0 : (w.alloc (.cells #[.slice a1 xs.length c1, .slice a2 ys.length c2, .slice a3 is.length c3, .slice a4 bs.length c4] 35)).heap.size = w.heap.size + 1 := by simp
    rw [e0] at l0
    exact ⟨l0, ((Below.refl _ w).alloc (Nat.le_refl _) _).alloc (by simp) _, (AtC.new w 35 _).alloc _⟩
  clear h hX
  go_enter Tryz.func17, Tryz.ntmps17
  go_wp2_with fail
  go_loopw [3, 4, 5] (fun nv sv kv wr => ∃ (s' : Value) (j : Nat), s' = sv ∧ j ≤ is.length ∧ nv = .int .i64 ((shrC (curJ is j) : Nat) : Int) ∧ kv = .int .i64 j ∧ Hid (ROwns wr (w.heap.size + 1) 3 s' (ic (curJ is j)) ∧ Below w.heap.size w wr ∧ AtC wr w.heap.size 35 #[.slice a1 xs.length c1, .slice a2 ys.length c2, .slice a3 is.length c3, .slice a4 bs.length c4])) (fun _ _ kv _ => is.length - (intOf kv).toNat)
  case atStart => exact ⟨_, 0, rfl, Nat.zero_le _, rfl, rfl, HQ0.out⟩
  case round =>
    obtain ⟨sv, j, hsv, hj, rfl, rfl, HQ⟩ := hrel
    subst hsv
    clear HQ0
    have j0 : (0 : Int) ≤ (j : Int) := by omega
    have x2 : wr.cell? ⟨w.heap.size, 2, none⟩ = some (.slice a3 is.length c3) := HQ.out.2.2.cell 2
    by_cases hlt : j < is.length
    rotate_left
    · have j1 : ¬ ((j : Int) < (is.length : Int)) := by omega
      have HE : Hid (shrC (curJ is j) = sharedN is) := by
        obtain rfl : j = 8 := by have := HI8.out; omega
        rfl
      rw [HE.out]
      go_wp2
      go_ret
      exact ⟨rfl, HQ.out.2.1⟩
    have j1 : (j : Int) < (is.length : Int) := by omega
    have hj8 : j < 8 := by have := HI8.out; omega
    obtain ⟨g2, o2, sa, sc, rfl, hg2, y0, -, y2, rr⟩ := DR.ino HH.out j hlt
    have HY : Hid (∀ W, Below w.heap.size w W → W.cell? ⟨g2, o2 + j * 3, none⟩ = some (.int .i64 (kindAt is ((j : Int) + 1))) ∧ W.cell? ⟨g2, o2 + j * 3 + 2, none⟩ = some (.slice sa (ptrsAt is ((j : Int) + 1)).length sc)) := fun W b => ⟨(b.cell (p := ⟨g2, o2 + j * 3, none⟩) hg2).trans y0, (b.cell (p := ⟨g2, o2 + j * 3 + 2, none⟩) hg2).trans y2⟩
    have HCS := hide (curJ_succ is j)
    have hcl := curJ_len HX.out.r j
    have hp2 := ptrsAt_len HX.out.r ((j : Int) + 1)
    have HPR : Hid (∀ p ∈ ptrsAt is ((j : Int) + 1), 0 ≤ p ∧ p ≤ 16) := fun p hp => HX.out.ptr hp
    obtain ⟨kd, hkd⟩ : ∃ k, kindAt is ((j : Int) + 1) = k := ⟨_, rfl⟩
    obtain ⟨ps, hps⟩ : ∃ X, ptrsAt is ((j : Int) + 1) = X := ⟨_, rfl⟩
    rw [hkd, hps] at HY
    rw [hkd, hps] at HCS
    rw [hps] at rr hp2 HPR
    obtain ⟨pa, pc', pe, hcp⟩ := rr
    simp only [Value.slice.injEq, true_and] at pe
    obtain ⟨rfl, rfl⟩ := pe
    have HCP := hide hcp
    clear hkd hps hcp y0 y2
    have y0 := (HY.out wr HQ.out.2.1).1
    have y2 := (HY.out wr HQ.out.2.1).2
    by_cases hk0 : kd = 0
    · subst hk0
      have HE : Hid (curJ is (j + 1) = curJ is j) := hide (by have := HCS.out; simpa using this)
      by_cases hn0 : ps.length = 0
      · have n1 : ¬ ((0 : Int) < (ps.length : Int)) := by omega
        go_wp2_with fail
        go_rounds 1
        go_roundw
        case rel => exact ⟨sv, j + 1, rfl, by omega, by rw [HE.out], by go_num, by rw [HE.out]; exact HQ.out⟩
        case measure => simp [intOf]; omega
      · have n1 : (0 : Int) < (ps.length : Int) := by omega
        go_wp2_with fail
        go_rounds 1
        go_roundw
        case rel => exact ⟨sv, j + 1, rfl, by omega, by rw [HE.out], by go_num, by rw [HE.out]; exact HQ.out⟩
        case measure => simp [intOf]; omega
    have hkb : (kd != 0) = true := by simp [hk0]
    have HE : Hid (curJ is (j + 1) = curJ is j ++ (ptrT ((j : Int) + 1) ps).map (·.2)) := hide (by have := HCS.out; rwa [if_neg hk0] at this)
    obtain ⟨c0, hc0⟩ : ∃ c, curJ is j = c := ⟨_, rfl⟩
    rw [hc0] at HQ HE hcl ⊢
    have HQ1 : Hid (ROwns wr (w.heap.size + 1) 3 sv (ic (c0 ++ (ptrT ((j : Int) + 1) (ps.take 0)).map (·.2))) ∧ Below w.heap.size w wr ∧ AtC wr w.heap.size 35 #[.slice a1 xs.length c1, .slice a2 ys.length c2, .slice (some ⟨g2, o2, none⟩) is.length c3, .slice a4 bs.length c4]) := hide (by have := HQ.out; simpa [ptrT] using this)
    have hn0 : shrC c0 = shrC (c0 ++ (ptrT ((j : Int) + 1) (ps.take 0)).map (·.2)) := by simp [ptrT]
    clear hc0 HQ HCS
    rw [hn0]
    clear hn0
    go_wp2_with fail
    go_loopw [3, 4, 6] (fun nv sv kv wr => ∃ (s' : Value) (t : Nat), s' = sv ∧ t ≤ ps.length ∧ nv = .int .i64 ((shrC (c0 ++ (ptrT ((j : Int) + 1) (ps.take t)).map (·.2)) : Nat) : Int) ∧ kv = .int .i64 t ∧ Hid (ROwns wr (w.heap.size + 1) 3 s' (ic (c0 ++ (ptrT ((j : Int) + 1) (ps.take t)).map (·.2))) ∧ Below w.heap.size w wr ∧ AtC wr w.heap.size 35 #[.slice a1 xs.length c1, .slice a2 ys.length c2, .slice (some ⟨g2, o2, none⟩) is.length c3, .slice a4 bs.length c4])) (fun _ _ kv _ => ps.length - (intOf kv).toNat)
    case atStart => exact ⟨_, 0, rfl, Nat.zero_le _, rfl, rfl, HQ1.out⟩
    case round =>
      obtain ⟨sv', t, hsv, ht, rfl, rfl, HT⟩ := hrel
      subst hsv
      clear HQ1 x2 y0 y2
      have t0 : (0 : Int) ≤ (t : Int) := by omega
      have x2 : wr.cell? ⟨w.heap.size, 2, none⟩ = some (.slice (some ⟨g2, o2, none⟩) is.length c3) := HT.out.2.2.cell 2
      have y0 := (HY.out wr HT.out.2.1).1
      have y2 := (HY.out wr HT.out.2.1).2
      by_cases htl : t < ps.length
      rotate_left
      · have t1 : ¬ ((t : Int) < (ps.length : Int)) := by omega
        have HF : Hid (c0 ++ (ptrT ((j : Int) + 1) (ps.take t)).map (·.2) = curJ is (j + 1)) := by
          show _ = _
          rw [HE.out, List.take_of_length_le (show ps.length ≤ t by omega)]
        rw [HF.out]
        have HT' := hide HT.out
        rw [HF.out] at HT'
        go_wp2
        go_roundw
        case rel => exact ⟨sv', j + 1, rfl, by omega, rfl, by go_num, HT'.out⟩
        case measure => simp [intOf]; omega
      have t1 : (t : Int) < (ps.length : Int) := by omega
      obtain ⟨gp, op, rfl, hgp, kp⟩ := HCP.out t htl
      replace kp := (HT.out.2.1.cell (p := ⟨gp, op + t, none⟩) hgp).trans kp
      have HTT := hide (ptrT_take ((j : Int) + 1) ps t htl)
      have htn := ptrT_len ((j : Int) + 1) (ps.take t)
      rw [List.length_take] at htn
      have hpr := HPR.out _ (List.getElem_mem htl)
      obtain ⟨Pn, hPn⟩ : ∃ x, ps[t] = x := ⟨_, rfl⟩
      rw [hPn] at kp HTT hpr
      clear hPn
      by_cases hp0 : Pn ≤ 0
      · have HF : Hid (ptrT ((j : Int) + 1) (ps.take (t + 1)) = ptrT ((j : Int) + 1) (ps.take t)) := hide (by
          have := HTT.out
          have e : inB Pn 1 16 = false := by simp [inB]; omega
          rw [e] at this
          simpa using this)
        go_wp2
        go_roundw
        case rel => exact ⟨sv', t + 1, rfl, by omega, by rw [HF.out], by go_num, by rw [HF.out]; exact HT.out⟩
        case measure => simp [intOf]; omega
      have HF : Hid (c0 ++ (ptrT ((j : Int) + 1) (ps.take (t + 1))).map (·.2) = (c0 ++ (ptrT ((j : Int) + 1) (ps.take t)).map (·.2)) ++ [Pn]) := hide (by
        have := HTT.out
        have e : inB Pn 1 16 = true := by simp [inB]; omega
        rw [e, if_pos rfl] at this
        rw [this]
        simp)
      have hcu : (c0 ++ (ptrT ((j : Int) + 1) (ps.take t)).map (·.2)).length ≤ 100 := by rw [List.length_append, List.length_map]; omega
      obtain ⟨cu, hcu'⟩ : ∃ c, c0 ++ (ptrT ((j : Int) + 1) (ps.take t)).map (·.2) = c := ⟨_, rfl⟩
      rw [hcu'] at HF HT hcu ⊢
      have hsl := shrC_le cu
      have HSN := hide (shrC_snoc cu Pn)
      have CH := hide (has10_any sv' cu Pn wr HT.out.1.rints (by omega))
      obtain ⟨sva, svc, rfl, -⟩ := HT.out.1.form
      obtain ⟨m, hm⟩ : ∃ m, (ic cu).length = m := ⟨_, rfl⟩
      rw [hm] at HT CH ⊢
      have HAL : Hid (ROwns (wr.alloc (.cells #[.int .i64 Pn] 3)) (w.heap.size + 1) 3 (.slice sva m svc) (ic cu) ∧ Below w.heap.size w (wr.alloc (.cells #[.int .i64 Pn] 3)) ∧ AtC (wr.alloc (.cells #[.int .i64 Pn] 3)) w.heap.size 35 #[.slice a1 xs.length c1, .slice a2 ys.length c2, .slice (some ⟨g2, o2, none⟩) is.length c3, .slice a4 bs.length c4] ∧ (wr.alloc (.cells #[.int .i64 Pn] 3)).cell? ⟨wr.heap.size, 0, none⟩ = some (.int .i64 Pn) ∧ w.heap.size + 1 ≤ (wr.alloc (.cells #[.int .i64 Pn] 3)).heap.size) := ⟨HT.out.1.alloc _, HT.out.2.1.alloc HT.out.2.1.size _, HT.out.2.2.alloc _, (AtC.new wr 3 #[.int .i64 Pn]).cell 0, by have := HT.out.2.2.lt; simp; omega⟩
      have HTL : Hid ((ic cu).length ≤ 100000000000) := by show _ ≤ _; rw [ic_length]; omega
      have HIC : Hid (ic cu ++ [.int .i64 Pn] = ic (c0 ++ (ptrT ((j : Int) + 1) (ps.take (t + 1))).map (·.2))) := by show _ = ic _; rw [HF.out]; simp [ic]
      have HRL : Hid (∀ v9 w9, ROwns w9 (w.heap.size + 1) 3 v9 (ic cu ++ [.int .i64 Pn]) → (wr.alloc (.cells #[.int .i64 Pn] 3)).grownBy w9 (Value.slice sva m svc).ownBlock → ROwns w9 (w.heap.size + 1) 3 v9 (ic (c0 ++ (ptrT ((j : Int) + 1) (ps.take (t + 1))).map (·.2))) ∧ Below w.heap.size w w9 ∧ AtC w9 w.heap.size 35 #[.slice a1 xs.length c1, .slice a2 ys.length c2, .slice (some ⟨g2, o2, none⟩) is.length c3, .slice a4 bs.length c4]) := fun v9 w9 T9 G9 => ⟨by rw [← HIC.out]; exact T9, HAL.out.2.1.grown G9 HAL.out.2.1.size (fun k hk => by have := (HAL.out.1.lt k hk).1; omega), HAL.out.2.2.1.grown G9 (fun e => by have := (HAL.out.1.lt _ e).1; omega)⟩
      rw [← HF.out] at HSN
      clear hcu' hm HT
      cases hhas : cu.contains Pn with
      | true =>
        rw [hhas] at CH HSN
        have HN : Hid (shrC (c0 ++ (ptrT ((j : Int) + 1) (ps.take (t + 1))).map (·.2)) = shrC cu + 1) := hide (by have := HSN.out; simpa using this)
        clear hhas
        go_wp2_with fail
        refine CH.out.mono ?_
        rintro e w7 ⟨rfl, rfl⟩
        go_wp2_with (at_builtin; refine wpList_step fun K' hK' => ?_; refine step_append_one _ rfl (.tmp 52) (.tmp 54) 42 rfl (w.heap.size + 1) 3 Tryz.u42 _ 8 Tryz.i3 rfl (by decide) (.slice sva m svc) (ic cu) rfl HAL.out.1 HAL.out.2.2.2.2 w7.heap.size (.int .i64 Pn) rfl HAL.out.2.2.2.1 rfl HTL.out ?_; intro v9 w9 T9 G9 V9; refine hK' _ _ ?_; have HR9 := hide (HRL.out v9 w9 T9 G9); clear T9 G9 V9 hK')
        go_roundw
        case rel => exact ⟨v9, t + 1, rfl, by omega, by rw [HN.out]; go_num, by go_num, HR9.out⟩
        case measure => simp [intOf]; omega
      | false =>
        rw [hhas] at CH HSN
        have HN : Hid (shrC (c0 ++ (ptrT ((j : Int) + 1) (ps.take (t + 1))).map (·.2)) = shrC cu) := hide (by have := HSN.out; simpa using this)
        clear hhas
        go_wp2_with fail
        refine CH.out.mono ?_
        rintro e w7 ⟨rfl, rfl⟩
        go_wp2_with (at_builtin; refine wpList_step fun K' hK' => ?_; refine step_append_one _ rfl (.tmp 52) (.tmp 54) 42 rfl (w.heap.size + 1) 3 Tryz.u42 _ 8 Tryz.i3 rfl (by decide) (.slice sva m svc) (ic cu) rfl HAL.out.1 HAL.out.2.2.2.2 w7.heap.size (.int .i64 Pn) rfl HAL.out.2.2.2.1 rfl HTL.out ?_; intro v9 w9 T9 G9 V9; refine hK' _ _ ?_; have HR9 := hide (HRL.out v9 w9 T9 G9); clear T9 G9 V9 hK')
        go_roundw
        case rel => exact ⟨v9, t + 1, rfl, by omega, by rw [HN.out], by go_num, HR9.out⟩
        case measure => simp [intOf]; omega
end Go.Proofs.YtljooldjcefkoaaGreat
/- Of the specification: Unmarked by its contract. -/
namespace Go.Proofs.YtljooldjcefkoaaGreat
open Go.RowKit Kit
theorem bits_base {w : World} {a : Option Addr} {n c : Nat} {zs : List Bool} (h : RFl w (.slice a n c) zs) (h0 : 0 < zs.length) :
    ∃ g o, a = some ⟨g, o, none⟩ ∧ g < w.heap.size ∧ ∀ j : Nat, j < zs.length → w.cell? ⟨g, o + j, none⟩ = some (.bool (zs.getD j false)) := by
  obtain ⟨g, o, e, hg, -⟩ := DR.bit h 0 h0
  refine ⟨g, o, e, hg, fun j hj => ?_⟩
  obtain ⟨g', o', e', -, k⟩ := DR.bit h j hj
  rw [e] at e'
  simp only [Option.some.injEq, Addr.mk.injEq, and_true] at e'
  obtain ⟨rfl, rfl⟩ := e'
  rw [k, getD_at false hj]
/-- What is told free among the first q. -/
def unmQ (xs ys : List Bool) (is : List Ino) (l : List Int) : Nat := l.countP (fun i : Int => !(ys.getD (i - 1).toNat false)) + (ptrL is l).countP (fun s : Pr => !(xs.getD (s.2 - 1).toNat false))
theorem unmQ_le {is : List Ino} {bs : List Blk} (h : RD is bs) (xs ys : List Bool) (l : List Int) : unmQ xs ys is l ≤ l.length * 3 := by
  have h1 := ptrL_len h l
  have h2 : l.countP (fun i : Int => !(ys.getD (i - 1).toNat false)) ≤ l.length := List.countP_le_length
  have h3 : (ptrL is l).countP (fun s : Pr => !(xs.getD (s.2 - 1).toNat false)) ≤ (ptrL is l).length := List.countP_le_length
  unfold unmQ
  omega
theorem unmQ_snoc (xs ys : List Bool) (is : List Ino) (l : List Int) (i : Int) : unmQ xs ys is (l ++ [i]) = unmQ xs ys is l + (if ys.getD (i - 1).toNat false = true then 0 else 1) + (ptrT i (ptrsAt is i)).countP (fun s : Pr => !(xs.getD (s.2 - 1).toNat false)) := by
  unfold unmQ ptrL
  rw [List.countP_append, List.flatMap_append, List.countP_append, List.countP_cons, List.countP_nil, List.flatMap_cons, List.flatMap_nil, List.append_nil]
  have : ptrI is i = ptrT i (ptrsAt is i) := rfl
  rw [this]
  cases ys.getD (i - 1).toNat false <;> simp <;> omega
set_option maxRecDepth 100000 in
set_option maxHeartbeats 3200000 in
theorem specUnm_any (dx dy iv bv : Value) (xs ys : List Bool) (is : List Ino) (bs : List Blk) (w : World) (h : DR w dx dy iv bv xs ys is bs) (hX : RX xs ys is bs) :
    Calls Tryz.prog 18 #[.agg #[dx, dy, iv, bv]] w fun e w' => e = .returned (.int .i64 ((unmP xs is bs : Int) + (unmI ys is bs : Int))) ∧ Below w.heap.size w w' := by
  obtain ⟨a1, c1, a2, c2, a3, c3, a4, c4, rfl, rfl, rfl, rfl⟩ := h.form
  obtain ⟨gx, ox, rfl, hgx, hbx⟩ := bits_base h.a (by rw [hX.bx]; decide)
  obtain ⟨gy, oy, rfl, hgy, hby⟩ := bits_base h.b (by rw [hX.y8]; decide)
  have HBX : Hid (∀ (W : World) (j : Nat), Below w.heap.size w W → j < 16 → W.cell? ⟨gx, ox + j, none⟩ = some (.bool (xs.getD j false))) := fun W j b hj => (b.cell (p := ⟨gx, ox + j, none⟩) hgx).trans (hbx j (by rw [hX.bx]; exact hj))
  have HBY : Hid (∀ (W : World) (j : Nat), Below w.heap.size w W → j < 8 → W.cell? ⟨gy, oy + j, none⟩ = some (.bool (ys.getD j false))) := fun W j b hj => (b.cell (p := ⟨gy, oy + j, none⟩) hgy).trans (hby j (by rw [hX.y8]; exact hj))
  have HL : Hid (xs.length = 16 ∧ ys.length = 8 ∧ is.length = 8) := ⟨hX.bx, hX.y8, hX.r.hi⟩
  have HH := hide h
  have HB0 : Hid (Below w.heap.size w (w.alloc (.cells #[.slice (some ⟨gx, ox, none⟩) xs.length c1, .slice (some ⟨gy, oy, none⟩) ys.length c2, .slice a3 is.length c3, .slice a4 bs.length c4] 35))) := (Below.refl _ w).alloc (Nat.le_refl _) _
  have HA0 := hide (AtC.new w 35 #[.slice (some ⟨gx, ox, none⟩) xs.length c1, .slice (some ⟨gy, oy, none⟩) ys.length c2, .slice a3 is.length c3, .slice a4 bs.length c4])
  have CR := hide (specReach_any (.slice (some ⟨gx, ox, none⟩) xs.length c1) (.slice (some ⟨gy, oy, none⟩) ys.length c2) (.slice a3 is.length c3) (.slice a4 bs.length c4) xs ys is bs (w.alloc (.cells #[.slice (some ⟨gx, ox, none⟩) xs.length c1, .slice (some ⟨gy, oy, none⟩) ys.length c2, .slice a3 is.length c3, .slice a4 bs.length c4] 35)) (h.alloc _) hX.r)
  have HRG : Hid (∀ i ∈ reachL is bs, 1 ≤ i ∧ i ≤ 8) := fun i hi => reach8 hi
  have HR8 := hide (reachL_len is bs)
  have HUL : Hid (∀ l, unmQ xs ys is l ≤ l.length * 3) := unmQ_le hX.r xs ys
  have HP2 : Hid (∀ i, (ptrsAt is i).length ≤ 2) := ptrsAt_len hX.r
  obtain ⟨RL, hRL⟩ : ∃ l, reachL is bs = l := ⟨_, rfl⟩
  have HFIN : Hid ((unmP xs is bs : Int) + (unmI ys is bs : Int) = ((unmQ xs ys is RL : Nat) : Int)) := by
    show _ = _
    unfold unmP unmI unmQ
    rw [hRL]
    omega
  rw [HFIN.out]
  rw [hRL] at CR HRG HR8
  clear h hX hRL HFIN hbx hby
  go_enter Tryz.func18, Tryz.ntmps18
  go_wp2_with fail
  refine CR.out.mono ?_
  rintro e w1 ⟨rv, rfl, R1, B1⟩
  have HB1 := hide (HB0.out.trans (B1.mono HB0.out.size))
  have HA1 := hide (HA0.out.over B1)
  obtain ⟨ra, rc, rfl, hcr⟩ := R1.rints
  have HCR := hide hcr
  have r8 : RL.length ≤ 8 := HR8.out
  clear R1 B1 CR HB0 HA0 hcr
  go_wp2_with fail
  go_loopw [3, 5] (fun nv kv wr => ∃ (q : Nat), q ≤ RL.length ∧ nv = .int .i64 ((unmQ xs ys is (RL.take q) : Nat) : Int) ∧ kv = .int .i64 q ∧ Hid (Below w1.heap.size w1 wr)) (fun _ kv _ => RL.length - (intOf kv).toNat)
  case atStart => exact ⟨0, Nat.zero_le _, rfl, rfl, Below.refl _ _⟩
  case round =>
    obtain ⟨q, hq, rfl, rfl, HQ⟩ := hrel
    have q0 : (0 : Int) ≤ (q : Int) := by omega
    by_cases hlt : q < RL.length
    rotate_left
    · have q1 : ¬ ((q : Int) < (RL.length : Int)) := by omega
      rw [List.take_of_length_le (by omega)]
      go_wp2
      go_ret
      exact ⟨rfl, HB1.out.trans (HQ.out.mono HB1.out.size)⟩
    have q1 : (q : Int) < (RL.length : Int) := by omega
    obtain ⟨gr, orr, rfl, hgr, kr⟩ := HCR.out q hlt
    replace kr := (HQ.out.cell (p := ⟨gr, orr + q, none⟩) hgr).trans kr
    have hrg := HRG.out _ (List.getElem_mem hlt)
    have HSN : Hid (unmQ xs ys is (RL.take (q + 1)) = unmQ xs ys is (RL.take q) + (if ys.getD (RL[q] - 1).toNat false = true then 0 else 1) + (ptrT RL[q] (ptrsAt is RL[q])).countP (fun s : Pr => !(xs.getD (s.2 - 1).toNat false))) := by
      show _ = _
      rw [List.take_succ_eq_append_getElem hlt, unmQ_snoc]
    have hul := HUL.out (RL.take q)
    rw [List.length_take] at hul
    obtain ⟨u0, hu0⟩ : ∃ c, unmQ xs ys is (RL.take q) = c := ⟨_, rfl⟩
    obtain ⟨di, hdi⟩ : ∃ x, RL[q] = x := ⟨_, rfl⟩
    rw [hu0, hdi] at HSN
    rw [hu0] at hul ⊢
    rw [hdi] at kr hrg
    obtain ⟨j, rfl⟩ : ∃ j : Nat, di = (j : Int) + 1 := ⟨(di - 1).toNat, by omega⟩
    rw [show ((j : Int) + 1 - 1).toNat = j by omega] at HSN
    have hj8 : j < 8 := by omega
    have hj : j < is.length := by have := HL.out; omega
    have j0 : (0 : Int) ≤ (j : Int) := by omega
    have j1 : (j : Int) < (is.length : Int) := by omega
    have jy1 : (j : Int) < (ys.length : Int) := by have := HL.out; omega
    have jy2 : (j : Int) + 1 ≤ (ys.length : Int) := by have := HL.out; omega
    have hwj : IntKind.i64.wrap (j : Int) = (j : Int) := wrap_small _ (by omega) (by omega)
    have HBW := hide (HB1.out.trans (HQ.out.mono HB1.out.size))
    have HAW := hide (HA1.out.over HQ.out)
    obtain ⟨g2, o2, sa, sc, rfl, hg2, y0, y1, y2, rr⟩ := DR.ino HH.out j hj
    replace y0 := (HBW.out.cell (p := ⟨g2, o2 + j * 3, none⟩) hg2).trans y0
    replace y1 := (HBW.out.cell (p := ⟨g2, o2 + j * 3 + 1, none⟩) hg2).trans y1
    replace y2 := (HBW.out.cell (p := ⟨g2, o2 + j * 3 + 2, none⟩) hg2).trans y2
    have kb := HBY.out wr j HBW.out hj8
    have x1 : wr.cell? ⟨w.heap.size, 1, none⟩ = some (.slice (some ⟨gy, oy, none⟩) ys.length c2) := HAW.out.cell 1
    have x2 : wr.cell? ⟨w.heap.size, 2, none⟩ = some (.slice (some ⟨g2, o2, none⟩) is.length c3) := HAW.out.cell 2
    have hp2 := HP2.out ((j : Int) + 1)
    obtain ⟨ps, hps⟩ : ∃ X, ptrsAt is ((j : Int) + 1) = X := ⟨_, rfl⟩
    rw [hps] at y2 rr hp2 HSN
    obtain ⟨pa, pc', pe, hcp⟩ := rr
    simp only [Value.slice.injEq, true_and] at pe
    obtain ⟨rfl, rfl⟩ := pe
    have HCP := hide hcp
    obtain ⟨kd, hkd⟩ : ∃ k, kindAt is ((j : Int) + 1) = k := ⟨_, rfl⟩
    obtain ⟨ln, hln⟩ : ∃ k, is[j].2.1 = k := ⟨_, rfl⟩
    rw [hkd] at y0
    rw [hln] at y1
    obtain ⟨bi, hbi⟩ : ∃ b, ys.getD j false = b := ⟨_, rfl⟩
    rw [hbi] at kb HSN
    obtain ⟨W1, hW1⟩ : ∃ W, wr.alloc (.cells #[.int .i64 kd, .int .i64 ln, .slice sa ps.length sc] 44) = W := ⟨_, rfl⟩
    have HW1 : Hid (Below w1.heap.size w1 W1 ∧ AtC W1 wr.heap.size 44 #[.int .i64 kd, .int .i64 ln, .slice sa ps.length sc]) := by
      rw [← hW1]
      exact ⟨HQ.out.alloc HQ.out.size _, AtC.new _ _ _⟩
    have hg2w : ¬ g2 = wr.heap.size := by have := HBW.out.size; omega
    clear hu0 hdi hps hcp hkd hln hbi
    have hgo : ∃ u1 : Nat, u1 ≤ u0 + 1 ∧ Hid (unmQ xs ys is (RL.take (q + 1)) = u1 + (ptrT ((j : Int) + 1) ps).countP (fun s : Pr => !(xs.getD (s.2 - 1).toNat false))) ∧ u1 = u0 + (if bi = true then 0 else 1) := ⟨u0 + (if bi = true then 0 else 1), by split <;> omega, hide HSN.out, rfl⟩
    obtain ⟨u1, hu1, HU1, heu⟩ := hgo
    go_upto_if 36 with fail
    go_cut [3] from 11 to 77 (fun nv wz => nv = .int .i64 (u1 : Int) ∧ wz = wr)
    case first =>
      cases bi with
      | true =>
        have e : u1 = u0 := by simpa using heu
        clear heu
        subst e
        go_wp2
        go_meet
        exact ⟨rfl, rfl⟩
      | false =>
        have e : u1 = u0 + 1 := by simpa using heu
        clear heu
        subst e
        go_wp2
        go_meet
        exact ⟨by go_num, rfl⟩
    case rest =>
      obtain ⟨rfl, rfl⟩ := hcut
      clear heu HSN x1 kb kr
      obtain ⟨wb, hwb⟩ : ∃ W, W = wc := ⟨_, rfl⟩
      subst hwb
      go_upto_region 10 with fail
      clear hW1 y0 y1 y2 x2
      go_wp2_with fail
      go_loopw [3, 8] (fun nv kv wr => ∃ (t : Nat), t ≤ ps.length ∧ nv = .int .i64 (((u1 + (ptrT ((j : Int) + 1) (ps.take t)).countP (fun s : Pr => !(xs.getD (s.2 - 1).toNat false)) : Nat)) : Int) ∧ kv = .int .i64 t ∧ Hid (Below W1.heap.size W1 wr)) (fun _ kv _ => ps.length - (intOf kv).toNat)
      case atStart => exact ⟨0, Nat.zero_le _, by simp [ptrT], rfl, Below.refl _ _⟩
      case round =>
        obtain ⟨t, ht, rfl, rfl, HT⟩ := hrel
        have t0 : (0 : Int) ≤ (t : Int) := by omega
        have HBZ : Hid (Below w1.heap.size w1 wr ∧ Below w.heap.size w wr) := by
          have b := HW1.out.1.trans (HT.out.mono HW1.out.1.size)
          exact ⟨b, HB1.out.trans (b.mono HB1.out.size)⟩
        have x7 : wr.cell? ⟨wb.heap.size, 2, none⟩ = some (.slice sa ps.length sc) := (HW1.out.2.over HT.out).cell 2
        have x0 : wr.cell? ⟨w.heap.size, 0, none⟩ = some (.slice (some ⟨gx, ox, none⟩) xs.length c1) := (HA1.out.over HBZ.out.1).cell 0
        by_cases htl : t < ps.length
        rotate_left
        · have t1 : ¬ ((t : Int) < (ps.length : Int)) := by omega
          have HE : Hid (unmQ xs ys is (RL.take (q + 1)) = u1 + (ptrT ((j : Int) + 1) (ps.take t)).countP (fun s : Pr => !(xs.getD (s.2 - 1).toNat false))) := by
            show _ = _
            rw [HU1.out, List.take_of_length_le (show ps.length ≤ t by omega)]
          go_wp2
          go_roundw
          case rel => exact ⟨q + 1, by omega, by rw [HE.out], by go_num, HBZ.out.1⟩
          case measure => simp [intOf]; omega
        have t1 : (t : Int) < (ps.length : Int) := by omega
        obtain ⟨gp, op, rfl, hgp, kp⟩ := HCP.out t htl
        replace kp := (HBZ.out.2.cell (p := ⟨gp, op + t, none⟩) hgp).trans kp
        have HTT := hide (congrArg (List.countP (fun s : Pr => !(xs.getD (s.2 - 1).toNat false))) (ptrT_take ((j : Int) + 1) ps t htl))
        have hle : (ptrT ((j : Int) + 1) (ps.take t)).countP (fun s : Pr => !(xs.getD (s.2 - 1).toNat false)) ≤ 2 := Nat.le_trans List.countP_le_length (Nat.le_trans (ptrT_len _ _) (by rw [List.length_take]; omega))
        obtain ⟨Pn, hPn⟩ : ∃ x, ps[t] = x := ⟨_, rfl⟩
        rw [hPn, List.countP_append] at HTT
        rw [hPn] at kp
        obtain ⟨v0, hv0⟩ : ∃ c, (ptrT ((j : Int) + 1) (ps.take t)).countP (fun s : Pr => !(xs.getD (s.2 - 1).toNat false)) = c := ⟨_, rfl⟩
        rw [hv0] at HTT hle ⊢
        have CI := hide (fun (W : World) => l01In_any Pn 1 (xs.length : Int) W)
        have hx16 : (xs.length : Int) = 16 := by have := HL.out; omega
        have hxe : inB Pn 1 (xs.length : Int) = inB Pn 1 16 := by rw [hx16]
        rw [hxe] at CI
        clear hPn hv0
        cases hin : inB Pn 1 16 with
        | false =>
          rw [hin] at CI HTT
          have HE : Hid ((ptrT ((j : Int) + 1) (ps.take (t + 1))).countP (fun s : Pr => !(xs.getD (s.2 - 1).toNat false)) = v0) := hide (by have := HTT.out; simpa using this)
          clear hin hx16 hxe
          go_upto_region 13 with fail
          go_quiet ((go_at_call 51; exact Calls.quiet_of_same (CI.out _)))
          go_wp2
          go_roundw
          case rel => exact ⟨t + 1, by omega, by rw [HE.out], by go_num, below_drewN HT.out _⟩
          case measure => simp [intOf]; omega
        | true =>
          rw [hin] at CI HTT
          obtain ⟨hp1, hp2'⟩ := inB_true hin
          obtain ⟨p, rfl⟩ : ∃ p : Nat, Pn = (p : Int) + 1 := ⟨(Pn - 1).toNat, by omega⟩
          have kx := HBX.out wr p HBZ.out.2 (by omega)
          have p0 : (0 : Int) ≤ (p : Int) := by omega
          have pl : (p : Int) < (xs.length : Int) := by omega
          have hwp : IntKind.i64.wrap (p : Int) = (p : Int) := wrap_small _ (by omega) (by omega)
          have HTT2 : Hid ((ptrT ((j : Int) + 1) (ps.take (t + 1))).countP (fun s : Pr => !(xs.getD (s.2 - 1).toNat false)) = v0 + if xs.getD p false = true then 0 else 1) := hide (by
            have := HTT.out
            rw [this, if_pos rfl, List.countP_cons, List.countP_nil]
            have e : ((p : Int) + 1 - 1).toNat = p := by omega
            simp only [e]
            cases xs.getD p false <;> simp)
          obtain ⟨bx, hbx⟩ : ∃ b, xs.getD p false = b := ⟨_, rfl⟩
          rw [hbx] at kx HTT2
          clear hbx hin hx16 hxe hp1 hp2' HTT
          go_upto_region 13 with fail
          go_quiet ((go_at_call 51; exact Calls.quiet_of_same (CI.out _)))
          cases bx with
          | true =>
            have HE : Hid ((ptrT ((j : Int) + 1) (ps.take (t + 1))).countP (fun s : Pr => !(xs.getD (s.2 - 1).toNat false)) = v0) := hide (by have := HTT2.out; simpa using this)
            go_wp2
            go_roundw
            case rel => exact ⟨t + 1, by omega, by rw [HE.out], by go_num, below_drewN HT.out _⟩
            case measure => simp [intOf]; omega
          | false =>
            have HE : Hid ((ptrT ((j : Int) + 1) (ps.take (t + 1))).countP (fun s : Pr => !(xs.getD (s.2 - 1).toNat false)) = v0 + 1) := hide (by have := HTT2.out; simpa using this)
            go_wp2
            go_roundw
            case rel => exact ⟨t + 1, by omega, by rw [HE.out]; go_num, by go_num, below_drewN HT.out _⟩
            case measure => simp [intOf]; omega
end Go.Proofs.YtljooldjcefkoaaGreat
