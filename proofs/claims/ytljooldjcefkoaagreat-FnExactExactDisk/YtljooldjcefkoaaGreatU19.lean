/- Texts of the proof, bundled: Si. -/
import Derived.Test.YtljooldjcefkoaaGreatU15
import Derived.Test.YtljooldjcefkoaaGreatU18
/- impl.SafeDisk by its contract. -/
namespace Go.Proofs.YtljooldjcefkoaaGreat
open Go.RowKit Kit
theorem dangN_le {is : List Ino} {bs : List Blk} (h : RD is bs) : dangN is bs ≤ 64 := Nat.le_trans List.countP_le_length (slotsR_len h)
theorem shortN_le (is : List Ino) (bs : List Blk) : shortN is bs ≤ 8 := Nat.le_trans List.countP_le_length (reachL_len is bs)
theorem wrongN_le {is : List Ino} {bs : List Blk} (h : RD is bs) : wrongN is bs ≤ 16 := Nat.le_trans List.countP_le_length (by have h1 := ptrL_len h (reachL is bs); have h2 := reachL_len is bs; omega)
set_option maxRecDepth 100000 in
set_option maxHeartbeats 6400000 in
theorem implSafe_any (dx dy iv bv : Value) (xs ys : List Bool) (is : List Ino) (bs : List Blk) (w : World) (h : DR w dx dy iv bv xs ys is bs) (hG : Big 1048576 xs ys is bs) :
    Calls Tryz.prog 8 #[.agg #[dx, dy, iv, bv]] w fun e w' => e = .returned (.bool (safeB xs ys is bs)) ∧ Below w.heap.size w w' := by
  obtain ⟨a1, c1, a2, c2, a3, c3, a4, c4, rfl, rfl, rfl, rfl⟩ := h.form
  obtain ⟨W0, hW0⟩ : ∃ W, (w.alloc (.cells #[.slice a1 xs.length c1, .slice a2 ys.length c2, .slice a3 is.length c3, .slice a4 bs.length c4] 35)) = W := ⟨_, rfl⟩
  have HA : Hid (AtC W0 w.heap.size 35 #[.slice a1 xs.length c1, .slice a2 ys.length c2, .slice a3 is.length c3, .slice a4 bs.length c4] ∧ Below w.heap.size w W0) := by
    rw [← hW0]
    exact ⟨AtC.new w 35 _, (Below.refl _ w).alloc (Nat.le_refl _) _⟩
  have CO := hide (fun (W : World) (hb : Below w.heap.size w W) => implOk_disk (.slice a1 xs.length c1) (.slice a2 ys.length c2) (.slice a3 is.length c3) (.slice a4 bs.length c4) xs ys is bs W (h.below hb (Nat.le_refl _)) hG.i hG.b)
  have HW : Hid (∀ W, Below W0.drew.heap.size W0.drew W → AtC W w.heap.size 35 #[.slice a1 xs.length c1, .slice a2 ys.length c2, .slice a3 is.length c3, .slice a4 bs.length c4] ∧ Below w.heap.size w W) := fun W b => ⟨HA.out.1.drew.over b, HA.out.2.drew.trans (b.mono HA.out.2.drew.size)⟩
  have CO1 := hide (CO.out W0.drew (HW.out _ (Below.refl _ _)).2)
  have z0 : W0.drew.cell? ⟨w.heap.size, 0, none⟩ = some (.slice a1 xs.length c1) := (HW.out _ (Below.refl _ _)).1.cell 0
  have z1 : W0.drew.cell? ⟨w.heap.size, 1, none⟩ = some (.slice a2 ys.length c2) := (HW.out _ (Below.refl _ _)).1.cell 1
  have z2 : W0.drew.cell? ⟨w.heap.size, 2, none⟩ = some (.slice a3 is.length c3) := (HW.out _ (Below.refl _ _)).1.cell 2
  have z3 : W0.drew.cell? ⟨w.heap.size, 3, none⟩ = some (.slice a4 bs.length c4) := (HW.out _ (Below.refl _ _)).1.cell 3
  cases hok : diskOk xs ys is bs with
  | false =>
    rw [hok] at CO1
    have HS : Hid (safeB xs ys is bs = false) := by show _ = _; unfold safeB; rw [hok]; rfl
    simp only [hok] at CO
    clear h hG hok CO1 z0 z1 z2 z3
    go_enter Tryz.func8, Tryz.ntmps8
    go_upto_region 1 with fail
    clear hW0
    refine wp_region_alt (by kernel_rfl) [0, 1, 2, 3, 4, 5, 6, 7, 8, 9, 10, 11, 12, 13, 14, 15, 16, 17, 18, 19, 20, 21, 22] [23, 24] [] (fun i => match i with | 0 => .const [] (.agg #[.slice a1 xs.length c1, .slice a2 ys.length c2, .slice a3 is.length c3, .slice a4 bs.length c4]) | 1 => .const [0] (.bool false) | 2 => .const [1] (.bool false) | 3 => .val [2] (fun _ _ _ _ => True) (fun _ _ _ _ _ _ _ => trivial) | 4 => .val [2] (fun _ _ _ _ => True) (fun _ _ _ _ _ _ _ => trivial) | 5 => .val [2] (fun _ _ _ _ => True) (fun _ _ _ _ _ _ _ => trivial) | 6 => .const [2] (.bool false) | 7 => .const [6] (.bool false) | 8 => .val [7] (fun _ _ _ _ => True) (fun _ _ _ _ _ _ _ => trivial) | 9 => .val [7] (fun _ _ _ _ => True) (fun _ _ _ _ _ _ _ => trivial) | 10 => .val [7] (fun _ _ _ _ => True) (fun _ _ _ _ _ _ _ => trivial) | 11 => .val [7] (fun _ _ _ _ => True) (fun _ _ _ _ _ _ _ => trivial) | 12 => .val [7] (fun _ _ _ _ => True) (fun _ _ _ _ _ _ _ => trivial) | 13 => .val [7] (fun _ _ _ _ => True) (fun _ _ _ _ _ _ _ => trivial) | 14 => .val [7] (fun _ _ _ _ => True) (fun _ _ _ _ _ _ _ => trivial) | 15 => .val [7] (fun _ _ _ _ => True) (fun _ _ _ _ _ _ _ => trivial) | 16 => .val [7] (fun _ _ _ _ => True) (fun _ _ _ _ _ _ _ => trivial) | 17 => .val [7] (fun _ _ _ _ => True) (fun _ _ _ _ _ _ _ => trivial) | 18 => .val [7] (fun _ _ _ _ => True) (fun _ _ _ _ _ _ _ => trivial) | 19 => .val [7] (fun _ _ _ _ => True) (fun _ _ _ _ _ _ _ => trivial) | 20 => .val [7] (fun _ _ _ _ => True) (fun _ _ _ _ _ _ _ => trivial) | 21 => .val [7] (fun _ _ _ _ => True) (fun _ _ _ _ _ _ _ => trivial) | 22 => .val [7] (fun _ _ _ _ => True) (fun _ _ _ _ _ _ _ => trivial) | _ => .triv) (fun x => ⟨#[Value.agg #[Value.slice a1 xs.length c1, Value.slice a2 ys.length c2, Value.slice a3 is.length c3, Value.slice a4 bs.length c4], Value.pointer (some { block := w.heap.size, off := 0 }), Value.bool false, x 0, x 1, x 2, x 3, x 4, x 5, x 6, x 7, x 8, x 9, x 10, x 11, x 12, x 13, x 14, x 15, x 16, x 17, x 18, x 19, x 20, x 21, x 22, undef], []⟩) (fun i => match i with | 0 => undef | 1 => undef | 2 => undef | 3 => undef | 4 => undef | 5 => undef | 6 => undef | 7 => undef | 8 => undef | 9 => undef | 10 => undef | 11 => undef | 12 => undef | 13 => undef | 14 => undef | 15 => undef | 16 => undef | 17 => undef | 18 => undef | 19 => undef | 20 => undef | 21 => undef | 22 => undef | _ => undef) rfl (makersOk2_of (by kernel_rfl) (by kernel_rfl)) (by kernel_rfl) (by kernel_rfl) (by kernel_rfl) rfl ?_ ?_ (by intro q hq; cases hq)
    · intro jo hj so x iw W hd hp K hK
      simp only [List.mem_cons, List.not_mem_nil, or_false] at hj
      rcases hj with rfl | rfl | rfl | rfl | rfl | rfl | rfl | rfl | rfl | rfl | rfl | rfl | rfl | rfl | rfl | rfl | rfl | rfl | rfl | rfl | rfl | rfl | rfl
      · refine wpOp_step (o := _) rfl fun K' hK' => ?_
        have HK : Hid (∀ v W', Below W.heap.size W W' → ((Mk.const [] (.agg #[.slice a1 xs.length c1, .slice a2 ys.length c2, .slice a3 is.length c3, .slice a4 bs.length c4]) : Mk)).P W.heap.size W'.heap.size W' v (upd x 0 v) → K' ⟨#[Value.agg #[Value.slice a1 xs.length c1, Value.slice a2 ys.length c2, Value.slice a3 is.length c3, Value.slice a4 bs.length c4], Value.pointer (some { block := w.heap.size, off := 0 }), Value.bool false, v, x 1, x 2, x 3, x 4, x 5, x 6, x 7, x 8, x 9, x 10, x 11, x 12, x 13, x 14, x 15, x 16, x 17, x 18, x 19, x 20, x 21, x 22, undef], []⟩ W') := fun v W' h1 h2 => hK' _ _ (hK v W' h1 h2)
        have bw := HW.out W hp.bel
        have k0 : W.cell? ⟨w.heap.size, 0, none⟩ = some (.slice a1 xs.length c1) := bw.1.cell 0
        have k1 : W.cell? ⟨w.heap.size, 1, none⟩ = some (.slice a2 ys.length c2) := bw.1.cell 1
        have k2 : W.cell? ⟨w.heap.size, 2, none⟩ = some (.slice a3 is.length c3) := bw.1.cell 2
        have k3 : W.cell? ⟨w.heap.size, 3, none⟩ = some (.slice a4 bs.length c4) := bw.1.cell 3
        clear bw
        clear hK hK' hp hd
        go_simp
        exact HK.out _ _ (Below.refl _ _) rfl
      · refine wpOp_step (o := _) rfl fun K' hK' => ?_
        have HK : Hid (∀ v W', Below W.heap.size W W' → ((Mk.const [0] (.bool false) : Mk)).P W.heap.size W'.heap.size W' v (upd x 1 v) → K' ⟨#[Value.agg #[Value.slice a1 xs.length c1, Value.slice a2 ys.length c2, Value.slice a3 is.length c3, Value.slice a4 bs.length c4], Value.pointer (some { block := w.heap.size, off := 0 }), Value.bool false, x 0, v, x 2, x 3, x 4, x 5, x 6, x 7, x 8, x 9, x 10, x 11, x 12, x 13, x 14, x 15, x 16, x 17, x 18, x 19, x 20, x 21, x 22, undef], []⟩ W') := fun v W' h1 h2 => hK' _ _ (hK v W' h1 h2)
        have e0 : x 0 = .agg #[.slice a1 xs.length c1, .slice a2 ys.length c2, .slice a3 is.length c3, .slice a4 bs.length c4] := hp.post 0 (hd 0 (show 0 ∈ [0] from by decide))
        have dr := (HW.out W hp.bel).2
        clear hK hK' hp hd
        simp only [e0] at HK ⊢
        clear e0
        go_simp
        refine (CO.out W dr).mono ?_
        rintro e w6 ⟨rfl, B6⟩
        go_simp
        exact HK.out _ _ B6 rfl
      · refine wpOp_step (o := _) rfl fun K' hK' => ?_
        have HK : Hid (∀ v W', Below W.heap.size W W' → ((Mk.const [1] (.bool false) : Mk)).P W.heap.size W'.heap.size W' v (upd x 2 v) → K' ⟨#[Value.agg #[Value.slice a1 xs.length c1, Value.slice a2 ys.length c2, Value.slice a3 is.length c3, Value.slice a4 bs.length c4], Value.pointer (some { block := w.heap.size, off := 0 }), Value.bool false, x 0, x 1, v, x 3, x 4, x 5, x 6, x 7, x 8, x 9, x 10, x 11, x 12, x 13, x 14, x 15, x 16, x 17, x 18, x 19, x 20, x 21, x 22, undef], []⟩ W') := fun v W' h1 h2 => hK' _ _ (hK v W' h1 h2)
        have e1 : x 1 = .bool false := hp.post 1 (hd 1 (show 1 ∈ [1] from by decide))
        clear hK hK' hp hd
        simp only [e1] at HK ⊢
        go_simp
        exact HK.out _ _ (Below.refl _ _) rfl
      · refine wpOp_step (o := _) rfl fun K' hK' => ?_
        have HK : Hid (∀ v W', Below W.heap.size W W' → ((Mk.val [2] (fun _ _ _ _ => True) (fun _ _ _ _ _ _ _ => trivial) : Mk)).P W.heap.size W'.heap.size W' v (upd x 3 v) → K' ⟨#[Value.agg #[Value.slice a1 xs.length c1, Value.slice a2 ys.length c2, Value.slice a3 is.length c3, Value.slice a4 bs.length c4], Value.pointer (some { block := w.heap.size, off := 0 }), Value.bool false, x 0, x 1, x 2, v, x 4, x 5, x 6, x 7, x 8, x 9, x 10, x 11, x 12, x 13, x 14, x 15, x 16, x 17, x 18, x 19, x 20, x 21, x 22, undef], []⟩ W') := fun v W' h1 h2 => hK' _ _ (hK v W' h1 h2)
        have e2 : x 2 = .bool false := hp.post 2 (hd 2 (show 2 ∈ [2] from by decide))
        clear hK hK' hp hd
        simp only [e2] at HK ⊢
        go_simp
        exact HK.out _ _ (Below.refl _ _) trivial
      · refine wpOp_step (o := _) rfl fun K' hK' => ?_
        have HK : Hid (∀ v W', Below W.heap.size W W' → ((Mk.val [2] (fun _ _ _ _ => True) (fun _ _ _ _ _ _ _ => trivial) : Mk)).P W.heap.size W'.heap.size W' v (upd x 4 v) → K' ⟨#[Value.agg #[Value.slice a1 xs.length c1, Value.slice a2 ys.length c2, Value.slice a3 is.length c3, Value.slice a4 bs.length c4], Value.pointer (some { block := w.heap.size, off := 0 }), Value.bool false, x 0, x 1, x 2, x 3, v, x 5, x 6, x 7, x 8, x 9, x 10, x 11, x 12, x 13, x 14, x 15, x 16, x 17, x 18, x 19, x 20, x 21, x 22, undef], []⟩ W') := fun v W' h1 h2 => hK' _ _ (hK v W' h1 h2)
        have e2 : x 2 = .bool false := hp.post 2 (hd 2 (show 2 ∈ [2] from by decide))
        clear hK hK' hp hd
        simp only [e2] at HK ⊢
        go_simp
        exact HK.out _ _ (Below.refl _ _) trivial
      · refine wpOp_step (o := _) rfl fun K' hK' => ?_
        have HK : Hid (∀ v W', Below W.heap.size W W' → ((Mk.val [2] (fun _ _ _ _ => True) (fun _ _ _ _ _ _ _ => trivial) : Mk)).P W.heap.size W'.heap.size W' v (upd x 5 v) → K' ⟨#[Value.agg #[Value.slice a1 xs.length c1, Value.slice a2 ys.length c2, Value.slice a3 is.length c3, Value.slice a4 bs.length c4], Value.pointer (some { block := w.heap.size, off := 0 }), Value.bool false, x 0, x 1, x 2, x 3, x 4, v, x 6, x 7, x 8, x 9, x 10, x 11, x 12, x 13, x 14, x 15, x 16, x 17, x 18, x 19, x 20, x 21, x 22, undef], []⟩ W') := fun v W' h1 h2 => hK' _ _ (hK v W' h1 h2)
        have e2 : x 2 = .bool false := hp.post 2 (hd 2 (show 2 ∈ [2] from by decide))
        clear hK hK' hp hd
        simp only [e2] at HK ⊢
        go_simp
        exact HK.out _ _ (Below.refl _ _) trivial
      · refine wpOp_step (o := _) rfl fun K' hK' => ?_
        have HK : Hid (∀ v W', Below W.heap.size W W' → ((Mk.const [2] (.bool false) : Mk)).P W.heap.size W'.heap.size W' v (upd x 6 v) → K' ⟨#[Value.agg #[Value.slice a1 xs.length c1, Value.slice a2 ys.length c2, Value.slice a3 is.length c3, Value.slice a4 bs.length c4], Value.pointer (some { block := w.heap.size, off := 0 }), Value.bool false, x 0, x 1, x 2, x 3, x 4, x 5, v, x 7, x 8, x 9, x 10, x 11, x 12, x 13, x 14, x 15, x 16, x 17, x 18, x 19, x 20, x 21, x 22, undef], []⟩ W') := fun v W' h1 h2 => hK' _ _ (hK v W' h1 h2)
        have e2 : x 2 = .bool false := hp.post 2 (hd 2 (show 2 ∈ [2] from by decide))
        clear hK hK' hp hd
        simp only [e2] at HK ⊢
        go_simp
        exact HK.out _ _ (Below.refl _ _) rfl
      · refine wpOp_step (o := _) rfl fun K' hK' => ?_
        have HK : Hid (∀ v W', Below W.heap.size W W' → ((Mk.const [6] (.bool false) : Mk)).P W.heap.size W'.heap.size W' v (upd x 7 v) → K' ⟨#[Value.agg #[Value.slice a1 xs.length c1, Value.slice a2 ys.length c2, Value.slice a3 is.length c3, Value.slice a4 bs.length c4], Value.pointer (some { block := w.heap.size, off := 0 }), Value.bool false, x 0, x 1, x 2, x 3, x 4, x 5, x 6, v, x 8, x 9, x 10, x 11, x 12, x 13, x 14, x 15, x 16, x 17, x 18, x 19, x 20, x 21, x 22, undef], []⟩ W') := fun v W' h1 h2 => hK' _ _ (hK v W' h1 h2)
        have e6 : x 6 = .bool false := hp.post 6 (hd 6 (show 6 ∈ [6] from by decide))
        clear hK hK' hp hd
        simp only [e6] at HK ⊢
        go_simp
        exact HK.out _ _ (Below.refl _ _) rfl
      · refine wpOp_step (o := _) rfl fun K' hK' => ?_
        have HK : Hid (∀ v W', Below W.heap.size W W' → ((Mk.val [7] (fun _ _ _ _ => True) (fun _ _ _ _ _ _ _ => trivial) : Mk)).P W.heap.size W'.heap.size W' v (upd x 8 v) → K' ⟨#[Value.agg #[Value.slice a1 xs.length c1, Value.slice a2 ys.length c2, Value.slice a3 is.length c3, Value.slice a4 bs.length c4], Value.pointer (some { block := w.heap.size, off := 0 }), Value.bool false, x 0, x 1, x 2, x 3, x 4, x 5, x 6, x 7, v, x 9, x 10, x 11, x 12, x 13, x 14, x 15, x 16, x 17, x 18, x 19, x 20, x 21, x 22, undef], []⟩ W') := fun v W' h1 h2 => hK' _ _ (hK v W' h1 h2)
        have e7 : x 7 = .bool false := hp.post 7 (hd 7 (show 7 ∈ [7] from by decide))
        clear hK hK' hp hd
        simp only [e7] at HK ⊢
        go_simp
        exact HK.out _ _ (Below.refl _ _) trivial
      · refine wpOp_step (o := _) rfl fun K' hK' => ?_
        have HK : Hid (∀ v W', Below W.heap.size W W' → ((Mk.val [7] (fun _ _ _ _ => True) (fun _ _ _ _ _ _ _ => trivial) : Mk)).P W.heap.size W'.heap.size W' v (upd x 9 v) → K' ⟨#[Value.agg #[Value.slice a1 xs.length c1, Value.slice a2 ys.length c2, Value.slice a3 is.length c3, Value.slice a4 bs.length c4], Value.pointer (some { block := w.heap.size, off := 0 }), Value.bool false, x 0, x 1, x 2, x 3, x 4, x 5, x 6, x 7, x 8, v, x 10, x 11, x 12, x 13, x 14, x 15, x 16, x 17, x 18, x 19, x 20, x 21, x 22, undef], []⟩ W') := fun v W' h1 h2 => hK' _ _ (hK v W' h1 h2)
        have e7 : x 7 = .bool false := hp.post 7 (hd 7 (show 7 ∈ [7] from by decide))
        clear hK hK' hp hd
        simp only [e7] at HK ⊢
        go_simp
        exact HK.out _ _ (Below.refl _ _) trivial
      · refine wpOp_step (o := _) rfl fun K' hK' => ?_
        have HK : Hid (∀ v W', Below W.heap.size W W' → ((Mk.val [7] (fun _ _ _ _ => True) (fun _ _ _ _ _ _ _ => trivial) : Mk)).P W.heap.size W'.heap.size W' v (upd x 10 v) → K' ⟨#[Value.agg #[Value.slice a1 xs.length c1, Value.slice a2 ys.length c2, Value.slice a3 is.length c3, Value.slice a4 bs.length c4], Value.pointer (some { block := w.heap.size, off := 0 }), Value.bool false, x 0, x 1, x 2, x 3, x 4, x 5, x 6, x 7, x 8, x 9, v, x 11, x 12, x 13, x 14, x 15, x 16, x 17, x 18, x 19, x 20, x 21, x 22, undef], []⟩ W') := fun v W' h1 h2 => hK' _ _ (hK v W' h1 h2)
        have e7 : x 7 = .bool false := hp.post 7 (hd 7 (show 7 ∈ [7] from by decide))
        clear hK hK' hp hd
        simp only [e7] at HK ⊢
        go_simp
        exact HK.out _ _ (Below.refl _ _) trivial
      · refine wpOp_step (o := _) rfl fun K' hK' => ?_
        have HK : Hid (∀ v W', Below W.heap.size W W' → ((Mk.val [7] (fun _ _ _ _ => True) (fun _ _ _ _ _ _ _ => trivial) : Mk)).P W.heap.size W'.heap.size W' v (upd x 11 v) → K' ⟨#[Value.agg #[Value.slice a1 xs.length c1, Value.slice a2 ys.length c2, Value.slice a3 is.length c3, Value.slice a4 bs.length c4], Value.pointer (some { block := w.heap.size, off := 0 }), Value.bool false, x 0, x 1, x 2, x 3, x 4, x 5, x 6, x 7, x 8, x 9, x 10, v, x 12, x 13, x 14, x 15, x 16, x 17, x 18, x 19, x 20, x 21, x 22, undef], []⟩ W') := fun v W' h1 h2 => hK' _ _ (hK v W' h1 h2)
        have e7 : x 7 = .bool false := hp.post 7 (hd 7 (show 7 ∈ [7] from by decide))
        clear hK hK' hp hd
        simp only [e7] at HK ⊢
        go_simp
        exact HK.out _ _ (Below.refl _ _) trivial
      · refine wpOp_step (o := _) rfl fun K' hK' => ?_
        have HK : Hid (∀ v W', Below W.heap.size W W' → ((Mk.val [7] (fun _ _ _ _ => True) (fun _ _ _ _ _ _ _ => trivial) : Mk)).P W.heap.size W'.heap.size W' v (upd x 12 v) → K' ⟨#[Value.agg #[Value.slice a1 xs.length c1, Value.slice a2 ys.length c2, Value.slice a3 is.length c3, Value.slice a4 bs.length c4], Value.pointer (some { block := w.heap.size, off := 0 }), Value.bool false, x 0, x 1, x 2, x 3, x 4, x 5, x 6, x 7, x 8, x 9, x 10, x 11, v, x 13, x 14, x 15, x 16, x 17, x 18, x 19, x 20, x 21, x 22, undef], []⟩ W') := fun v W' h1 h2 => hK' _ _ (hK v W' h1 h2)
        have e7 : x 7 = .bool false := hp.post 7 (hd 7 (show 7 ∈ [7] from by decide))
        clear hK hK' hp hd
        simp only [e7] at HK ⊢
        go_simp
        exact HK.out _ _ (Below.refl _ _) trivial
      · refine wpOp_step (o := _) rfl fun K' hK' => ?_
        have HK : Hid (∀ v W', Below W.heap.size W W' → ((Mk.val [7] (fun _ _ _ _ => True) (fun _ _ _ _ _ _ _ => trivial) : Mk)).P W.heap.size W'.heap.size W' v (upd x 13 v) → K' ⟨#[Value.agg #[Value.slice a1 xs.length c1, Value.slice a2 ys.length c2, Value.slice a3 is.length c3, Value.slice a4 bs.length c4], Value.pointer (some { block := w.heap.size, off := 0 }), Value.bool false, x 0, x 1, x 2, x 3, x 4, x 5, x 6, x 7, x 8, x 9, x 10, x 11, x 12, v, x 14, x 15, x 16, x 17, x 18, x 19, x 20, x 21, x 22, undef], []⟩ W') := fun v W' h1 h2 => hK' _ _ (hK v W' h1 h2)
        have e7 : x 7 = .bool false := hp.post 7 (hd 7 (show 7 ∈ [7] from by decide))
        clear hK hK' hp hd
        simp only [e7] at HK ⊢
        go_simp
        exact HK.out _ _ (Below.refl _ _) trivial
      · refine wpOp_step (o := _) rfl fun K' hK' => ?_
        have HK : Hid (∀ v W', Below W.heap.size W W' → ((Mk.val [7] (fun _ _ _ _ => True) (fun _ _ _ _ _ _ _ => trivial) : Mk)).P W.heap.size W'.heap.size W' v (upd x 14 v) → K' ⟨#[Value.agg #[Value.slice a1 xs.length c1, Value.slice a2 ys.length c2, Value.slice a3 is.length c3, Value.slice a4 bs.length c4], Value.pointer (some { block := w.heap.size, off := 0 }), Value.bool false, x 0, x 1, x 2, x 3, x 4, x 5, x 6, x 7, x 8, x 9, x 10, x 11, x 12, x 13, v, x 15, x 16, x 17, x 18, x 19, x 20, x 21, x 22, undef], []⟩ W') := fun v W' h1 h2 => hK' _ _ (hK v W' h1 h2)
        have e7 : x 7 = .bool false := hp.post 7 (hd 7 (show 7 ∈ [7] from by decide))
        clear hK hK' hp hd
        simp only [e7] at HK ⊢
        go_simp
        exact HK.out _ _ (Below.refl _ _) trivial
      · refine wpOp_step (o := _) rfl fun K' hK' => ?_
        have HK : Hid (∀ v W', Below W.heap.size W W' → ((Mk.val [7] (fun _ _ _ _ => True) (fun _ _ _ _ _ _ _ => trivial) : Mk)).P W.heap.size W'.heap.size W' v (upd x 15 v) → K' ⟨#[Value.agg #[Value.slice a1 xs.length c1, Value.slice a2 ys.length c2, Value.slice a3 is.length c3, Value.slice a4 bs.length c4], Value.pointer (some { block := w.heap.size, off := 0 }), Value.bool false, x 0, x 1, x 2, x 3, x 4, x 5, x 6, x 7, x 8, x 9, x 10, x 11, x 12, x 13, x 14, v, x 16, x 17, x 18, x 19, x 20, x 21, x 22, undef], []⟩ W') := fun v W' h1 h2 => hK' _ _ (hK v W' h1 h2)
        have e7 : x 7 = .bool false := hp.post 7 (hd 7 (show 7 ∈ [7] from by decide))
        clear hK hK' hp hd
        simp only [e7] at HK ⊢
        go_simp
        exact HK.out _ _ (Below.refl _ _) trivial
      · refine wpOp_step (o := _) rfl fun K' hK' => ?_
        have HK : Hid (∀ v W', Below W.heap.size W W' → ((Mk.val [7] (fun _ _ _ _ => True) (fun _ _ _ _ _ _ _ => trivial) : Mk)).P W.heap.size W'.heap.size W' v (upd x 16 v) → K' ⟨#[Value.agg #[Value.slice a1 xs.length c1, Value.slice a2 ys.length c2, Value.slice a3 is.length c3, Value.slice a4 bs.length c4], Value.pointer (some { block := w.heap.size, off := 0 }), Value.bool false, x 0, x 1, x 2, x 3, x 4, x 5, x 6, x 7, x 8, x 9, x 10, x 11, x 12, x 13, x 14, x 15, v, x 17, x 18, x 19, x 20, x 21, x 22, undef], []⟩ W') := fun v W' h1 h2 => hK' _ _ (hK v W' h1 h2)
        have e7 : x 7 = .bool false := hp.post 7 (hd 7 (show 7 ∈ [7] from by decide))
        clear hK hK' hp hd
        simp only [e7] at HK ⊢
        go_simp
        exact HK.out _ _ (Below.refl _ _) trivial
      · refine wpOp_step (o := _) rfl fun K' hK' => ?_
        have HK : Hid (∀ v W', Below W.heap.size W W' → ((Mk.val [7] (fun _ _ _ _ => True) (fun _ _ _ _ _ _ _ => trivial) : Mk)).P W.heap.size W'.heap.size W' v (upd x 17 v) → K' ⟨#[Value.agg #[Value.slice a1 xs.length c1, Value.slice a2 ys.length c2, Value.slice a3 is.length c3, Value.slice a4 bs.length c4], Value.pointer (some { block := w.heap.size, off := 0 }), Value.bool false, x 0, x 1, x 2, x 3, x 4, x 5, x 6, x 7, x 8, x 9, x 10, x 11, x 12, x 13, x 14, x 15, x 16, v, x 18, x 19, x 20, x 21, x 22, undef], []⟩ W') := fun v W' h1 h2 => hK' _ _ (hK v W' h1 h2)
        have e7 : x 7 = .bool false := hp.post 7 (hd 7 (show 7 ∈ [7] from by decide))
        clear hK hK' hp hd
        simp only [e7] at HK ⊢
        go_simp
        exact HK.out _ _ (Below.refl _ _) trivial
      · refine wpOp_step (o := _) rfl fun K' hK' => ?_
        have HK : Hid (∀ v W', Below W.heap.size W W' → ((Mk.val [7] (fun _ _ _ _ => True) (fun _ _ _ _ _ _ _ => trivial) : Mk)).P W.heap.size W'.heap.size W' v (upd x 18 v) → K' ⟨#[Value.agg #[Value.slice a1 xs.length c1, Value.slice a2 ys.length c2, Value.slice a3 is.length c3, Value.slice a4 bs.length c4], Value.pointer (some { block := w.heap.size, off := 0 }), Value.bool false, x 0, x 1, x 2, x 3, x 4, x 5, x 6, x 7, x 8, x 9, x 10, x 11, x 12, x 13, x 14, x 15, x 16, x 17, v, x 19, x 20, x 21, x 22, undef], []⟩ W') := fun v W' h1 h2 => hK' _ _ (hK v W' h1 h2)
        have e7 : x 7 = .bool false := hp.post 7 (hd 7 (show 7 ∈ [7] from by decide))
        clear hK hK' hp hd
        simp only [e7] at HK ⊢
        go_simp
        exact HK.out _ _ (Below.refl _ _) trivial
      · refine wpOp_step (o := _) rfl fun K' hK' => ?_
        have HK : Hid (∀ v W', Below W.heap.size W W' → ((Mk.val [7] (fun _ _ _ _ => True) (fun _ _ _ _ _ _ _ => trivial) : Mk)).P W.heap.size W'.heap.size W' v (upd x 19 v) → K' ⟨#[Value.agg #[Value.slice a1 xs.length c1, Value.slice a2 ys.length c2, Value.slice a3 is.length c3, Value.slice a4 bs.length c4], Value.pointer (some { block := w.heap.size, off := 0 }), Value.bool false, x 0, x 1, x 2, x 3, x 4, x 5, x 6, x 7, x 8, x 9, x 10, x 11, x 12, x 13, x 14, x 15, x 16, x 17, x 18, v, x 20, x 21, x 22, undef], []⟩ W') := fun v W' h1 h2 => hK' _ _ (hK v W' h1 h2)
        have e7 : x 7 = .bool false := hp.post 7 (hd 7 (show 7 ∈ [7] from by decide))
        clear hK hK' hp hd
        simp only [e7] at HK ⊢
        go_simp
        exact HK.out _ _ (Below.refl _ _) trivial
      · refine wpOp_step (o := _) rfl fun K' hK' => ?_
        have HK : Hid (∀ v W', Below W.heap.size W W' → ((Mk.val [7] (fun _ _ _ _ => True) (fun _ _ _ _ _ _ _ => trivial) : Mk)).P W.heap.size W'.heap.size W' v (upd x 20 v) → K' ⟨#[Value.agg #[Value.slice a1 xs.length c1, Value.slice a2 ys.length c2, Value.slice a3 is.length c3, Value.slice a4 bs.length c4], Value.pointer (some { block := w.heap.size, off := 0 }), Value.bool false, x 0, x 1, x 2, x 3, x 4, x 5, x 6, x 7, x 8, x 9, x 10, x 11, x 12, x 13, x 14, x 15, x 16, x 17, x 18, x 19, v, x 21, x 22, undef], []⟩ W') := fun v W' h1 h2 => hK' _ _ (hK v W' h1 h2)
        have e7 : x 7 = .bool false := hp.post 7 (hd 7 (show 7 ∈ [7] from by decide))
        clear hK hK' hp hd
        simp only [e7] at HK ⊢
        go_simp
        exact HK.out _ _ (Below.refl _ _) trivial
      · refine wpOp_step (o := _) rfl fun K' hK' => ?_
        have HK : Hid (∀ v W', Below W.heap.size W W' → ((Mk.val [7] (fun _ _ _ _ => True) (fun _ _ _ _ _ _ _ => trivial) : Mk)).P W.heap.size W'.heap.size W' v (upd x 21 v) → K' ⟨#[Value.agg #[Value.slice a1 xs.length c1, Value.slice a2 ys.length c2, Value.slice a3 is.length c3, Value.slice a4 bs.length c4], Value.pointer (some { block := w.heap.size, off := 0 }), Value.bool false, x 0, x 1, x 2, x 3, x 4, x 5, x 6, x 7, x 8, x 9, x 10, x 11, x 12, x 13, x 14, x 15, x 16, x 17, x 18, x 19, x 20, v, x 22, undef], []⟩ W') := fun v W' h1 h2 => hK' _ _ (hK v W' h1 h2)
        have e7 : x 7 = .bool false := hp.post 7 (hd 7 (show 7 ∈ [7] from by decide))
        clear hK hK' hp hd
        simp only [e7] at HK ⊢
        go_simp
        exact HK.out _ _ (Below.refl _ _) trivial
      · refine wpOp_step (o := _) rfl fun K' hK' => ?_
        have HK : Hid (∀ v W', Below W.heap.size W W' → ((Mk.val [7] (fun _ _ _ _ => True) (fun _ _ _ _ _ _ _ => trivial) : Mk)).P W.heap.size W'.heap.size W' v (upd x 22 v) → K' ⟨#[Value.agg #[Value.slice a1 xs.length c1, Value.slice a2 ys.length c2, Value.slice a3 is.length c3, Value.slice a4 bs.length c4], Value.pointer (some { block := w.heap.size, off := 0 }), Value.bool false, x 0, x 1, x 2, x 3, x 4, x 5, x 6, x 7, x 8, x 9, x 10, x 11, x 12, x 13, x 14, x 15, x 16, x 17, x 18, x 19, x 20, x 21, v, undef], []⟩ W') := fun v W' h1 h2 => hK' _ _ (hK v W' h1 h2)
        have e7 : x 7 = .bool false := hp.post 7 (hd 7 (show 7 ∈ [7] from by decide))
        clear hK hK' hp hd
        simp only [e7] at HK ⊢
        go_simp
        exact HK.out _ _ (Below.refl _ _) trivial
    · intro x iw W hp
      have e7 : x 7 = .bool false := hp.post 7 (by decide)
      have HB := hide (HW.out W hp.bel).2
      simp only [e7]
      clear hp e7
      go_wp2_with fail
      try rw [List.filterMap_nil]
      try go_wp2
      go_ret
      exact ⟨by rw [HS.out]; rfl, HB.out⟩
  | true =>
  rw [hok] at CO1
  have hX := RX.of_ok hok
  have HS : Hid (safeB xs ys is bs = decide (kindAt is 1 = 2 ∧ dangN is bs = 0 ∧ sharedN is = 0 ∧ unmP xs is bs + unmI ys is bs = 0 ∧ shortN is bs = 0 ∧ wrongN is bs = 0)) := by show _ = _; unfold safeB; rw [hok]; rfl
  have CK := hide (fun (W : World) (hb : Below w.heap.size w W) => kindI_any 1 (.slice a1 xs.length c1) (.slice a2 ys.length c2) (.slice a3 is.length c3) (.slice a4 bs.length c4) xs ys is bs W (h.below hb (Nat.le_refl _)) hX.r)
  have C1 := hide (fun (W : World) (hb : Below w.heap.size w W) => implDang_any (.slice a1 xs.length c1) (.slice a2 ys.length c2) (.slice a3 is.length c3) (.slice a4 bs.length c4) xs ys is bs W (h.below hb (Nat.le_refl _)) hX)
  have C2 := hide (fun (W : World) (hb : Below w.heap.size w W) => implShr_any (.slice a1 xs.length c1) (.slice a2 ys.length c2) (.slice a3 is.length c3) (.slice a4 bs.length c4) xs ys is bs W (h.below hb (Nat.le_refl _)) hX)
  have C3 := hide (fun (W : World) (hb : Below w.heap.size w W) => implUnm_any (.slice a1 xs.length c1) (.slice a2 ys.length c2) (.slice a3 is.length c3) (.slice a4 bs.length c4) xs ys is bs W (h.below hb (Nat.le_refl _)) hX)
  have C4 := hide (fun (W : World) (hb : Below w.heap.size w W) => implShort_any (.slice a1 xs.length c1) (.slice a2 ys.length c2) (.slice a3 is.length c3) (.slice a4 bs.length c4) xs ys is bs W (h.below hb (Nat.le_refl _)) hX)
  have C5 := hide (fun (W : World) (hb : Below w.heap.size w W) => implWrong_any (.slice a1 xs.length c1) (.slice a2 ys.length c2) (.slice a3 is.length c3) (.slice a4 bs.length c4) xs ys is bs W (h.below hb (Nat.le_refl _)) hX)
  have hun : ((unmP xs is bs : Int) + (unmI ys is bs : Int)) = ((unmP xs is bs + unmI ys is bs : Nat) : Int) := by omega
  simp only [hun] at C3
  have l1 := dangN_le hX.r
  have l2 := sharedN_le hX.r
  have l3 : unmP xs is bs + unmI ys is bs ≤ 24 := by have := unm_le hX.r xs ys; omega
  have l4 := shortN_le is bs
  have l5 := wrongN_le hX.r
  obtain ⟨kd, hkd⟩ : ∃ n, kindAt is 1 = n := ⟨_, rfl⟩
  obtain ⟨n1, hn1⟩ : ∃ n, dangN is bs = n := ⟨_, rfl⟩
  obtain ⟨n2, hn2⟩ : ∃ n, sharedN is = n := ⟨_, rfl⟩
  obtain ⟨n3, hn3⟩ : ∃ n, unmP xs is bs + unmI ys is bs = n := ⟨_, rfl⟩
  obtain ⟨n4, hn4⟩ : ∃ n, shortN is bs = n := ⟨_, rfl⟩
  obtain ⟨n5, hn5⟩ : ∃ n, wrongN is bs = n := ⟨_, rfl⟩
  simp only [hkd, hn1, hn2, hn3, hn4, hn5] at HS l1 l2 l3 l4 l5
  simp only [hkd] at CK
  simp only [hn1] at C1
  simp only [hn2] at C2
  simp only [hn3] at C3
  simp only [hn4] at C4
  simp only [hn5] at C5
  clear h hG hX hun hkd hn1 hn2 hn3 hn4 hn5
  by_cases hk : kd = 2
  rotate_left
  · have hkb : (kd == 2) = false := by simp [hk]
    have HF : Hid (safeB xs ys is bs = false) := hide (by rw [HS.out]; simp [hk])
    simp only [hok] at CO
    clear hk hok CO1 z0 z1 z2 z3 C1 C2 C3 C4 C5
    go_enter Tryz.func8, Tryz.ntmps8
    go_upto_region 1 with fail
    clear hW0
    refine wp_region_alt (by kernel_rfl) [0, 1, 2, 3, 4, 5, 6, 7, 8, 9, 10, 11, 12, 13, 14, 15, 16, 17, 18, 19, 20, 21, 22] [23, 24] [] (fun i => match i with | 0 => .const [] (.agg #[.slice a1 xs.length c1, .slice a2 ys.length c2, .slice a3 is.length c3, .slice a4 bs.length c4]) | 1 => .const [0] (.bool true) | 2 => .const [1] (.bool true) | 3 => .const [2] (.agg #[.slice a1 xs.length c1, .slice a2 ys.length c2, .slice a3 is.length c3, .slice a4 bs.length c4]) | 4 => .const [3, 2] (.int .i64 (kd)) | 5 => .const [4, 2] (.bool false) | 6 => .const [2, 5] (.bool false) | 7 => .const [6] (.bool false) | 8 => .val [7] (fun _ _ _ _ => True) (fun _ _ _ _ _ _ _ => trivial) | 9 => .val [7] (fun _ _ _ _ => True) (fun _ _ _ _ _ _ _ => trivial) | 10 => .val [7] (fun _ _ _ _ => True) (fun _ _ _ _ _ _ _ => trivial) | 11 => .val [7] (fun _ _ _ _ => True) (fun _ _ _ _ _ _ _ => trivial) | 12 => .val [7] (fun _ _ _ _ => True) (fun _ _ _ _ _ _ _ => trivial) | 13 => .val [7] (fun _ _ _ _ => True) (fun _ _ _ _ _ _ _ => trivial) | 14 => .val [7] (fun _ _ _ _ => True) (fun _ _ _ _ _ _ _ => trivial) | 15 => .val [7] (fun _ _ _ _ => True) (fun _ _ _ _ _ _ _ => trivial) | 16 => .val [7] (fun _ _ _ _ => True) (fun _ _ _ _ _ _ _ => trivial) | 17 => .val [7] (fun _ _ _ _ => True) (fun _ _ _ _ _ _ _ => trivial) | 18 => .val [7] (fun _ _ _ _ => True) (fun _ _ _ _ _ _ _ => trivial) | 19 => .val [7] (fun _ _ _ _ => True) (fun _ _ _ _ _ _ _ => trivial) | 20 => .val [7] (fun _ _ _ _ => True) (fun _ _ _ _ _ _ _ => trivial) | 21 => .val [7] (fun _ _ _ _ => True) (fun _ _ _ _ _ _ _ => trivial) | 22 => .val [7] (fun _ _ _ _ => True) (fun _ _ _ _ _ _ _ => trivial) | _ => .triv) (fun x => ⟨#[Value.agg #[Value.slice a1 xs.length c1, Value.slice a2 ys.length c2, Value.slice a3 is.length c3, Value.slice a4 bs.length c4], Value.pointer (some { block := w.heap.size, off := 0 }), Value.bool false, x 0, x 1, x 2, x 3, x 4, x 5, x 6, x 7, x 8, x 9, x 10, x 11, x 12, x 13, x 14, x 15, x 16, x 17, x 18, x 19, x 20, x 21, x 22, undef], []⟩) (fun i => match i with | 0 => undef | 1 => undef | 2 => undef | 3 => undef | 4 => undef | 5 => undef | 6 => undef | 7 => undef | 8 => undef | 9 => undef | 10 => undef | 11 => undef | 12 => undef | 13 => undef | 14 => undef | 15 => undef | 16 => undef | 17 => undef | 18 => undef | 19 => undef | 20 => undef | 21 => undef | 22 => undef | _ => undef) rfl (makersOk2_of (by kernel_rfl) (by kernel_rfl)) (by kernel_rfl) (by kernel_rfl) (by kernel_rfl) rfl ?_ ?_ (by intro q hq; cases hq)
    · intro jo hj so x iw W hd hp K hK
      simp only [List.mem_cons, List.not_mem_nil, or_false] at hj
      rcases hj with rfl | rfl | rfl | rfl | rfl | rfl | rfl | rfl | rfl | rfl | rfl | rfl | rfl | rfl | rfl | rfl | rfl | rfl | rfl | rfl | rfl | rfl | rfl
      · refine wpOp_step (o := _) rfl fun K' hK' => ?_
        have HK : Hid (∀ v W', Below W.heap.size W W' → ((Mk.const [] (.agg #[.slice a1 xs.length c1, .slice a2 ys.length c2, .slice a3 is.length c3, .slice a4 bs.length c4]) : Mk)).P W.heap.size W'.heap.size W' v (upd x 0 v) → K' ⟨#[Value.agg #[Value.slice a1 xs.length c1, Value.slice a2 ys.length c2, Value.slice a3 is.length c3, Value.slice a4 bs.length c4], Value.pointer (some { block := w.heap.size, off := 0 }), Value.bool false, v, x 1, x 2, x 3, x 4, x 5, x 6, x 7, x 8, x 9, x 10, x 11, x 12, x 13, x 14, x 15, x 16, x 17, x 18, x 19, x 20, x 21, x 22, undef], []⟩ W') := fun v W' h1 h2 => hK' _ _ (hK v W' h1 h2)
        have bw := HW.out W hp.bel
        have k0 : W.cell? ⟨w.heap.size, 0, none⟩ = some (.slice a1 xs.length c1) := bw.1.cell 0
        have k1 : W.cell? ⟨w.heap.size, 1, none⟩ = some (.slice a2 ys.length c2) := bw.1.cell 1
        have k2 : W.cell? ⟨w.heap.size, 2, none⟩ = some (.slice a3 is.length c3) := bw.1.cell 2
        have k3 : W.cell? ⟨w.heap.size, 3, none⟩ = some (.slice a4 bs.length c4) := bw.1.cell 3
        clear bw
        clear hK hK' hp hd
        go_simp
        exact HK.out _ _ (Below.refl _ _) rfl
      · refine wpOp_step (o := _) rfl fun K' hK' => ?_
        have HK : Hid (∀ v W', Below W.heap.size W W' → ((Mk.const [0] (.bool true) : Mk)).P W.heap.size W'.heap.size W' v (upd x 1 v) → K' ⟨#[Value.agg #[Value.slice a1 xs.length c1, Value.slice a2 ys.length c2, Value.slice a3 is.length c3, Value.slice a4 bs.length c4], Value.pointer (some { block := w.heap.size, off := 0 }), Value.bool false, x 0, v, x 2, x 3, x 4, x 5, x 6, x 7, x 8, x 9, x 10, x 11, x 12, x 13, x 14, x 15, x 16, x 17, x 18, x 19, x 20, x 21, x 22, undef], []⟩ W') := fun v W' h1 h2 => hK' _ _ (hK v W' h1 h2)
        have e0 : x 0 = .agg #[.slice a1 xs.length c1, .slice a2 ys.length c2, .slice a3 is.length c3, .slice a4 bs.length c4] := hp.post 0 (hd 0 (show 0 ∈ [0] from by decide))
        have dr := (HW.out W hp.bel).2
        clear hK hK' hp hd
        simp only [e0] at HK ⊢
        clear e0
        go_simp
        refine (CO.out W dr).mono ?_
        rintro e w6 ⟨rfl, B6⟩
        go_simp
        exact HK.out _ _ B6 rfl
      · refine wpOp_step (o := _) rfl fun K' hK' => ?_
        have HK : Hid (∀ v W', Below W.heap.size W W' → ((Mk.const [1] (.bool true) : Mk)).P W.heap.size W'.heap.size W' v (upd x 2 v) → K' ⟨#[Value.agg #[Value.slice a1 xs.length c1, Value.slice a2 ys.length c2, Value.slice a3 is.length c3, Value.slice a4 bs.length c4], Value.pointer (some { block := w.heap.size, off := 0 }), Value.bool false, x 0, x 1, v, x 3, x 4, x 5, x 6, x 7, x 8, x 9, x 10, x 11, x 12, x 13, x 14, x 15, x 16, x 17, x 18, x 19, x 20, x 21, x 22, undef], []⟩ W') := fun v W' h1 h2 => hK' _ _ (hK v W' h1 h2)
        have e1 : x 1 = .bool true := hp.post 1 (hd 1 (show 1 ∈ [1] from by decide))
        clear hK hK' hp hd
        simp only [e1] at HK ⊢
        go_simp
        exact HK.out _ _ (Below.refl _ _) rfl
      · refine wpOp_step (o := _) rfl fun K' hK' => ?_
        have HK : Hid (∀ v W', Below W.heap.size W W' → ((Mk.const [2] (.agg #[.slice a1 xs.length c1, .slice a2 ys.length c2, .slice a3 is.length c3, .slice a4 bs.length c4]) : Mk)).P W.heap.size W'.heap.size W' v (upd x 3 v) → K' ⟨#[Value.agg #[Value.slice a1 xs.length c1, Value.slice a2 ys.length c2, Value.slice a3 is.length c3, Value.slice a4 bs.length c4], Value.pointer (some { block := w.heap.size, off := 0 }), Value.bool false, x 0, x 1, x 2, v, x 4, x 5, x 6, x 7, x 8, x 9, x 10, x 11, x 12, x 13, x 14, x 15, x 16, x 17, x 18, x 19, x 20, x 21, x 22, undef], []⟩ W') := fun v W' h1 h2 => hK' _ _ (hK v W' h1 h2)
        have e2 : x 2 = .bool true := hp.post 2 (hd 2 (show 2 ∈ [2] from by decide))
        have bw := HW.out W hp.bel
        have k0 : W.cell? ⟨w.heap.size, 0, none⟩ = some (.slice a1 xs.length c1) := bw.1.cell 0
        have k1 : W.cell? ⟨w.heap.size, 1, none⟩ = some (.slice a2 ys.length c2) := bw.1.cell 1
        have k2 : W.cell? ⟨w.heap.size, 2, none⟩ = some (.slice a3 is.length c3) := bw.1.cell 2
        have k3 : W.cell? ⟨w.heap.size, 3, none⟩ = some (.slice a4 bs.length c4) := bw.1.cell 3
        clear bw
        clear hK hK' hp hd
        simp only [e2] at HK ⊢
        go_simp
        exact HK.out _ _ (Below.refl _ _) rfl
      · refine wpOp_step (o := _) rfl fun K' hK' => ?_
        have HK : Hid (∀ v W', Below W.heap.size W W' → ((Mk.const [3, 2] (.int .i64 (kd)) : Mk)).P W.heap.size W'.heap.size W' v (upd x 4 v) → K' ⟨#[Value.agg #[Value.slice a1 xs.length c1, Value.slice a2 ys.length c2, Value.slice a3 is.length c3, Value.slice a4 bs.length c4], Value.pointer (some { block := w.heap.size, off := 0 }), Value.bool false, x 0, x 1, x 2, x 3, v, x 5, x 6, x 7, x 8, x 9, x 10, x 11, x 12, x 13, x 14, x 15, x 16, x 17, x 18, x 19, x 20, x 21, x 22, undef], []⟩ W') := fun v W' h1 h2 => hK' _ _ (hK v W' h1 h2)
        have e3 : x 3 = .agg #[.slice a1 xs.length c1, .slice a2 ys.length c2, .slice a3 is.length c3, .slice a4 bs.length c4] := hp.post 3 (hd 3 (show 3 ∈ [3, 2] from by decide))
        have e2 : x 2 = .bool true := hp.post 2 (hd 2 (show 2 ∈ [3, 2] from by decide))
        have dr := (HW.out W hp.bel).2
        clear hK hK' hp hd
        simp only [e3, e2] at HK ⊢
        clear e3 e2
        go_simp
        refine (CK.out W dr).mono ?_
        rintro e w6 ⟨rfl, B6⟩
        go_simp
        exact HK.out _ _ B6 rfl
      · refine wpOp_step (o := _) rfl fun K' hK' => ?_
        have HK : Hid (∀ v W', Below W.heap.size W W' → ((Mk.const [4, 2] (.bool false) : Mk)).P W.heap.size W'.heap.size W' v (upd x 5 v) → K' ⟨#[Value.agg #[Value.slice a1 xs.length c1, Value.slice a2 ys.length c2, Value.slice a3 is.length c3, Value.slice a4 bs.length c4], Value.pointer (some { block := w.heap.size, off := 0 }), Value.bool false, x 0, x 1, x 2, x 3, x 4, v, x 6, x 7, x 8, x 9, x 10, x 11, x 12, x 13, x 14, x 15, x 16, x 17, x 18, x 19, x 20, x 21, x 22, undef], []⟩ W') := fun v W' h1 h2 => hK' _ _ (hK v W' h1 h2)
        have e4 : x 4 = .int .i64 (kd) := hp.post 4 (hd 4 (show 4 ∈ [4, 2] from by decide))
        have e2 : x 2 = .bool true := hp.post 2 (hd 2 (show 2 ∈ [4, 2] from by decide))
        clear hK hK' hp hd
        simp only [e4, e2] at HK ⊢
        go_simp
        exact HK.out _ _ (Below.refl _ _) rfl
      · refine wpOp_step (o := _) rfl fun K' hK' => ?_
        have HK : Hid (∀ v W', Below W.heap.size W W' → ((Mk.const [2, 5] (.bool false) : Mk)).P W.heap.size W'.heap.size W' v (upd x 6 v) → K' ⟨#[Value.agg #[Value.slice a1 xs.length c1, Value.slice a2 ys.length c2, Value.slice a3 is.length c3, Value.slice a4 bs.length c4], Value.pointer (some { block := w.heap.size, off := 0 }), Value.bool false, x 0, x 1, x 2, x 3, x 4, x 5, v, x 7, x 8, x 9, x 10, x 11, x 12, x 13, x 14, x 15, x 16, x 17, x 18, x 19, x 20, x 21, x 22, undef], []⟩ W') := fun v W' h1 h2 => hK' _ _ (hK v W' h1 h2)
        have e2 : x 2 = .bool true := hp.post 2 (hd 2 (show 2 ∈ [2, 5] from by decide))
        have e5 : x 5 = .bool false := hp.post 5 (hd 5 (show 5 ∈ [2, 5] from by decide))
        clear hK hK' hp hd
        simp only [e2, e5] at HK ⊢
        go_simp
        exact HK.out _ _ (Below.refl _ _) rfl
      · refine wpOp_step (o := _) rfl fun K' hK' => ?_
        have HK : Hid (∀ v W', Below W.heap.size W W' → ((Mk.const [6] (.bool false) : Mk)).P W.heap.size W'.heap.size W' v (upd x 7 v) → K' ⟨#[Value.agg #[Value.slice a1 xs.length c1, Value.slice a2 ys.length c2, Value.slice a3 is.length c3, Value.slice a4 bs.length c4], Value.pointer (some { block := w.heap.size, off := 0 }), Value.bool false, x 0, x 1, x 2, x 3, x 4, x 5, x 6, v, x 8, x 9, x 10, x 11, x 12, x 13, x 14, x 15, x 16, x 17, x 18, x 19, x 20, x 21, x 22, undef], []⟩ W') := fun v W' h1 h2 => hK' _ _ (hK v W' h1 h2)
        have e6 : x 6 = .bool false := hp.post 6 (hd 6 (show 6 ∈ [6] from by decide))
        clear hK hK' hp hd
        simp only [e6] at HK ⊢
        go_simp
        exact HK.out _ _ (Below.refl _ _) rfl
      · refine wpOp_step (o := _) rfl fun K' hK' => ?_
        have HK : Hid (∀ v W', Below W.heap.size W W' → ((Mk.val [7] (fun _ _ _ _ => True) (fun _ _ _ _ _ _ _ => trivial) : Mk)).P W.heap.size W'.heap.size W' v (upd x 8 v) → K' ⟨#[Value.agg #[Value.slice a1 xs.length c1, Value.slice a2 ys.length c2, Value.slice a3 is.length c3, Value.slice a4 bs.length c4], Value.pointer (some { block := w.heap.size, off := 0 }), Value.bool false, x 0, x 1, x 2, x 3, x 4, x 5, x 6, x 7, v, x 9, x 10, x 11, x 12, x 13, x 14, x 15, x 16, x 17, x 18, x 19, x 20, x 21, x 22, undef], []⟩ W') := fun v W' h1 h2 => hK' _ _ (hK v W' h1 h2)
        have e7 : x 7 = .bool false := hp.post 7 (hd 7 (show 7 ∈ [7] from by decide))
        clear hK hK' hp hd
        simp only [e7] at HK ⊢
        go_simp
        exact HK.out _ _ (Below.refl _ _) trivial
      · refine wpOp_step (o := _) rfl fun K' hK' => ?_
        have HK : Hid (∀ v W', Below W.heap.size W W' → ((Mk.val [7] (fun _ _ _ _ => True) (fun _ _ _ _ _ _ _ => trivial) : Mk)).P W.heap.size W'.heap.size W' v (upd x 9 v) → K' ⟨#[Value.agg #[Value.slice a1 xs.length c1, Value.slice a2 ys.length c2, Value.slice a3 is.length c3, Value.slice a4 bs.length c4], Value.pointer (some { block := w.heap.size, off := 0 }), Value.bool false, x 0, x 1, x 2, x 3, x 4, x 5, x 6, x 7, x 8, v, x 10, x 11, x 12, x 13, x 14, x 15, x 16, x 17, x 18, x 19, x 20, x 21, x 22, undef], []⟩ W') := fun v W' h1 h2 => hK' _ _ (hK v W' h1 h2)
        have e7 : x 7 = .bool false := hp.post 7 (hd 7 (show 7 ∈ [7] from by decide))
        clear hK hK' hp hd
        simp only [e7] at HK ⊢
        go_simp
        exact HK.out _ _ (Below.refl _ _) trivial
      · refine wpOp_step (o := _) rfl fun K' hK' => ?_
        have HK : Hid (∀ v W', Below W.heap.size W W' → ((Mk.val [7] (fun _ _ _ _ => True) (fun _ _ _ _ _ _ _ => trivial) : Mk)).P W.heap.size W'.heap.size W' v (upd x 10 v) → K' ⟨#[Value.agg #[Value.slice a1 xs.length c1, Value.slice a2 ys.length c2, Value.slice a3 is.length c3, Value.slice a4 bs.length c4], Value.pointer (some { block := w.heap.size, off := 0 }), Value.bool false, x 0, x 1, x 2, x 3, x 4, x 5, x 6, x 7, x 8, x 9, v, x 11, x 12, x 13, x 14, x 15, x 16, x 17, x 18, x 19, x 20, x 21, x 22, undef], []⟩ W') := fun v W' h1 h2 => hK' _ _ (hK v W' h1 h2)
        have e7 : x 7 = .bool false := hp.post 7 (hd 7 (show 7 ∈ [7] from by decide))
        clear hK hK' hp hd
        simp only [e7] at HK ⊢
        go_simp
        exact HK.out _ _ (Below.refl _ _) trivial
      · refine wpOp_step (o := _) rfl fun K' hK' => ?_
        have HK : Hid (∀ v W', Below W.heap.size W W' → ((Mk.val [7] (fun _ _ _ _ => True) (fun _ _ _ _ _ _ _ => trivial) : Mk)).P W.heap.size W'.heap.size W' v (upd x 11 v) → K' ⟨#[Value.agg #[Value.slice a1 xs.length c1, Value.slice a2 ys.length c2, Value.slice a3 is.length c3, Value.slice a4 bs.length c4], Value.pointer (some { block := w.heap.size, off := 0 }), Value.bool false, x 0, x 1, x 2, x 3, x 4, x 5, x 6, x 7, x 8, x 9, x 10, v, x 12, x 13, x 14, x 15, x 16, x 17, x 18, x 19, x 20, x 21, x 22, undef], []⟩ W') := fun v W' h1 h2 => hK' _ _ (hK v W' h1 h2)
        have e7 : x 7 = .bool false := hp.post 7 (hd 7 (show 7 ∈ [7] from by decide))
        clear hK hK' hp hd
        simp only [e7] at HK ⊢
        go_simp
        exact HK.out _ _ (Below.refl _ _) trivial
      · refine wpOp_step (o := _) rfl fun K' hK' => ?_
        have HK : Hid (∀ v W', Below W.heap.size W W' → ((Mk.val [7] (fun _ _ _ _ => True) (fun _ _ _ _ _ _ _ => trivial) : Mk)).P W.heap.size W'.heap.size W' v (upd x 12 v) → K' ⟨#[Value.agg #[Value.slice a1 xs.length c1, Value.slice a2 ys.length c2, Value.slice a3 is.length c3, Value.slice a4 bs.length c4], Value.pointer (some { block := w.heap.size, off := 0 }), Value.bool false, x 0, x 1, x 2, x 3, x 4, x 5, x 6, x 7, x 8, x 9, x 10, x 11, v, x 13, x 14, x 15, x 16, x 17, x 18, x 19, x 20, x 21, x 22, undef], []⟩ W') := fun v W' h1 h2 => hK' _ _ (hK v W' h1 h2)
        have e7 : x 7 = .bool false := hp.post 7 (hd 7 (show 7 ∈ [7] from by decide))
        clear hK hK' hp hd
        simp only [e7] at HK ⊢
        go_simp
        exact HK.out _ _ (Below.refl _ _) trivial
      · refine wpOp_step (o := _) rfl fun K' hK' => ?_
        have HK : Hid (∀ v W', Below W.heap.size W W' → ((Mk.val [7] (fun _ _ _ _ => True) (fun _ _ _ _ _ _ _ => trivial) : Mk)).P W.heap.size W'.heap.size W' v (upd x 13 v) → K' ⟨#[Value.agg #[Value.slice a1 xs.length c1, Value.slice a2 ys.length c2, Value.slice a3 is.length c3, Value.slice a4 bs.length c4], Value.pointer (some { block := w.heap.size, off := 0 }), Value.bool false, x 0, x 1, x 2, x 3, x 4, x 5, x 6, x 7, x 8, x 9, x 10, x 11, x 12, v, x 14, x 15, x 16, x 17, x 18, x 19, x 20, x 21, x 22, undef], []⟩ W') := fun v W' h1 h2 => hK' _ _ (hK v W' h1 h2)
        have e7 : x 7 = .bool false := hp.post 7 (hd 7 (show 7 ∈ [7] from by decide))
        clear hK hK' hp hd
        simp only [e7] at HK ⊢
        go_simp
        exact HK.out _ _ (Below.refl _ _) trivial
      · refine wpOp_step (o := _) rfl fun K' hK' => ?_
        have HK : Hid (∀ v W', Below W.heap.size W W' → ((Mk.val [7] (fun _ _ _ _ => True) (fun _ _ _ _ _ _ _ => trivial) : Mk)).P W.heap.size W'.heap.size W' v (upd x 14 v) → K' ⟨#[Value.agg #[Value.slice a1 xs.length c1, Value.slice a2 ys.length c2, Value.slice a3 is.length c3, Value.slice a4 bs.length c4], Value.pointer (some { block := w.heap.size, off := 0 }), Value.bool false, x 0, x 1, x 2, x 3, x 4, x 5, x 6, x 7, x 8, x 9, x 10, x 11, x 12, x 13, v, x 15, x 16, x 17, x 18, x 19, x 20, x 21, x 22, undef], []⟩ W') := fun v W' h1 h2 => hK' _ _ (hK v W' h1 h2)
        have e7 : x 7 = .bool false := hp.post 7 (hd 7 (show 7 ∈ [7] from by decide))
        clear hK hK' hp hd
        simp only [e7] at HK ⊢
        go_simp
        exact HK.out _ _ (Below.refl _ _) trivial
      · refine wpOp_step (o := _) rfl fun K' hK' => ?_
        have HK : Hid (∀ v W', Below W.heap.size W W' → ((Mk.val [7] (fun _ _ _ _ => True) (fun _ _ _ _ _ _ _ => trivial) : Mk)).P W.heap.size W'.heap.size W' v (upd x 15 v) → K' ⟨#[Value.agg #[Value.slice a1 xs.length c1, Value.slice a2 ys.length c2, Value.slice a3 is.length c3, Value.slice a4 bs.length c4], Value.pointer (some { block := w.heap.size, off := 0 }), Value.bool false, x 0, x 1, x 2, x 3, x 4, x 5, x 6, x 7, x 8, x 9, x 10, x 11, x 12, x 13, x 14, v, x 16, x 17, x 18, x 19, x 20, x 21, x 22, undef], []⟩ W') := fun v W' h1 h2 => hK' _ _ (hK v W' h1 h2)
        have e7 : x 7 = .bool false := hp.post 7 (hd 7 (show 7 ∈ [7] from by decide))
        clear hK hK' hp hd
        simp only [e7] at HK ⊢
        go_simp
        exact HK.out _ _ (Below.refl _ _) trivial
      · refine wpOp_step (o := _) rfl fun K' hK' => ?_
        have HK : Hid (∀ v W', Below W.heap.size W W' → ((Mk.val [7] (fun _ _ _ _ => True) (fun _ _ _ _ _ _ _ => trivial) : Mk)).P W.heap.size W'.heap.size W' v (upd x 16 v) → K' ⟨#[Value.agg #[Value.slice a1 xs.length c1, Value.slice a2 ys.length c2, Value.slice a3 is.length c3, Value.slice a4 bs.length c4], Value.pointer (some { block := w.heap.size, off := 0 }), Value.bool false, x 0, x 1, x 2, x 3, x 4, x 5, x 6, x 7, x 8, x 9, x 10, x 11, x 12, x 13, x 14, x 15, v, x 17, x 18, x 19, x 20, x 21, x 22, undef], []⟩ W') := fun v W' h1 h2 => hK' _ _ (hK v W' h1 h2)
        have e7 : x 7 = .bool false := hp.post 7 (hd 7 (show 7 ∈ [7] from by decide))
        clear hK hK' hp hd
        simp only [e7] at HK ⊢
        go_simp
        exact HK.out _ _ (Below.refl _ _) trivial
      · refine wpOp_step (o := _) rfl fun K' hK' => ?_
        have HK : Hid (∀ v W', Below W.heap.size W W' → ((Mk.val [7] (fun _ _ _ _ => True) (fun _ _ _ _ _ _ _ => trivial) : Mk)).P W.heap.size W'.heap.size W' v (upd x 17 v) → K' ⟨#[Value.agg #[Value.slice a1 xs.length c1, Value.slice a2 ys.length c2, Value.slice a3 is.length c3, Value.slice a4 bs.length c4], Value.pointer (some { block := w.heap.size, off := 0 }), Value.bool false, x 0, x 1, x 2, x 3, x 4, x 5, x 6, x 7, x 8, x 9, x 10, x 11, x 12, x 13, x 14, x 15, x 16, v, x 18, x 19, x 20, x 21, x 22, undef], []⟩ W') := fun v W' h1 h2 => hK' _ _ (hK v W' h1 h2)
        have e7 : x 7 = .bool false := hp.post 7 (hd 7 (show 7 ∈ [7] from by decide))
        clear hK hK' hp hd
        simp only [e7] at HK ⊢
        go_simp
        exact HK.out _ _ (Below.refl _ _) trivial
      · refine wpOp_step (o := _) rfl fun K' hK' => ?_
        have HK : Hid (∀ v W', Below W.heap.size W W' → ((Mk.val [7] (fun _ _ _ _ => True) (fun _ _ _ _ _ _ _ => trivial) : Mk)).P W.heap.size W'.heap.size W' v (upd x 18 v) → K' ⟨#[Value.agg #[Value.slice a1 xs.length c1, Value.slice a2 ys.length c2, Value.slice a3 is.length c3, Value.slice a4 bs.length c4], Value.pointer (some { block := w.heap.size, off := 0 }), Value.bool false, x 0, x 1, x 2, x 3, x 4, x 5, x 6, x 7, x 8, x 9, x 10, x 11, x 12, x 13, x 14, x 15, x 16, x 17, v, x 19, x 20, x 21, x 22, undef], []⟩ W') := fun v W' h1 h2 => hK' _ _ (hK v W' h1 h2)
        have e7 : x 7 = .bool false := hp.post 7 (hd 7 (show 7 ∈ [7] from by decide))
        clear hK hK' hp hd
        simp only [e7] at HK ⊢
        go_simp
        exact HK.out _ _ (Below.refl _ _) trivial
      · refine wpOp_step (o := _) rfl fun K' hK' => ?_
        have HK : Hid (∀ v W', Below W.heap.size W W' → ((Mk.val [7] (fun _ _ _ _ => True) (fun _ _ _ _ _ _ _ => trivial) : Mk)).P W.heap.size W'.heap.size W' v (upd x 19 v) → K' ⟨#[Value.agg #[Value.slice a1 xs.length c1, Value.slice a2 ys.length c2, Value.slice a3 is.length c3, Value.slice a4 bs.length c4], Value.pointer (some { block := w.heap.size, off := 0 }), Value.bool false, x 0, x 1, x 2, x 3, x 4, x 5, x 6, x 7, x 8, x 9, x 10, x 11, x 12, x 13, x 14, x 15, x 16, x 17, x 18, v, x 20, x 21, x 22, undef], []⟩ W') := fun v W' h1 h2 => hK' _ _ (hK v W' h1 h2)
        have e7 : x 7 = .bool false := hp.post 7 (hd 7 (show 7 ∈ [7] from by decide))
        clear hK hK' hp hd
        simp only [e7] at HK ⊢
        go_simp
        exact HK.out _ _ (Below.refl _ _) trivial
      · refine wpOp_step (o := _) rfl fun K' hK' => ?_
        have HK : Hid (∀ v W', Below W.heap.size W W' → ((Mk.val [7] (fun _ _ _ _ => True) (fun _ _ _ _ _ _ _ => trivial) : Mk)).P W.heap.size W'.heap.size W' v (upd x 20 v) → K' ⟨#[Value.agg #[Value.slice a1 xs.length c1, Value.slice a2 ys.length c2, Value.slice a3 is.length c3, Value.slice a4 bs.length c4], Value.pointer (some { block := w.heap.size, off := 0 }), Value.bool false, x 0, x 1, x 2, x 3, x 4, x 5, x 6, x 7, x 8, x 9, x 10, x 11, x 12, x 13, x 14, x 15, x 16, x 17, x 18, x 19, v, x 21, x 22, undef], []⟩ W') := fun v W' h1 h2 => hK' _ _ (hK v W' h1 h2)
        have e7 : x 7 = .bool false := hp.post 7 (hd 7 (show 7 ∈ [7] from by decide))
        clear hK hK' hp hd
        simp only [e7] at HK ⊢
        go_simp
        exact HK.out _ _ (Below.refl _ _) trivial
      · refine wpOp_step (o := _) rfl fun K' hK' => ?_
        have HK : Hid (∀ v W', Below W.heap.size W W' → ((Mk.val [7] (fun _ _ _ _ => True) (fun _ _ _ _ _ _ _ => trivial) : Mk)).P W.heap.size W'.heap.size W' v (upd x 21 v) → K' ⟨#[Value.agg #[Value.slice a1 xs.length c1, Value.slice a2 ys.length c2, Value.slice a3 is.length c3, Value.slice a4 bs.length c4], Value.pointer (some { block := w.heap.size, off := 0 }), Value.bool false, x 0, x 1, x 2, x 3, x 4, x 5, x 6, x 7, x 8, x 9, x 10, x 11, x 12, x 13, x 14, x 15, x 16, x 17, x 18, x 19, x 20, v, x 22, undef], []⟩ W') := fun v W' h1 h2 => hK' _ _ (hK v W' h1 h2)
        have e7 : x 7 = .bool false := hp.post 7 (hd 7 (show 7 ∈ [7] from by decide))
        clear hK hK' hp hd
        simp only [e7] at HK ⊢
        go_simp
        exact HK.out _ _ (Below.refl _ _) trivial
      · refine wpOp_step (o := _) rfl fun K' hK' => ?_
        have HK : Hid (∀ v W', Below W.heap.size W W' → ((Mk.val [7] (fun _ _ _ _ => True) (fun _ _ _ _ _ _ _ => trivial) : Mk)).P W.heap.size W'.heap.size W' v (upd x 22 v) → K' ⟨#[Value.agg #[Value.slice a1 xs.length c1, Value.slice a2 ys.length c2, Value.slice a3 is.length c3, Value.slice a4 bs.length c4], Value.pointer (some { block := w.heap.size, off := 0 }), Value.bool false, x 0, x 1, x 2, x 3, x 4, x 5, x 6, x 7, x 8, x 9, x 10, x 11, x 12, x 13, x 14, x 15, x 16, x 17, x 18, x 19, x 20, x 21, v, undef], []⟩ W') := fun v W' h1 h2 => hK' _ _ (hK v W' h1 h2)
        have e7 : x 7 = .bool false := hp.post 7 (hd 7 (show 7 ∈ [7] from by decide))
        clear hK hK' hp hd
        simp only [e7] at HK ⊢
        go_simp
        exact HK.out _ _ (Below.refl _ _) trivial
    · intro x iw W hp
      have e7 : x 7 = .bool false := hp.post 7 (by decide)
      have HB := hide (HW.out W hp.bel).2
      simp only [e7]
      clear hp e7
      go_wp2_with fail
      try rw [List.filterMap_nil]
      try go_wp2
      go_ret
      exact ⟨by rw [HF.out]; rfl, HB.out⟩
  subst hk
  have HF : Hid (safeB xs ys is bs = (((n1 : Int) + (n2 : Int) + (n3 : Int) + (n4 : Int) + (n5 : Int)) == 0)) := hide (by
    rw [HS.out]
    by_cases e : (n1 : Int) + (n2 : Int) + (n3 : Int) + (n4 : Int) + (n5 : Int) = 0
    · have e1 : n1 = 0 := by omega
      have e2 : n2 = 0 := by omega
      have e3 : n3 = 0 := by omega
      have e4 : n4 = 0 := by omega
      have e5 : n5 = 0 := by omega
      simp [e1, e2, e3, e4, e5]
    · have e' : ¬ ((2 : Int) = 2 ∧ n1 = 0 ∧ n2 = 0 ∧ n3 = 0 ∧ n4 = 0 ∧ n5 = 0) := by omega
      rw [decide_eq_false e']
      simp [e])
  have s1 : IntKind.i64.wrap ((n1 : Int) + (n2 : Int)) = (n1 : Int) + (n2 : Int) := wrap_small _ (by omega) (by omega)
  have s2 : IntKind.i64.wrap ((n1 : Int) + (n2 : Int) + (n3 : Int)) = (n1 : Int) + (n2 : Int) + (n3 : Int) := wrap_small _ (by omega) (by omega)
  have s3 : IntKind.i64.wrap ((n1 : Int) + (n2 : Int) + (n3 : Int) + (n4 : Int)) = (n1 : Int) + (n2 : Int) + (n3 : Int) + (n4 : Int) := wrap_small _ (by omega) (by omega)
  have s4 : IntKind.i64.wrap ((n1 : Int) + (n2 : Int) + (n3 : Int) + (n4 : Int) + (n5 : Int)) = (n1 : Int) + (n2 : Int) + (n3 : Int) + (n4 : Int) + (n5 : Int) := wrap_small _ (by omega) (by omega)
  rw [HF.out]
  clear HS HF l1 l2 l3 l4 l5 CO1 z0 z1 z2 z3
  simp only [hok] at CO
  clear hok
  go_enter Tryz.func8, Tryz.ntmps8
  go_upto_region 1 with fail
  clear hW0
  refine wp_region_alt (by kernel_rfl) [0, 1, 2, 3, 4, 5, 6, 7, 8, 9, 10, 11, 12, 13, 14, 15, 16, 17, 18, 19, 20, 21, 22] [23, 24] [] (fun i => match i with | 0 => .const [] (.agg #[.slice a1 xs.length c1, .slice a2 ys.length c2, .slice a3 is.length c3, .slice a4 bs.length c4]) | 1 => .const [0] (.bool true) | 2 => .const [1] (.bool true) | 3 => .const [2] (.agg #[.slice a1 xs.length c1, .slice a2 ys.length c2, .slice a3 is.length c3, .slice a4 bs.length c4]) | 4 => .const [3, 2] (.int .i64 (2)) | 5 => .const [4, 2] (.bool true) | 6 => .const [2, 5] (.bool true) | 7 => .const [6] (.bool true) | 8 => .const [7] (.agg #[.slice a1 xs.length c1, .slice a2 ys.length c2, .slice a3 is.length c3, .slice a4 bs.length c4]) | 9 => .const [8, 7] (.int .i64 ((n1 : Int))) | 10 => .const [7] (.agg #[.slice a1 xs.length c1, .slice a2 ys.length c2, .slice a3 is.length c3, .slice a4 bs.length c4]) | 11 => .const [10, 7] (.int .i64 ((n2 : Int))) | 12 => .const [9, 11, 7] (.int .i64 ((n1 : Int) + (n2 : Int))) | 13 => .const [7] (.agg #[.slice a1 xs.length c1, .slice a2 ys.length c2, .slice a3 is.length c3, .slice a4 bs.length c4]) | 14 => .const [13, 7] (.int .i64 ((n3 : Int))) | 15 => .const [12, 14, 7] (.int .i64 ((n1 : Int) + (n2 : Int) + (n3 : Int))) | 16 => .const [7] (.agg #[.slice a1 xs.length c1, .slice a2 ys.length c2, .slice a3 is.length c3, .slice a4 bs.length c4]) | 17 => .const [16, 7] (.int .i64 ((n4 : Int))) | 18 => .const [15, 17, 7] (.int .i64 ((n1 : Int) + (n2 : Int) + (n3 : Int) + (n4 : Int))) | 19 => .const [7] (.agg #[.slice a1 xs.length c1, .slice a2 ys.length c2, .slice a3 is.length c3, .slice a4 bs.length c4]) | 20 => .const [19, 7] (.int .i64 ((n5 : Int))) | 21 => .const [18, 20, 7] (.int .i64 ((n1 : Int) + (n2 : Int) + (n3 : Int) + (n4 : Int) + (n5 : Int))) | 22 => .const [21, 7] (.bool (((n1 : Int) + (n2 : Int) + (n3 : Int) + (n4 : Int) + (n5 : Int)) == 0)) | _ => .triv) (fun x => ⟨#[Value.agg #[Value.slice a1 xs.length c1, Value.slice a2 ys.length c2, Value.slice a3 is.length c3, Value.slice a4 bs.length c4], Value.pointer (some { block := w.heap.size, off := 0 }), Value.bool false, x 0, x 1, x 2, x 3, x 4, x 5, x 6, x 7, x 8, x 9, x 10, x 11, x 12, x 13, x 14, x 15, x 16, x 17, x 18, x 19, x 20, x 21, x 22, undef], []⟩) (fun i => match i with | 0 => undef | 1 => undef | 2 => undef | 3 => undef | 4 => undef | 5 => undef | 6 => undef | 7 => undef | 8 => undef | 9 => undef | 10 => undef | 11 => undef | 12 => undef | 13 => undef | 14 => undef | 15 => undef | 16 => undef | 17 => undef | 18 => undef | 19 => undef | 20 => undef | 21 => undef | 22 => undef | _ => undef) rfl (makersOk2_of (by kernel_rfl) (by kernel_rfl)) (by kernel_rfl) (by kernel_rfl) (by kernel_rfl) rfl ?_ ?_ (by intro q hq; cases hq)
  · intro jo hj so x iw W hd hp K hK
    simp only [List.mem_cons, List.not_mem_nil, or_false] at hj
    rcases hj with rfl | rfl | rfl | rfl | rfl | rfl | rfl | rfl | rfl | rfl | rfl | rfl | rfl | rfl | rfl | rfl | rfl | rfl | rfl | rfl | rfl | rfl | rfl
    · refine wpOp_step (o := _) rfl fun K' hK' => ?_
      have HK : Hid (∀ v W', Below W.heap.size W W' → ((Mk.const [] (.agg #[.slice a1 xs.length c1, .slice a2 ys.length c2, .slice a3 is.length c3, .slice a4 bs.length c4]) : Mk)).P W.heap.size W'.heap.size W' v (upd x 0 v) → K' ⟨#[Value.agg #[Value.slice a1 xs.length c1, Value.slice a2 ys.length c2, Value.slice a3 is.length c3, Value.slice a4 bs.length c4], Value.pointer (some { block := w.heap.size, off := 0 }), Value.bool false, v, x 1, x 2, x 3, x 4, x 5, x 6, x 7, x 8, x 9, x 10, x 11, x 12, x 13, x 14, x 15, x 16, x 17, x 18, x 19, x 20, x 21, x 22, undef], []⟩ W') := fun v W' h1 h2 => hK' _ _ (hK v W' h1 h2)
      have bw := HW.out W hp.bel
      have k0 : W.cell? ⟨w.heap.size, 0, none⟩ = some (.slice a1 xs.length c1) := bw.1.cell 0
      have k1 : W.cell? ⟨w.heap.size, 1, none⟩ = some (.slice a2 ys.length c2) := bw.1.cell 1
      have k2 : W.cell? ⟨w.heap.size, 2, none⟩ = some (.slice a3 is.length c3) := bw.1.cell 2
      have k3 : W.cell? ⟨w.heap.size, 3, none⟩ = some (.slice a4 bs.length c4) := bw.1.cell 3
      clear bw
      clear hK hK' hp hd
      go_simp
      exact HK.out _ _ (Below.refl _ _) rfl
    · refine wpOp_step (o := _) rfl fun K' hK' => ?_
      have HK : Hid (∀ v W', Below W.heap.size W W' → ((Mk.const [0] (.bool true) : Mk)).P W.heap.size W'.heap.size W' v (upd x 1 v) → K' ⟨#[Value.agg #[Value.slice a1 xs.length c1, Value.slice a2 ys.length c2, Value.slice a3 is.length c3, Value.slice a4 bs.length c4], Value.pointer (some { block := w.heap.size, off := 0 }), Value.bool false, x 0, v, x 2, x 3, x 4, x 5, x 6, x 7, x 8, x 9, x 10, x 11, x 12, x 13, x 14, x 15, x 16, x 17, x 18, x 19, x 20, x 21, x 22, undef], []⟩ W') := fun v W' h1 h2 => hK' _ _ (hK v W' h1 h2)
      have e0 : x 0 = .agg #[.slice a1 xs.length c1, .slice a2 ys.length c2, .slice a3 is.length c3, .slice a4 bs.length c4] := hp.post 0 (hd 0 (show 0 ∈ [0] from by decide))
      have dr := (HW.out W hp.bel).2
      clear hK hK' hp hd
      simp only [e0] at HK ⊢
      clear e0
      go_simp
      refine (CO.out W dr).mono ?_
      rintro e w6 ⟨rfl, B6⟩
      go_simp
      exact HK.out _ _ B6 rfl
    · refine wpOp_step (o := _) rfl fun K' hK' => ?_
      have HK : Hid (∀ v W', Below W.heap.size W W' → ((Mk.const [1] (.bool true) : Mk)).P W.heap.size W'.heap.size W' v (upd x 2 v) → K' ⟨#[Value.agg #[Value.slice a1 xs.length c1, Value.slice a2 ys.length c2, Value.slice a3 is.length c3, Value.slice a4 bs.length c4], Value.pointer (some { block := w.heap.size, off := 0 }), Value.bool false, x 0, x 1, v, x 3, x 4, x 5, x 6, x 7, x 8, x 9, x 10, x 11, x 12, x 13, x 14, x 15, x 16, x 17, x 18, x 19, x 20, x 21, x 22, undef], []⟩ W') := fun v W' h1 h2 => hK' _ _ (hK v W' h1 h2)
      have e1 : x 1 = .bool true := hp.post 1 (hd 1 (show 1 ∈ [1] from by decide))
      clear hK hK' hp hd
      simp only [e1] at HK ⊢
      go_simp
      exact HK.out _ _ (Below.refl _ _) rfl
    · refine wpOp_step (o := _) rfl fun K' hK' => ?_
      have HK : Hid (∀ v W', Below W.heap.size W W' → ((Mk.const [2] (.agg #[.slice a1 xs.length c1, .slice a2 ys.length c2, .slice a3 is.length c3, .slice a4 bs.length c4]) : Mk)).P W.heap.size W'.heap.size W' v (upd x 3 v) → K' ⟨#[Value.agg #[Value.slice a1 xs.length c1, Value.slice a2 ys.length c2, Value.slice a3 is.length c3, Value.slice a4 bs.length c4], Value.pointer (some { block := w.heap.size, off := 0 }), Value.bool false, x 0, x 1, x 2, v, x 4, x 5, x 6, x 7, x 8, x 9, x 10, x 11, x 12, x 13, x 14, x 15, x 16, x 17, x 18, x 19, x 20, x 21, x 22, undef], []⟩ W') := fun v W' h1 h2 => hK' _ _ (hK v W' h1 h2)
      have e2 : x 2 = .bool true := hp.post 2 (hd 2 (show 2 ∈ [2] from by decide))
      have bw := HW.out W hp.bel
      have k0 : W.cell? ⟨w.heap.size, 0, none⟩ = some (.slice a1 xs.length c1) := bw.1.cell 0
      have k1 : W.cell? ⟨w.heap.size, 1, none⟩ = some (.slice a2 ys.length c2) := bw.1.cell 1
      have k2 : W.cell? ⟨w.heap.size, 2, none⟩ = some (.slice a3 is.length c3) := bw.1.cell 2
      have k3 : W.cell? ⟨w.heap.size, 3, none⟩ = some (.slice a4 bs.length c4) := bw.1.cell 3
      clear bw
      clear hK hK' hp hd
      simp only [e2] at HK ⊢
      go_simp
      exact HK.out _ _ (Below.refl _ _) rfl
    · refine wpOp_step (o := _) rfl fun K' hK' => ?_
      have HK : Hid (∀ v W', Below W.heap.size W W' → ((Mk.const [3, 2] (.int .i64 (2)) : Mk)).P W.heap.size W'.heap.size W' v (upd x 4 v) → K' ⟨#[Value.agg #[Value.slice a1 xs.length c1, Value.slice a2 ys.length c2, Value.slice a3 is.length c3, Value.slice a4 bs.length c4], Value.pointer (some { block := w.heap.size, off := 0 }), Value.bool false, x 0, x 1, x 2, x 3, v, x 5, x 6, x 7, x 8, x 9, x 10, x 11, x 12, x 13, x 14, x 15, x 16, x 17, x 18, x 19, x 20, x 21, x 22, undef], []⟩ W') := fun v W' h1 h2 => hK' _ _ (hK v W' h1 h2)
      have e3 : x 3 = .agg #[.slice a1 xs.length c1, .slice a2 ys.length c2, .slice a3 is.length c3, .slice a4 bs.length c4] := hp.post 3 (hd 3 (show 3 ∈ [3, 2] from by decide))
      have e2 : x 2 = .bool true := hp.post 2 (hd 2 (show 2 ∈ [3, 2] from by decide))
      have dr := (HW.out W hp.bel).2
      clear hK hK' hp hd
      simp only [e3, e2] at HK ⊢
      clear e3 e2
      go_simp
      refine (CK.out W dr).mono ?_
      rintro e w6 ⟨rfl, B6⟩
      go_simp
      exact HK.out _ _ B6 rfl
    · refine wpOp_step (o := _) rfl fun K' hK' => ?_
      have HK : Hid (∀ v W', Below W.heap.size W W' → ((Mk.const [4, 2] (.bool true) : Mk)).P W.heap.size W'.heap.size W' v (upd x 5 v) → K' ⟨#[Value.agg #[Value.slice a1 xs.length c1, Value.slice a2 ys.length c2, Value.slice a3 is.length c3, Value.slice a4 bs.length c4], Value.pointer (some { block := w.heap.size, off := 0 }), Value.bool false, x 0, x 1, x 2, x 3, x 4, v, x 6, x 7, x 8, x 9, x 10, x 11, x 12, x 13, x 14, x 15, x 16, x 17, x 18, x 19, x 20, x 21, x 22, undef], []⟩ W') := fun v W' h1 h2 => hK' _ _ (hK v W' h1 h2)
      have e4 : x 4 = .int .i64 (2) := hp.post 4 (hd 4 (show 4 ∈ [4, 2] from by decide))
      have e2 : x 2 = .bool true := hp.post 2 (hd 2 (show 2 ∈ [4, 2] from by decide))
      clear hK hK' hp hd
      simp only [e4, e2] at HK ⊢
      go_simp
      exact HK.out _ _ (Below.refl _ _) rfl
    · refine wpOp_step (o := _) rfl fun K' hK' => ?_
      have HK : Hid (∀ v W', Below W.heap.size W W' → ((Mk.const [2, 5] (.bool true) : Mk)).P W.heap.size W'.heap.size W' v (upd x 6 v) → K' ⟨#[Value.agg #[Value.slice a1 xs.length c1, Value.slice a2 ys.length c2, Value.slice a3 is.length c3, Value.slice a4 bs.length c4], Value.pointer (some { block := w.heap.size, off := 0 }), Value.bool false, x 0, x 1, x 2, x 3, x 4, x 5, v, x 7, x 8, x 9, x 10, x 11, x 12, x 13, x 14, x 15, x 16, x 17, x 18, x 19, x 20, x 21, x 22, undef], []⟩ W') := fun v W' h1 h2 => hK' _ _ (hK v W' h1 h2)
      have e2 : x 2 = .bool true := hp.post 2 (hd 2 (show 2 ∈ [2, 5] from by decide))
      have e5 : x 5 = .bool true := hp.post 5 (hd 5 (show 5 ∈ [2, 5] from by decide))
      clear hK hK' hp hd
      simp only [e2, e5] at HK ⊢
      go_simp
      exact HK.out _ _ (Below.refl _ _) rfl
    · refine wpOp_step (o := _) rfl fun K' hK' => ?_
      have HK : Hid (∀ v W', Below W.heap.size W W' → ((Mk.const [6] (.bool true) : Mk)).P W.heap.size W'.heap.size W' v (upd x 7 v) → K' ⟨#[Value.agg #[Value.slice a1 xs.length c1, Value.slice a2 ys.length c2, Value.slice a3 is.length c3, Value.slice a4 bs.length c4], Value.pointer (some { block := w.heap.size, off := 0 }), Value.bool false, x 0, x 1, x 2, x 3, x 4, x 5, x 6, v, x 8, x 9, x 10, x 11, x 12, x 13, x 14, x 15, x 16, x 17, x 18, x 19, x 20, x 21, x 22, undef], []⟩ W') := fun v W' h1 h2 => hK' _ _ (hK v W' h1 h2)
      have e6 : x 6 = .bool true := hp.post 6 (hd 6 (show 6 ∈ [6] from by decide))
      clear hK hK' hp hd
      simp only [e6] at HK ⊢
      go_simp
      exact HK.out _ _ (Below.refl _ _) rfl
    · refine wpOp_step (o := _) rfl fun K' hK' => ?_
      have HK : Hid (∀ v W', Below W.heap.size W W' → ((Mk.const [7] (.agg #[.slice a1 xs.length c1, .slice a2 ys.length c2, .slice a3 is.length c3, .slice a4 bs.length c4]) : Mk)).P W.heap.size W'.heap.size W' v (upd x 8 v) → K' ⟨#[Value.agg #[Value.slice a1 xs.length c1, Value.slice a2 ys.length c2, Value.slice a3 is.length c3, Value.slice a4 bs.length c4], Value.pointer (some { block := w.heap.size, off := 0 }), Value.bool false, x 0, x 1, x 2, x 3, x 4, x 5, x 6, x 7, v, x 9, x 10, x 11, x 12, x 13, x 14, x 15, x 16, x 17, x 18, x 19, x 20, x 21, x 22, undef], []⟩ W') := fun v W' h1 h2 => hK' _ _ (hK v W' h1 h2)
      have e7 : x 7 = .bool true := hp.post 7 (hd 7 (show 7 ∈ [7] from by decide))
      have bw := HW.out W hp.bel
      have k0 : W.cell? ⟨w.heap.size, 0, none⟩ = some (.slice a1 xs.length c1) := bw.1.cell 0
      have k1 : W.cell? ⟨w.heap.size, 1, none⟩ = some (.slice a2 ys.length c2) := bw.1.cell 1
      have k2 : W.cell? ⟨w.heap.size, 2, none⟩ = some (.slice a3 is.length c3) := bw.1.cell 2
      have k3 : W.cell? ⟨w.heap.size, 3, none⟩ = some (.slice a4 bs.length c4) := bw.1.cell 3
      clear bw
      clear hK hK' hp hd
      simp only [e7] at HK ⊢
      go_simp
      exact HK.out _ _ (Below.refl _ _) rfl
    · refine wpOp_step (o := _) rfl fun K' hK' => ?_
      have HK : Hid (∀ v W', Below W.heap.size W W' → ((Mk.const [8, 7] (.int .i64 ((n1 : Int))) : Mk)).P W.heap.size W'.heap.size W' v (upd x 9 v) → K' ⟨#[Value.agg #[Value.slice a1 xs.length c1, Value.slice a2 ys.length c2, Value.slice a3 is.length c3, Value.slice a4 bs.length c4], Value.pointer (some { block := w.heap.size, off := 0 }), Value.bool false, x 0, x 1, x 2, x 3, x 4, x 5, x 6, x 7, x 8, v, x 10, x 11, x 12, x 13, x 14, x 15, x 16, x 17, x 18, x 19, x 20, x 21, x 22, undef], []⟩ W') := fun v W' h1 h2 => hK' _ _ (hK v W' h1 h2)
      have e8 : x 8 = .agg #[.slice a1 xs.length c1, .slice a2 ys.length c2, .slice a3 is.length c3, .slice a4 bs.length c4] := hp.post 8 (hd 8 (show 8 ∈ [8, 7] from by decide))
      have e7 : x 7 = .bool true := hp.post 7 (hd 7 (show 7 ∈ [8, 7] from by decide))
      have dr := (HW.out W hp.bel).2
      clear hK hK' hp hd
      simp only [e8, e7] at HK ⊢
      clear e8 e7
      go_simp
      refine (C1.out W dr).mono ?_
      rintro e w6 ⟨rfl, B6⟩
      go_simp
      exact HK.out _ _ B6 rfl
    · refine wpOp_step (o := _) rfl fun K' hK' => ?_
      have HK : Hid (∀ v W', Below W.heap.size W W' → ((Mk.const [7] (.agg #[.slice a1 xs.length c1, .slice a2 ys.length c2, .slice a3 is.length c3, .slice a4 bs.length c4]) : Mk)).P W.heap.size W'.heap.size W' v (upd x 10 v) → K' ⟨#[Value.agg #[Value.slice a1 xs.length c1, Value.slice a2 ys.length c2, Value.slice a3 is.length c3, Value.slice a4 bs.length c4], Value.pointer (some { block := w.heap.size, off := 0 }), Value.bool false, x 0, x 1, x 2, x 3, x 4, x 5, x 6, x 7, x 8, x 9, v, x 11, x 12, x 13, x 14, x 15, x 16, x 17, x 18, x 19, x 20, x 21, x 22, undef], []⟩ W') := fun v W' h1 h2 => hK' _ _ (hK v W' h1 h2)
      have e7 : x 7 = .bool true := hp.post 7 (hd 7 (show 7 ∈ [7] from by decide))
      have bw := HW.out W hp.bel
      have k0 : W.cell? ⟨w.heap.size, 0, none⟩ = some (.slice a1 xs.length c1) := bw.1.cell 0
      have k1 : W.cell? ⟨w.heap.size, 1, none⟩ = some (.slice a2 ys.length c2) := bw.1.cell 1
      have k2 : W.cell? ⟨w.heap.size, 2, none⟩ = some (.slice a3 is.length c3) := bw.1.cell 2
      have k3 : W.cell? ⟨w.heap.size, 3, none⟩ = some (.slice a4 bs.length c4) := bw.1.cell 3
      clear bw
      clear hK hK' hp hd
      simp only [e7] at HK ⊢
      go_simp
      exact HK.out _ _ (Below.refl _ _) rfl
    · refine wpOp_step (o := _) rfl fun K' hK' => ?_
      have HK : Hid (∀ v W', Below W.heap.size W W' → ((Mk.const [10, 7] (.int .i64 ((n2 : Int))) : Mk)).P W.heap.size W'.heap.size W' v (upd x 11 v) → K' ⟨#[Value.agg #[Value.slice a1 xs.length c1, Value.slice a2 ys.length c2, Value.slice a3 is.length c3, Value.slice a4 bs.length c4], Value.pointer (some { block := w.heap.size, off := 0 }), Value.bool false, x 0, x 1, x 2, x 3, x 4, x 5, x 6, x 7, x 8, x 9, x 10, v, x 12, x 13, x 14, x 15, x 16, x 17, x 18, x 19, x 20, x 21, x 22, undef], []⟩ W') := fun v W' h1 h2 => hK' _ _ (hK v W' h1 h2)
      have e10 : x 10 = .agg #[.slice a1 xs.length c1, .slice a2 ys.length c2, .slice a3 is.length c3, .slice a4 bs.length c4] := hp.post 10 (hd 10 (show 10 ∈ [10, 7] from by decide))
      have e7 : x 7 = .bool true := hp.post 7 (hd 7 (show 7 ∈ [10, 7] from by decide))
      have dr := (HW.out W hp.bel).2
      clear hK hK' hp hd
      simp only [e10, e7] at HK ⊢
      clear e10 e7
      go_simp
      refine (C2.out W dr).mono ?_
      rintro e w6 ⟨rfl, B6⟩
      go_simp
      exact HK.out _ _ B6 rfl
    · refine wpOp_step (o := _) rfl fun K' hK' => ?_
      have HK : Hid (∀ v W', Below W.heap.size W W' → ((Mk.const [9, 11, 7] (.int .i64 ((n1 : Int) + (n2 : Int))) : Mk)).P W.heap.size W'.heap.size W' v (upd x 12 v) → K' ⟨#[Value.agg #[Value.slice a1 xs.length c1, Value.slice a2 ys.length c2, Value.slice a3 is.length c3, Value.slice a4 bs.length c4], Value.pointer (some { block := w.heap.size, off := 0 }), Value.bool false, x 0, x 1, x 2, x 3, x 4, x 5, x 6, x 7, x 8, x 9, x 10, x 11, v, x 13, x 14, x 15, x 16, x 17, x 18, x 19, x 20, x 21, x 22, undef], []⟩ W') := fun v W' h1 h2 => hK' _ _ (hK v W' h1 h2)
      have e9 : x 9 = .int .i64 ((n1 : Int)) := hp.post 9 (hd 9 (show 9 ∈ [9, 11, 7] from by decide))
      have e11 : x 11 = .int .i64 ((n2 : Int)) := hp.post 11 (hd 11 (show 11 ∈ [9, 11, 7] from by decide))
      have e7 : x 7 = .bool true := hp.post 7 (hd 7 (show 7 ∈ [9, 11, 7] from by decide))
      clear hK hK' hp hd
      simp only [e9, e11, e7] at HK ⊢
      go_simp
      exact HK.out _ _ (Below.refl _ _) rfl
    · refine wpOp_step (o := _) rfl fun K' hK' => ?_
      have HK : Hid (∀ v W', Below W.heap.size W W' → ((Mk.const [7] (.agg #[.slice a1 xs.length c1, .slice a2 ys.length c2, .slice a3 is.length c3, .slice a4 bs.length c4]) : Mk)).P W.heap.size W'.heap.size W' v (upd x 13 v) → K' ⟨#[Value.agg #[Value.slice a1 xs.length c1, Value.slice a2 ys.length c2, Value.slice a3 is.length c3, Value.slice a4 bs.length c4], Value.pointer (some { block := w.heap.size, off := 0 }), Value.bool false, x 0, x 1, x 2, x 3, x 4, x 5, x 6, x 7, x 8, x 9, x 10, x 11, x 12, v, x 14, x 15, x 16, x 17, x 18, x 19, x 20, x 21, x 22, undef], []⟩ W') := fun v W' h1 h2 => hK' _ _ (hK v W' h1 h2)
      have e7 : x 7 = .bool true := hp.post 7 (hd 7 (show 7 ∈ [7] from by decide))
      have bw := HW.out W hp.bel
      have k0 : W.cell? ⟨w.heap.size, 0, none⟩ = some (.slice a1 xs.length c1) := bw.1.cell 0
      have k1 : W.cell? ⟨w.heap.size, 1, none⟩ = some (.slice a2 ys.length c2) := bw.1.cell 1
      have k2 : W.cell? ⟨w.heap.size, 2, none⟩ = some (.slice a3 is.length c3) := bw.1.cell 2
      have k3 : W.cell? ⟨w.heap.size, 3, none⟩ = some (.slice a4 bs.length c4) := bw.1.cell 3
      clear bw
      clear hK hK' hp hd
      simp only [e7] at HK ⊢
      go_simp
      exact HK.out _ _ (Below.refl _ _) rfl
    · refine wpOp_step (o := _) rfl fun K' hK' => ?_
      have HK : Hid (∀ v W', Below W.heap.size W W' → ((Mk.const [13, 7] (.int .i64 ((n3 : Int))) : Mk)).P W.heap.size W'.heap.size W' v (upd x 14 v) → K' ⟨#[Value.agg #[Value.slice a1 xs.length c1, Value.slice a2 ys.length c2, Value.slice a3 is.length c3, Value.slice a4 bs.length c4], Value.pointer (some { block := w.heap.size, off := 0 }), Value.bool false, x 0, x 1, x 2, x 3, x 4, x 5, x 6, x 7, x 8, x 9, x 10, x 11, x 12, x 13, v, x 15, x 16, x 17, x 18, x 19, x 20, x 21, x 22, undef], []⟩ W') := fun v W' h1 h2 => hK' _ _ (hK v W' h1 h2)
      have e13 : x 13 = .agg #[.slice a1 xs.length c1, .slice a2 ys.length c2, .slice a3 is.length c3, .slice a4 bs.length c4] := hp.post 13 (hd 13 (show 13 ∈ [13, 7] from by decide))
      have e7 : x 7 = .bool true := hp.post 7 (hd 7 (show 7 ∈ [13, 7] from by decide))
      have dr := (HW.out W hp.bel).2
      clear hK hK' hp hd
      simp only [e13, e7] at HK ⊢
      clear e13 e7
      go_simp
      refine (C3.out W dr).mono ?_
      rintro e w6 ⟨rfl, B6⟩
      go_simp
      exact HK.out _ _ B6 rfl
    · refine wpOp_step (o := _) rfl fun K' hK' => ?_
      have HK : Hid (∀ v W', Below W.heap.size W W' → ((Mk.const [12, 14, 7] (.int .i64 ((n1 : Int) + (n2 : Int) + (n3 : Int))) : Mk)).P W.heap.size W'.heap.size W' v (upd x 15 v) → K' ⟨#[Value.agg #[Value.slice a1 xs.length c1, Value.slice a2 ys.length c2, Value.slice a3 is.length c3, Value.slice a4 bs.length c4], Value.pointer (some { block := w.heap.size, off := 0 }), Value.bool false, x 0, x 1, x 2, x 3, x 4, x 5, x 6, x 7, x 8, x 9, x 10, x 11, x 12, x 13, x 14, v, x 16, x 17, x 18, x 19, x 20, x 21, x 22, undef], []⟩ W') := fun v W' h1 h2 => hK' _ _ (hK v W' h1 h2)
      have e12 : x 12 = .int .i64 ((n1 : Int) + (n2 : Int)) := hp.post 12 (hd 12 (show 12 ∈ [12, 14, 7] from by decide))
      have e14 : x 14 = .int .i64 ((n3 : Int)) := hp.post 14 (hd 14 (show 14 ∈ [12, 14, 7] from by decide))
      have e7 : x 7 = .bool true := hp.post 7 (hd 7 (show 7 ∈ [12, 14, 7] from by decide))
      clear hK hK' hp hd
      simp only [e12, e14, e7] at HK ⊢
      go_simp
      exact HK.out _ _ (Below.refl _ _) rfl
    · refine wpOp_step (o := _) rfl fun K' hK' => ?_
      have HK : Hid (∀ v W', Below W.heap.size W W' → ((Mk.const [7] (.agg #[.slice a1 xs.length c1, .slice a2 ys.length c2, .slice a3 is.length c3, .slice a4 bs.length c4]) : Mk)).P W.heap.size W'.heap.size W' v (upd x 16 v) → K' ⟨#[Value.agg #[Value.slice a1 xs.length c1, Value.slice a2 ys.length c2, Value.slice a3 is.length c3, Value.slice a4 bs.length c4], Value.pointer (some { block := w.heap.size, off := 0 }), Value.bool false, x 0, x 1, x 2, x 3, x 4, x 5, x 6, x 7, x 8, x 9, x 10, x 11, x 12, x 13, x 14, x 15, v, x 17, x 18, x 19, x 20, x 21, x 22, undef], []⟩ W') := fun v W' h1 h2 => hK' _ _ (hK v W' h1 h2)
      have e7 : x 7 = .bool true := hp.post 7 (hd 7 (show 7 ∈ [7] from by decide))
      have bw := HW.out W hp.bel
      have k0 : W.cell? ⟨w.heap.size, 0, none⟩ = some (.slice a1 xs.length c1) := bw.1.cell 0
      have k1 : W.cell? ⟨w.heap.size, 1, none⟩ = some (.slice a2 ys.length c2) := bw.1.cell 1
      have k2 : W.cell? ⟨w.heap.size, 2, none⟩ = some (.slice a3 is.length c3) := bw.1.cell 2
      have k3 : W.cell? ⟨w.heap.size, 3, none⟩ = some (.slice a4 bs.length c4) := bw.1.cell 3
      clear bw
      clear hK hK' hp hd
      simp only [e7] at HK ⊢
      go_simp
      exact HK.out _ _ (Below.refl _ _) rfl
    · refine wpOp_step (o := _) rfl fun K' hK' => ?_
      have HK : Hid (∀ v W', Below W.heap.size W W' → ((Mk.const [16, 7] (.int .i64 ((n4 : Int))) : Mk)).P W.heap.size W'.heap.size W' v (upd x 17 v) → K' ⟨#[Value.agg #[Value.slice a1 xs.length c1, Value.slice a2 ys.length c2, Value.slice a3 is.length c3, Value.slice a4 bs.length c4], Value.pointer (some { block := w.heap.size, off := 0 }), Value.bool false, x 0, x 1, x 2, x 3, x 4, x 5, x 6, x 7, x 8, x 9, x 10, x 11, x 12, x 13, x 14, x 15, x 16, v, x 18, x 19, x 20, x 21, x 22, undef], []⟩ W') := fun v W' h1 h2 => hK' _ _ (hK v W' h1 h2)
      have e16 : x 16 = .agg #[.slice a1 xs.length c1, .slice a2 ys.length c2, .slice a3 is.length c3, .slice a4 bs.length c4] := hp.post 16 (hd 16 (show 16 ∈ [16, 7] from by decide))
      have e7 : x 7 = .bool true := hp.post 7 (hd 7 (show 7 ∈ [16, 7] from by decide))
      have dr := (HW.out W hp.bel).2
      clear hK hK' hp hd
      simp only [e16, e7] at HK ⊢
      clear e16 e7
      go_simp
      refine (C4.out W dr).mono ?_
      rintro e w6 ⟨rfl, B6⟩
      go_simp
      exact HK.out _ _ B6 rfl
    · refine wpOp_step (o := _) rfl fun K' hK' => ?_
      have HK : Hid (∀ v W', Below W.heap.size W W' → ((Mk.const [15, 17, 7] (.int .i64 ((n1 : Int) + (n2 : Int) + (n3 : Int) + (n4 : Int))) : Mk)).P W.heap.size W'.heap.size W' v (upd x 18 v) → K' ⟨#[Value.agg #[Value.slice a1 xs.length c1, Value.slice a2 ys.length c2, Value.slice a3 is.length c3, Value.slice a4 bs.length c4], Value.pointer (some { block := w.heap.size, off := 0 }), Value.bool false, x 0, x 1, x 2, x 3, x 4, x 5, x 6, x 7, x 8, x 9, x 10, x 11, x 12, x 13, x 14, x 15, x 16, x 17, v, x 19, x 20, x 21, x 22, undef], []⟩ W') := fun v W' h1 h2 => hK' _ _ (hK v W' h1 h2)
      have e15 : x 15 = .int .i64 ((n1 : Int) + (n2 : Int) + (n3 : Int)) := hp.post 15 (hd 15 (show 15 ∈ [15, 17, 7] from by decide))
      have e17 : x 17 = .int .i64 ((n4 : Int)) := hp.post 17 (hd 17 (show 17 ∈ [15, 17, 7] from by decide))
      have e7 : x 7 = .bool true := hp.post 7 (hd 7 (show 7 ∈ [15, 17, 7] from by decide))
      clear hK hK' hp hd
      simp only [e15, e17, e7] at HK ⊢
      go_simp
      exact HK.out _ _ (Below.refl _ _) rfl
    · refine wpOp_step (o := _) rfl fun K' hK' => ?_
      have HK : Hid (∀ v W', Below W.heap.size W W' → ((Mk.const [7] (.agg #[.slice a1 xs.length c1, .slice a2 ys.length c2, .slice a3 is.length c3, .slice a4 bs.length c4]) : Mk)).P W.heap.size W'.heap.size W' v (upd x 19 v) → K' ⟨#[Value.agg #[Value.slice a1 xs.length c1, Value.slice a2 ys.length c2, Value.slice a3 is.length c3, Value.slice a4 bs.length c4], Value.pointer (some { block := w.heap.size, off := 0 }), Value.bool false, x 0, x 1, x 2, x 3, x 4, x 5, x 6, x 7, x 8, x 9, x 10, x 11, x 12, x 13, x 14, x 15, x 16, x 17, x 18, v, x 20, x 21, x 22, undef], []⟩ W') := fun v W' h1 h2 => hK' _ _ (hK v W' h1 h2)
      have e7 : x 7 = .bool true := hp.post 7 (hd 7 (show 7 ∈ [7] from by decide))
      have bw := HW.out W hp.bel
      have k0 : W.cell? ⟨w.heap.size, 0, none⟩ = some (.slice a1 xs.length c1) := bw.1.cell 0
      have k1 : W.cell? ⟨w.heap.size, 1, none⟩ = some (.slice a2 ys.length c2) := bw.1.cell 1
      have k2 : W.cell? ⟨w.heap.size, 2, none⟩ = some (.slice a3 is.length c3) := bw.1.cell 2
      have k3 : W.cell? ⟨w.heap.size, 3, none⟩ = some (.slice a4 bs.length c4) := bw.1.cell 3
      clear bw
      clear hK hK' hp hd
      simp only [e7] at HK ⊢
      go_simp
      exact HK.out _ _ (Below.refl _ _) rfl
    · refine wpOp_step (o := _) rfl fun K' hK' => ?_
      have HK : Hid (∀ v W', Below W.heap.size W W' → ((Mk.const [19, 7] (.int .i64 ((n5 : Int))) : Mk)).P W.heap.size W'.heap.size W' v (upd x 20 v) → K' ⟨#[Value.agg #[Value.slice a1 xs.length c1, Value.slice a2 ys.length c2, Value.slice a3 is.length c3, Value.slice a4 bs.length c4], Value.pointer (some { block := w.heap.size, off := 0 }), Value.bool false, x 0, x 1, x 2, x 3, x 4, x 5, x 6, x 7, x 8, x 9, x 10, x 11, x 12, x 13, x 14, x 15, x 16, x 17, x 18, x 19, v, x 21, x 22, undef], []⟩ W') := fun v W' h1 h2 => hK' _ _ (hK v W' h1 h2)
      have e19 : x 19 = .agg #[.slice a1 xs.length c1, .slice a2 ys.length c2, .slice a3 is.length c3, .slice a4 bs.length c4] := hp.post 19 (hd 19 (show 19 ∈ [19, 7] from by decide))
      have e7 : x 7 = .bool true := hp.post 7 (hd 7 (show 7 ∈ [19, 7] from by decide))
      have dr := (HW.out W hp.bel).2
      clear hK hK' hp hd
      simp only [e19, e7] at HK ⊢
      clear e19 e7
      go_simp
      refine (C5.out W dr).mono ?_
      rintro e w6 ⟨rfl, B6⟩
      go_simp
      exact HK.out _ _ B6 rfl
    · refine wpOp_step (o := _) rfl fun K' hK' => ?_
      have HK : Hid (∀ v W', Below W.heap.size W W' → ((Mk.const [18, 20, 7] (.int .i64 ((n1 : Int) + (n2 : Int) + (n3 : Int) + (n4 : Int) + (n5 : Int))) : Mk)).P W.heap.size W'.heap.size W' v (upd x 21 v) → K' ⟨#[Value.agg #[Value.slice a1 xs.length c1, Value.slice a2 ys.length c2, Value.slice a3 is.length c3, Value.slice a4 bs.length c4], Value.pointer (some { block := w.heap.size, off := 0 }), Value.bool false, x 0, x 1, x 2, x 3, x 4, x 5, x 6, x 7, x 8, x 9, x 10, x 11, x 12, x 13, x 14, x 15, x 16, x 17, x 18, x 19, x 20, v, x 22, undef], []⟩ W') := fun v W' h1 h2 => hK' _ _ (hK v W' h1 h2)
      have e18 : x 18 = .int .i64 ((n1 : Int) + (n2 : Int) + (n3 : Int) + (n4 : Int)) := hp.post 18 (hd 18 (show 18 ∈ [18, 20, 7] from by decide))
      have e20 : x 20 = .int .i64 ((n5 : Int)) := hp.post 20 (hd 20 (show 20 ∈ [18, 20, 7] from by decide))
      have e7 : x 7 = .bool true := hp.post 7 (hd 7 (show 7 ∈ [18, 20, 7] from by decide))
      clear hK hK' hp hd
      simp only [e18, e20, e7] at HK ⊢
      go_simp
      exact HK.out _ _ (Below.refl _ _) rfl
    · refine wpOp_step (o := _) rfl fun K' hK' => ?_
      have HK : Hid (∀ v W', Below W.heap.size W W' → ((Mk.const [21, 7] (.bool (((n1 : Int) + (n2 : Int) + (n3 : Int) + (n4 : Int) + (n5 : Int)) == 0)) : Mk)).P W.heap.size W'.heap.size W' v (upd x 22 v) → K' ⟨#[Value.agg #[Value.slice a1 xs.length c1, Value.slice a2 ys.length c2, Value.slice a3 is.length c3, Value.slice a4 bs.length c4], Value.pointer (some { block := w.heap.size, off := 0 }), Value.bool false, x 0, x 1, x 2, x 3, x 4, x 5, x 6, x 7, x 8, x 9, x 10, x 11, x 12, x 13, x 14, x 15, x 16, x 17, x 18, x 19, x 20, x 21, v, undef], []⟩ W') := fun v W' h1 h2 => hK' _ _ (hK v W' h1 h2)
      have e21 : x 21 = .int .i64 ((n1 : Int) + (n2 : Int) + (n3 : Int) + (n4 : Int) + (n5 : Int)) := hp.post 21 (hd 21 (show 21 ∈ [21, 7] from by decide))
      have e7 : x 7 = .bool true := hp.post 7 (hd 7 (show 7 ∈ [21, 7] from by decide))
      clear hK hK' hp hd
      simp only [e21, e7] at HK ⊢
      go_simp
      exact HK.out _ _ (Below.refl _ _) rfl
  · intro x iw W hp
    have e7 : x 7 = .bool true := hp.post 7 (by decide)
    have e22 : x 22 = .bool (((n1 : Int) + (n2 : Int) + (n3 : Int) + (n4 : Int) + (n5 : Int)) == 0) := hp.post 22 (by decide)
    have HB := hide (HW.out W hp.bel).2
    simp only [e7, e22]
    clear hp e7 e22
    go_wp2_with fail
    try rw [List.filterMap_nil]
    try go_wp2
    go_ret
    exact ⟨rfl, HB.out⟩
end Go.Proofs.YtljooldjcefkoaaGreat
