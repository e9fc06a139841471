/- Texts of the proof, bundled: Ei. -/
import Derived.Test.YtljooldjcefkoaaGreatUExactDisk03
import Derived.Test.YtljooldjcefkoaaGreatU19
/- impl.ExactDisk by its contract. -/
namespace Go.Proofs.YtljooldjcefkoaaGreat.Kit
open Go.RowKit
/-- Bits of its own. -/
def MkBt (ds : List Nat) (fx fy : List Bool) : Mk := .val ds (fun _ _ w v => ∃ a c a' c', v = .agg #[.slice a fx.length c, .slice a' fy.length c'] ∧ RFl w (.slice a fx.length c) fx ∧ RFl w (.slice a' fy.length c') fy)
  (fun _ _ _ _ _ h hb => by obtain ⟨a, c, a', c', e, h1, h2⟩ := h; exact ⟨a, c, a', c', e, h1.below hb (Nat.le_refl _), h2.below hb (Nat.le_refl _)⟩)
/-- Numbers. -/
def MkIn (ds : List Nat) (l : List Int) : Mk := .val ds (fun _ _ w v => ∃ a c, v = .slice a l.length c ∧ RInts w (.slice a l.length c) l) (fun _ _ _ _ _ h hb => by obtain ⟨a, c, e, h1⟩ := h; exact ⟨a, c, e, h1.below hb (Nat.le_refl _)⟩)
/-- Numbers and a closure. -/
def MkCk (ds : List Nat) (l : List Int) (F : Value) : Mk := .val ds (fun _ _ w v => ∃ a c, v = .agg #[.slice a l.length c, F] ∧ RInts w (.slice a l.length c) l) (fun _ _ _ _ _ h hb => by obtain ⟨a, c, e, h1⟩ := h; exact ⟨a, c, e, h1.below hb (Nat.le_refl _)⟩)
end Go.Proofs.YtljooldjcefkoaaGreat.Kit
namespace Go.Proofs.YtljooldjcefkoaaGreat
open Go.RowKit Kit
theorem eg41 : ∀ args w, (callFunc 41 args).run Tryz.prog w = .ok (.enter 41 args) w := enters_of Tryz.func41 (by kernel_rfl) rfl
set_option maxRecDepth 100000 in
set_option maxHeartbeats 12800000 in
theorem implExact_any (dx dy iv bv : Value) (xs ys : List Bool) (is : List Ino) (bs : List Blk) (w : World) (h : DR w dx dy iv bv xs ys is bs) (hG : Big 1048576 xs ys is bs) :
    Calls Tryz.prog 11 #[.agg #[dx, dy, iv, bv]] w fun e w' => e = .returned (.bool (exactB xs ys is bs)) ∧ Below w.heap.size w w' := by
  obtain ⟨a1, c1, a2, c2, a3, c3, a4, c4, rfl, rfl, rfl, rfl⟩ := h.form
  have hmf : ∀ (fn : Fn) (first cap : Array Value) (w : World), (Instr.makeFunc fn first cap).run Tryz.prog w = .ok (.func fn first cap) w := fun _ _ _ _ => rfl
  obtain ⟨W0, hW0⟩ : ∃ W, (w.alloc (.cells #[.slice a1 xs.length c1, .slice a2 ys.length c2, .slice a3 is.length c3, .slice a4 bs.length c4] 35)) = W := ⟨_, rfl⟩
  have HA : Hid (AtC W0 w.heap.size 35 #[.slice a1 xs.length c1, .slice a2 ys.length c2, .slice a3 is.length c3, .slice a4 bs.length c4] ∧ Below w.heap.size w W0) := by
    rw [← hW0]
    exact ⟨AtC.new w 35 _, (Below.refl _ w).alloc (Nat.le_refl _) _⟩
  have HW : Hid (∀ W, Below W0.drew.heap.size W0.drew W → AtC W w.heap.size 35 #[.slice a1 xs.length c1, .slice a2 ys.length c2, .slice a3 is.length c3, .slice a4 bs.length c4] ∧ Below w.heap.size w W) := fun W b => ⟨HA.out.1.drew.over b, HA.out.2.drew.trans (b.mono HA.out.2.drew.size)⟩
  have CO := hide (fun (W : World) (hb : Below w.heap.size w W) => implSafe_any (.slice a1 xs.length c1) (.slice a2 ys.length c2) (.slice a3 is.length c3) (.slice a4 bs.length c4) xs ys is bs W (h.below hb (Nat.le_refl _)) hG)
  cases hsf : safeB xs ys is bs with
  | false =>
    have HFX : Hid (exactB xs ys is bs = false) := hide (by unfold exactB; rw [hsf]; rfl)
    simp only [hsf] at CO
    clear h hG hsf hmf
    go_enter Tryz.func11, Tryz.ntmps11
    go_upto_region 1 with fail
    clear hW0
    refine wp_region_alt (by kernel_rfl) [0, 1, 2, 3, 4, 5, 6, 7, 8, 9, 10, 11, 12, 13, 14, 15] [16, 17] [] (fun i => match i with | 0 => .const [] (.agg #[.slice a1 xs.length c1, .slice a2 ys.length c2, .slice a3 is.length c3, .slice a4 bs.length c4]) | 1 => .const [0] (.bool false) | 2 => .const [1] (.bool false) | 3 => .val [2] (fun _ _ _ _ => True) (fun _ _ _ _ _ _ _ => trivial) | 4 => .val [2] (fun _ _ _ _ => True) (fun _ _ _ _ _ _ _ => trivial) | 5 => .val [2] (fun _ _ _ _ => True) (fun _ _ _ _ _ _ _ => trivial) | 6 => .val [2] (fun _ _ _ _ => True) (fun _ _ _ _ _ _ _ => trivial) | 7 => .val [2] (fun _ _ _ _ => True) (fun _ _ _ _ _ _ _ => trivial) | 8 => .const [2] (.bool false) | 9 => .const [8] (.bool false) | 10 => .val [9] (fun _ _ _ _ => True) (fun _ _ _ _ _ _ _ => trivial) | 11 => .val [9] (fun _ _ _ _ => True) (fun _ _ _ _ _ _ _ => trivial) | 12 => .val [9] (fun _ _ _ _ => True) (fun _ _ _ _ _ _ _ => trivial) | 13 => .val [9] (fun _ _ _ _ => True) (fun _ _ _ _ _ _ _ => trivial) | 14 => .val [9] (fun _ _ _ _ => True) (fun _ _ _ _ _ _ _ => trivial) | 15 => .val [9] (fun _ _ _ _ => True) (fun _ _ _ _ _ _ _ => trivial) | _ => .triv) (fun x => ⟨#[Value.agg #[Value.slice a1 xs.length c1, Value.slice a2 ys.length c2, Value.slice a3 is.length c3, Value.slice a4 bs.length c4], Value.pointer (some { block := w.heap.size, off := 0 }), Value.bool false, x 0, x 1, x 2, x 3, x 4, x 5, x 6, x 7, x 8, x 9, x 10, x 11, x 12, x 13, x 14, x 15, undef], []⟩) (fun i => match i with | 0 => undef | 1 => undef | 2 => undef | 3 => undef | 4 => undef | 5 => undef | 6 => undef | 7 => undef | 8 => undef | 9 => undef | 10 => undef | 11 => undef | 12 => undef | 13 => undef | 14 => undef | 15 => undef | _ => undef) rfl (makersOk2_of (by kernel_rfl) (by kernel_rfl)) (by kernel_rfl) (by kernel_rfl) (by kernel_rfl) rfl ?_ ?_ (by intro q hq; cases hq)
    · intro jo hj so x iw W hd hp K hK
      simp only [List.mem_cons, List.not_mem_nil, or_false] at hj
      rcases hj with rfl | rfl | rfl | rfl | rfl | rfl | rfl | rfl | rfl | rfl | rfl | rfl | rfl | rfl | rfl | rfl
      · refine wpOp_step (o := _) rfl fun K' hK' => ?_
        have HK : Hid (∀ v W', Below W.heap.size W W' → ((Mk.const [] (.agg #[.slice a1 xs.length c1, .slice a2 ys.length c2, .slice a3 is.length c3, .slice a4 bs.length c4]) : Mk)).P W.heap.size W'.heap.size W' v (upd x 0 v) → K' ⟨#[Value.agg #[Value.slice a1 xs.length c1, Value.slice a2 ys.length c2, Value.slice a3 is.length c3, Value.slice a4 bs.length c4], Value.pointer (some { block := w.heap.size, off := 0 }), Value.bool false, v, x 1, x 2, x 3, x 4, x 5, x 6, x 7, x 8, x 9, x 10, x 11, x 12, x 13, x 14, x 15, undef], []⟩ W') := fun v W' h1 h2 => hK' _ _ (hK v W' h1 h2)
        have bw := HW.out W hp.bel
        have k0 : W.cell? ⟨w.heap.size, 0, none⟩ = some (.slice a1 xs.length c1) := bw.1.cell 0
        have k1 : W.cell? ⟨w.heap.size, 1, none⟩ = some (.slice a2 ys.length c2) := bw.1.cell 1
        have k2 : W.cell? ⟨w.heap.size, 2, none⟩ = some (.slice a3 is.length c3) := bw.1.cell 2
        have k3 : W.cell? ⟨w.heap.size, 3, none⟩ = some (.slice a4 bs.length c4) := bw.1.cell 3
        clear bw
        clear hK hK' hp hd
        go_simp
        exact HK.out _ _ (Below.refl _ _) rfl
      · refine wpOp_step (o := _) rfl fun K' hK' => ?_
        have HK : Hid (∀ v W', Below W.heap.size W W' → ((Mk.const [0] (.bool false) : Mk)).P W.heap.size W'.heap.size W' v (upd x 1 v) → K' ⟨#[Value.agg #[Value.slice a1 xs.length c1, Value.slice a2 ys.length c2, Value.slice a3 is.length c3, Value.slice a4 bs.length c4], Value.pointer (some { block := w.heap.size, off := 0 }), Value.bool false, x 0, v, x 2, x 3, x 4, x 5, x 6, x 7, x 8, x 9, x 10, x 11, x 12, x 13, x 14, x 15, undef], []⟩ W') := fun v W' h1 h2 => hK' _ _ (hK v W' h1 h2)
        have e0 : x 0 = .agg #[.slice a1 xs.length c1, .slice a2 ys.length c2, .slice a3 is.length c3, .slice a4 bs.length c4] := hp.post 0 (hd 0 (show 0 ∈ [0] from by decide))
        have dr := (HW.out W hp.bel).2
        clear hK hK' hp hd
        simp only [e0] at HK ⊢
        clear e0
        go_simp
        refine (CO.out W dr).mono ?_
        rintro e w6 ⟨rfl, B6⟩
        go_simp
        exact HK.out _ _ B6 rfl
      · refine wpOp_step (o := _) rfl fun K' hK' => ?_
        have HK : Hid (∀ v W', Below W.heap.size W W' → ((Mk.const [1] (.bool false) : Mk)).P W.heap.size W'.heap.size W' v (upd x 2 v) → K' ⟨#[Value.agg #[Value.slice a1 xs.length c1, Value.slice a2 ys.length c2, Value.slice a3 is.length c3, Value.slice a4 bs.length c4], Value.pointer (some { block := w.heap.size, off := 0 }), Value.bool false, x 0, x 1, v, x 3, x 4, x 5, x 6, x 7, x 8, x 9, x 10, x 11, x 12, x 13, x 14, x 15, undef], []⟩ W') := fun v W' h1 h2 => hK' _ _ (hK v W' h1 h2)
        have e1 : x 1 = .bool false := hp.post 1 (hd 1 (show 1 ∈ [1] from by decide))
        clear hK hK' hp hd
        simp only [e1] at HK ⊢
        go_simp
        exact HK.out _ _ (Below.refl _ _) rfl
      · refine wpOp_step (o := _) rfl fun K' hK' => ?_
        have HK : Hid (∀ v W', Below W.heap.size W W' → ((Mk.val [2] (fun _ _ _ _ => True) (fun _ _ _ _ _ _ _ => trivial) : Mk)).P W.heap.size W'.heap.size W' v (upd x 3 v) → K' ⟨#[Value.agg #[Value.slice a1 xs.length c1, Value.slice a2 ys.length c2, Value.slice a3 is.length c3, Value.slice a4 bs.length c4], Value.pointer (some { block := w.heap.size, off := 0 }), Value.bool false, x 0, x 1, x 2, v, x 4, x 5, x 6, x 7, x 8, x 9, x 10, x 11, x 12, x 13, x 14, x 15, undef], []⟩ W') := fun v W' h1 h2 => hK' _ _ (hK v W' h1 h2)
        have e2 : x 2 = .bool false := hp.post 2 (hd 2 (show 2 ∈ [2] from by decide))
        clear hK hK' hp hd
        simp only [e2] at HK ⊢
        go_simp
        exact HK.out _ _ (Below.refl _ _) trivial
      · refine wpOp_step (o := _) rfl fun K' hK' => ?_
        have HK : Hid (∀ v W', Below W.heap.size W W' → ((Mk.val [2] (fun _ _ _ _ => True) (fun _ _ _ _ _ _ _ => trivial) : Mk)).P W.heap.size W'.heap.size W' v (upd x 4 v) → K' ⟨#[Value.agg #[Value.slice a1 xs.length c1, Value.slice a2 ys.length c2, Value.slice a3 is.length c3, Value.slice a4 bs.length c4], Value.pointer (some { block := w.heap.size, off := 0 }), Value.bool false, x 0, x 1, x 2, x 3, v, x 5, x 6, x 7, x 8, x 9, x 10, x 11, x 12, x 13, x 14, x 15, undef], []⟩ W') := fun v W' h1 h2 => hK' _ _ (hK v W' h1 h2)
        have e2 : x 2 = .bool false := hp.post 2 (hd 2 (show 2 ∈ [2] from by decide))
        clear hK hK' hp hd
        simp only [e2] at HK ⊢
        go_simp
        exact HK.out _ _ (Below.refl _ _) trivial
      · refine wpOp_step (o := _) rfl fun K' hK' => ?_
        have HK : Hid (∀ v W', Below W.heap.size W W' → ((Mk.val [2] (fun _ _ _ _ => True) (fun _ _ _ _ _ _ _ => trivial) : Mk)).P W.heap.size W'.heap.size W' v (upd x 5 v) → K' ⟨#[Value.agg #[Value.slice a1 xs.length c1, Value.slice a2 ys.length c2, Value.slice a3 is.length c3, Value.slice a4 bs.length c4], Value.pointer (some { block := w.heap.size, off := 0 }), Value.bool false, x 0, x 1, x 2, x 3, x 4, v, x 6, x 7, x 8, x 9, x 10, x 11, x 12, x 13, x 14, x 15, undef], []⟩ W') := fun v W' h1 h2 => hK' _ _ (hK v W' h1 h2)
        have e2 : x 2 = .bool false := hp.post 2 (hd 2 (show 2 ∈ [2] from by decide))
        clear hK hK' hp hd
        simp only [e2] at HK ⊢
        go_simp
        exact HK.out _ _ (Below.refl _ _) trivial
      · refine wpOp_step (o := _) rfl fun K' hK' => ?_
        have HK : Hid (∀ v W', Below W.heap.size W W' → ((Mk.val [2] (fun _ _ _ _ => True) (fun _ _ _ _ _ _ _ => trivial) : Mk)).P W.heap.size W'.heap.size W' v (upd x 6 v) → K' ⟨#[Value.agg #[Value.slice a1 xs.length c1, Value.slice a2 ys.length c2, Value.slice a3 is.length c3, Value.slice a4 bs.length c4], Value.pointer (some { block := w.heap.size, off := 0 }), Value.bool false, x 0, x 1, x 2, x 3, x 4, x 5, v, x 7, x 8, x 9, x 10, x 11, x 12, x 13, x 14, x 15, undef], []⟩ W') := fun v W' h1 h2 => hK' _ _ (hK v W' h1 h2)
        have e2 : x 2 = .bool false := hp.post 2 (hd 2 (show 2 ∈ [2] from by decide))
        clear hK hK' hp hd
        simp only [e2] at HK ⊢
        go_simp
        exact HK.out _ _ (Below.refl _ _) trivial
      · refine wpOp_step (o := _) rfl fun K' hK' => ?_
        have HK : Hid (∀ v W', Below W.heap.size W W' → ((Mk.val [2] (fun _ _ _ _ => True) (fun _ _ _ _ _ _ _ => trivial) : Mk)).P W.heap.size W'.heap.size W' v (upd x 7 v) → K' ⟨#[Value.agg #[Value.slice a1 xs.length c1, Value.slice a2 ys.length c2, Value.slice a3 is.length c3, Value.slice a4 bs.length c4], Value.pointer (some { block := w.heap.size, off := 0 }), Value.bool false, x 0, x 1, x 2, x 3, x 4, x 5, x 6, v, x 8, x 9, x 10, x 11, x 12, x 13, x 14, x 15, undef], []⟩ W') := fun v W' h1 h2 => hK' _ _ (hK v W' h1 h2)
        have e2 : x 2 = .bool false := hp.post 2 (hd 2 (show 2 ∈ [2] from by decide))
        clear hK hK' hp hd
        simp only [e2] at HK ⊢
        go_simp
        exact HK.out _ _ (Below.refl _ _) trivial
      · refine wpOp_step (o := _) rfl fun K' hK' => ?_
        have HK : Hid (∀ v W', Below W.heap.size W W' → ((Mk.const [2] (.bool false) : Mk)).P W.heap.size W'.heap.size W' v (upd x 8 v) → K' ⟨#[Value.agg #[Value.slice a1 xs.length c1, Value.slice a2 ys.length c2, Value.slice a3 is.length c3, Value.slice a4 bs.length c4], Value.pointer (some { block := w.heap.size, off := 0 }), Value.bool false, x 0, x 1, x 2, x 3, x 4, x 5, x 6, x 7, v, x 9, x 10, x 11, x 12, x 13, x 14, x 15, undef], []⟩ W') := fun v W' h1 h2 => hK' _ _ (hK v W' h1 h2)
        have e2 : x 2 = .bool false := hp.post 2 (hd 2 (show 2 ∈ [2] from by decide))
        clear hK hK' hp hd
        simp only [e2] at HK ⊢
        go_simp
        exact HK.out _ _ (Below.refl _ _) rfl
      · refine wpOp_step (o := _) rfl fun K' hK' => ?_
        have HK : Hid (∀ v W', Below W.heap.size W W' → ((Mk.const [8] (.bool false) : Mk)).P W.heap.size W'.heap.size W' v (upd x 9 v) → K' ⟨#[Value.agg #[Value.slice a1 xs.length c1, Value.slice a2 ys.length c2, Value.slice a3 is.length c3, Value.slice a4 bs.length c4], Value.pointer (some { block := w.heap.size, off := 0 }), Value.bool false, x 0, x 1, x 2, x 3, x 4, x 5, x 6, x 7, x 8, v, x 10, x 11, x 12, x 13, x 14, x 15, undef], []⟩ W') := fun v W' h1 h2 => hK' _ _ (hK v W' h1 h2)
        have e8 : x 8 = .bool false := hp.post 8 (hd 8 (show 8 ∈ [8] from by decide))
        clear hK hK' hp hd
        simp only [e8] at HK ⊢
        go_simp
        exact HK.out _ _ (Below.refl _ _) rfl
      · refine wpOp_step (o := _) rfl fun K' hK' => ?_
        have HK : Hid (∀ v W', Below W.heap.size W W' → ((Mk.val [9] (fun _ _ _ _ => True) (fun _ _ _ _ _ _ _ => trivial) : Mk)).P W.heap.size W'.heap.size W' v (upd x 10 v) → K' ⟨#[Value.agg #[Value.slice a1 xs.length c1, Value.slice a2 ys.length c2, Value.slice a3 is.length c3, Value.slice a4 bs.length c4], Value.pointer (some { block := w.heap.size, off := 0 }), Value.bool false, x 0, x 1, x 2, x 3, x 4, x 5, x 6, x 7, x 8, x 9, v, x 11, x 12, x 13, x 14, x 15, undef], []⟩ W') := fun v W' h1 h2 => hK' _ _ (hK v W' h1 h2)
        have e9 : x 9 = .bool false := hp.post 9 (hd 9 (show 9 ∈ [9] from by decide))
        clear hK hK' hp hd
        simp only [e9] at HK ⊢
        go_simp
        exact HK.out _ _ (Below.refl _ _) trivial
      · refine wpOp_step (o := _) rfl fun K' hK' => ?_
        have HK : Hid (∀ v W', Below W.heap.size W W' → ((Mk.val [9] (fun _ _ _ _ => True) (fun _ _ _ _ _ _ _ => trivial) : Mk)).P W.heap.size W'.heap.size W' v (upd x 11 v) → K' ⟨#[Value.agg #[Value.slice a1 xs.length c1, Value.slice a2 ys.length c2, Value.slice a3 is.length c3, Value.slice a4 bs.length c4], Value.pointer (some { block := w.heap.size, off := 0 }), Value.bool false, x 0, x 1, x 2, x 3, x 4, x 5, x 6, x 7, x 8, x 9, x 10, v, x 12, x 13, x 14, x 15, undef], []⟩ W') := fun v W' h1 h2 => hK' _ _ (hK v W' h1 h2)
        have e9 : x 9 = .bool false := hp.post 9 (hd 9 (show 9 ∈ [9] from by decide))
        clear hK hK' hp hd
        simp only [e9] at HK ⊢
        go_simp
        exact HK.out _ _ (Below.refl _ _) trivial
      · refine wpOp_step (o := _) rfl fun K' hK' => ?_
        have HK : Hid (∀ v W', Below W.heap.size W W' → ((Mk.val [9] (fun _ _ _ _ => True) (fun _ _ _ _ _ _ _ => trivial) : Mk)).P W.heap.size W'.heap.size W' v (upd x 12 v) → K' ⟨#[Value.agg #[Value.slice a1 xs.length c1, Value.slice a2 ys.length c2, Value.slice a3 is.length c3, Value.slice a4 bs.length c4], Value.pointer (some { block := w.heap.size, off := 0 }), Value.bool false, x 0, x 1, x 2, x 3, x 4, x 5, x 6, x 7, x 8, x 9, x 10, x 11, v, x 13, x 14, x 15, undef], []⟩ W') := fun v W' h1 h2 => hK' _ _ (hK v W' h1 h2)
        have e9 : x 9 = .bool false := hp.post 9 (hd 9 (show 9 ∈ [9] from by decide))
        clear hK hK' hp hd
        simp only [e9] at HK ⊢
        go_simp
        exact HK.out _ _ (Below.refl _ _) trivial
      · refine wpOp_step (o := _) rfl fun K' hK' => ?_
        have HK : Hid (∀ v W', Below W.heap.size W W' → ((Mk.val [9] (fun _ _ _ _ => True) (fun _ _ _ _ _ _ _ => trivial) : Mk)).P W.heap.size W'.heap.size W' v (upd x 13 v) → K' ⟨#[Value.agg #[Value.slice a1 xs.length c1, Value.slice a2 ys.length c2, Value.slice a3 is.length c3, Value.slice a4 bs.length c4], Value.pointer (some { block := w.heap.size, off := 0 }), Value.bool false, x 0, x 1, x 2, x 3, x 4, x 5, x 6, x 7, x 8, x 9, x 10, x 11, x 12, v, x 14, x 15, undef], []⟩ W') := fun v W' h1 h2 => hK' _ _ (hK v W' h1 h2)
        have e9 : x 9 = .bool false := hp.post 9 (hd 9 (show 9 ∈ [9] from by decide))
        clear hK hK' hp hd
        simp only [e9] at HK ⊢
        go_simp
        exact HK.out _ _ (Below.refl _ _) trivial
      · refine wpOp_step (o := _) rfl fun K' hK' => ?_
        have HK : Hid (∀ v W', Below W.heap.size W W' → ((Mk.val [9] (fun _ _ _ _ => True) (fun _ _ _ _ _ _ _ => trivial) : Mk)).P W.heap.size W'.heap.size W' v (upd x 14 v) → K' ⟨#[Value.agg #[Value.slice a1 xs.length c1, Value.slice a2 ys.length c2, Value.slice a3 is.length c3, Value.slice a4 bs.length c4], Value.pointer (some { block := w.heap.size, off := 0 }), Value.bool false, x 0, x 1, x 2, x 3, x 4, x 5, x 6, x 7, x 8, x 9, x 10, x 11, x 12, x 13, v, x 15, undef], []⟩ W') := fun v W' h1 h2 => hK' _ _ (hK v W' h1 h2)
        have e9 : x 9 = .bool false := hp.post 9 (hd 9 (show 9 ∈ [9] from by decide))
        clear hK hK' hp hd
        simp only [e9] at HK ⊢
        go_simp
        exact HK.out _ _ (Below.refl _ _) trivial
      · refine wpOp_step (o := _) rfl fun K' hK' => ?_
        have HK : Hid (∀ v W', Below W.heap.size W W' → ((Mk.val [9] (fun _ _ _ _ => True) (fun _ _ _ _ _ _ _ => trivial) : Mk)).P W.heap.size W'.heap.size W' v (upd x 15 v) → K' ⟨#[Value.agg #[Value.slice a1 xs.length c1, Value.slice a2 ys.length c2, Value.slice a3 is.length c3, Value.slice a4 bs.length c4], Value.pointer (some { block := w.heap.size, off := 0 }), Value.bool false, x 0, x 1, x 2, x 3, x 4, x 5, x 6, x 7, x 8, x 9, x 10, x 11, x 12, x 13, x 14, v, undef], []⟩ W') := fun v W' h1 h2 => hK' _ _ (hK v W' h1 h2)
        have e9 : x 9 = .bool false := hp.post 9 (hd 9 (show 9 ∈ [9] from by decide))
        clear hK hK' hp hd
        simp only [e9] at HK ⊢
        go_simp
        exact HK.out _ _ (Below.refl _ _) trivial
    · intro x iw W hp
      have e9 : x 9 = .bool false := hp.post 9 (by decide)
      have HB := hide (HW.out W hp.bel).2
      simp only [e9]
      clear hp e9
      go_wp2_with fail
      try rw [List.filterMap_nil]
      try go_wp2
      go_ret
      exact ⟨by rw [HFX.out]; rfl, HB.out⟩
  | true =>
  simp only [hsf] at CO
  have hsf' : diskOk xs ys is bs = true ∧ kindAt is 1 = 2 := by
    unfold safeB at hsf
    rw [Bool.and_eq_true, decide_eq_true_eq] at hsf
    exact ⟨hsf.1, hsf.2.1⟩
  have hX := RX.of_ok hsf'.1
  have HEX : Hid (exactB xs ys is bs = (decide (xs = fB is bs) && decide (ys = fI is bs) && decide (exN is bs = 0))) := hide (by unfold exactB; rw [hsf, Bool.true_and, exact_two hX hsf'.2])
  have CB := hide (fun (W : World) (hb : Below w.heap.size w W) => rBits_any (.slice a1 xs.length c1) (.slice a2 ys.length c2) (.slice a3 is.length c3) (.slice a4 bs.length c4) xs ys is bs W (h.below hb (Nat.le_refl _)) hX)
  have CS : Hid (∀ (W : World) (u v : Value), Below w.heap.size w W → RFl W u (fB is bs) → RFl W v (fI is bs) → Calls Tryz.prog 38 #[.agg #[.slice a1 xs.length c1, .slice a2 ys.length c2], .agg #[u, v]] W fun e w' => e = .returned (.bool (decide (xs = fB is bs) && decide (ys = fI is bs))) ∧ Below W.heap.size W w') := fun W u v hb h1 h2 => sameB_any _ _ _ _ xs ys (fB is bs) (fI is bs) W (h.below hb (Nat.le_refl _)).a (h.below hb (Nat.le_refl _)).b h1 h2 hX.bx hX.y8 (by simp [fB]) (by simp [fI])
  obtain ⟨sb, hsb⟩ : ∃ b, (decide (xs = fB is bs) && decide (ys = fI is bs)) = b := ⟨_, rfl⟩
  simp only [hsb] at CS HEX
  have hfB : (fB is bs).length = 16 := by simp [fB]
  have hfI : (fI is bs).length = 8 := by simp [fI]
  cases sb with
  | false =>
    have HFX : Hid (exactB xs ys is bs = false) := hide (by rw [HEX.out]; rfl)
    clear h hG hsf hsf' hX hsb hmf HEX
    go_enter Tryz.func11, Tryz.ntmps11
    go_upto_region 1 with fail
    clear hW0
    refine wp_region_alt (by kernel_rfl) [0, 1, 2, 3, 4, 5, 6, 7, 8, 9, 10, 11, 12, 13, 14, 15] [16, 17] [] (fun i => match i with | 0 => .const [] (.agg #[.slice a1 xs.length c1, .slice a2 ys.length c2, .slice a3 is.length c3, .slice a4 bs.length c4]) | 1 => .const [0] (.bool true) | 2 => .const [1] (.bool true) | 3 => .const [2] (.pointer (some ⟨w.heap.size, 0, none⟩)) | 4 => .const [3, 2] (.agg #[.slice a1 xs.length c1, .slice a2 ys.length c2]) | 5 => .const [2] (.agg #[.slice a1 xs.length c1, .slice a2 ys.length c2, .slice a3 is.length c3, .slice a4 bs.length c4]) | 6 => MkBt [5, 2] (fB is bs) (fI is bs) | 7 => .const [4, 6, 2] (.bool false) | 8 => .const [2, 7] (.bool false) | 9 => .const [8] (.bool false) | 10 => .val [9] (fun _ _ _ _ => True) (fun _ _ _ _ _ _ _ => trivial) | 11 => .val [9] (fun _ _ _ _ => True) (fun _ _ _ _ _ _ _ => trivial) | 12 => .val [9] (fun _ _ _ _ => True) (fun _ _ _ _ _ _ _ => trivial) | 13 => .val [9] (fun _ _ _ _ => True) (fun _ _ _ _ _ _ _ => trivial) | 14 => .val [9] (fun _ _ _ _ => True) (fun _ _ _ _ _ _ _ => trivial) | 15 => .val [9] (fun _ _ _ _ => True) (fun _ _ _ _ _ _ _ => trivial) | _ => .triv) (fun x => ⟨#[Value.agg #[Value.slice a1 xs.length c1, Value.slice a2 ys.length c2, Value.slice a3 is.length c3, Value.slice a4 bs.length c4], Value.pointer (some { block := w.heap.size, off := 0 }), Value.bool false, x 0, x 1, x 2, x 3, x 4, x 5, x 6, x 7, x 8, x 9, x 10, x 11, x 12, x 13, x 14, x 15, undef], []⟩) (fun i => match i with | 0 => undef | 1 => undef | 2 => undef | 3 => undef | 4 => undef | 5 => undef | 6 => undef | 7 => undef | 8 => undef | 9 => undef | 10 => undef | 11 => undef | 12 => undef | 13 => undef | 14 => undef | 15 => undef | _ => undef) rfl (makersOk2_of (by kernel_rfl) (by kernel_rfl)) (by kernel_rfl) (by kernel_rfl) (by kernel_rfl) rfl ?_ ?_ (by intro q hq; cases hq)
    · intro jo hj so x iw W hd hp K hK
      simp only [List.mem_cons, List.not_mem_nil, or_false] at hj
      rcases hj with rfl | rfl | rfl | rfl | rfl | rfl | rfl | rfl | rfl | rfl | rfl | rfl | rfl | rfl | rfl | rfl
      · refine wpOp_step (o := _) rfl fun K' hK' => ?_
        have HK : Hid (∀ v W', Below W.heap.size W W' → ((Mk.const [] (.agg #[.slice a1 xs.length c1, .slice a2 ys.length c2, .slice a3 is.length c3, .slice a4 bs.length c4]) : Mk)).P W.heap.size W'.heap.size W' v (upd x 0 v) → K' ⟨#[Value.agg #[Value.slice a1 xs.length c1, Value.slice a2 ys.length c2, Value.slice a3 is.length c3, Value.slice a4 bs.length c4], Value.pointer (some { block := w.heap.size, off := 0 }), Value.bool false, v, x 1, x 2, x 3, x 4, x 5, x 6, x 7, x 8, x 9, x 10, x 11, x 12, x 13, x 14, x 15, undef], []⟩ W') := fun v W' h1 h2 => hK' _ _ (hK v W' h1 h2)
        have bw := HW.out W hp.bel
        have k0 : W.cell? ⟨w.heap.size, 0, none⟩ = some (.slice a1 xs.length c1) := bw.1.cell 0
        have k1 : W.cell? ⟨w.heap.size, 1, none⟩ = some (.slice a2 ys.length c2) := bw.1.cell 1
        have k2 : W.cell? ⟨w.heap.size, 2, none⟩ = some (.slice a3 is.length c3) := bw.1.cell 2
        have k3 : W.cell? ⟨w.heap.size, 3, none⟩ = some (.slice a4 bs.length c4) := bw.1.cell 3
        clear bw
        clear hK hK' hp hd
        go_simp
        exact HK.out _ _ (Below.refl _ _) rfl
      · refine wpOp_step (o := _) rfl fun K' hK' => ?_
        have HK : Hid (∀ v W', Below W.heap.size W W' → ((Mk.const [0] (.bool true) : Mk)).P W.heap.size W'.heap.size W' v (upd x 1 v) → K' ⟨#[Value.agg #[Value.slice a1 xs.length c1, Value.slice a2 ys.length c2, Value.slice a3 is.length c3, Value.slice a4 bs.length c4], Value.pointer (some { block := w.heap.size, off := 0 }), Value.bool false, x 0, v, x 2, x 3, x 4, x 5, x 6, x 7, x 8, x 9, x 10, x 11, x 12, x 13, x 14, x 15, undef], []⟩ W') := fun v W' h1 h2 => hK' _ _ (hK v W' h1 h2)
        have e0 : x 0 = .agg #[.slice a1 xs.length c1, .slice a2 ys.length c2, .slice a3 is.length c3, .slice a4 bs.length c4] := hp.post 0 (hd 0 (show 0 ∈ [0] from by decide))
        have dr := (HW.out W hp.bel).2
        clear hK hK' hp hd
        simp only [e0] at HK ⊢
        clear e0
        go_simp
        refine (CO.out W dr).mono ?_
        rintro e w6 ⟨rfl, B6⟩
        go_simp
        exact HK.out _ _ B6 rfl
      · refine wpOp_step (o := _) rfl fun K' hK' => ?_
        have HK : Hid (∀ v W', Below W.heap.size W W' → ((Mk.const [1] (.bool true) : Mk)).P W.heap.size W'.heap.size W' v (upd x 2 v) → K' ⟨#[Value.agg #[Value.slice a1 xs.length c1, Value.slice a2 ys.length c2, Value.slice a3 is.length c3, Value.slice a4 bs.length c4], Value.pointer (some { block := w.heap.size, off := 0 }), Value.bool false, x 0, x 1, v, x 3, x 4, x 5, x 6, x 7, x 8, x 9, x 10, x 11, x 12, x 13, x 14, x 15, undef], []⟩ W') := fun v W' h1 h2 => hK' _ _ (hK v W' h1 h2)
        have e1 : x 1 = .bool true := hp.post 1 (hd 1 (show 1 ∈ [1] from by decide))
        clear hK hK' hp hd
        simp only [e1] at HK ⊢
        go_simp
        exact HK.out _ _ (Below.refl _ _) rfl
      · refine wpOp_step (o := _) rfl fun K' hK' => ?_
        have HK : Hid (∀ v W', Below W.heap.size W W' → ((Mk.const [2] (.pointer (some ⟨w.heap.size, 0, none⟩)) : Mk)).P W.heap.size W'.heap.size W' v (upd x 3 v) → K' ⟨#[Value.agg #[Value.slice a1 xs.length c1, Value.slice a2 ys.length c2, Value.slice a3 is.length c3, Value.slice a4 bs.length c4], Value.pointer (some { block := w.heap.size, off := 0 }), Value.bool false, x 0, x 1, x 2, v, x 4, x 5, x 6, x 7, x 8, x 9, x 10, x 11, x 12, x 13, x 14, x 15, undef], []⟩ W') := fun v W' h1 h2 => hK' _ _ (hK v W' h1 h2)
        have e2 : x 2 = .bool true := hp.post 2 (hd 2 (show 2 ∈ [2] from by decide))
        clear hK hK' hp hd
        simp only [e2] at HK ⊢
        go_simp
        exact HK.out _ _ (Below.refl _ _) rfl
      · refine wpOp_step (o := _) rfl fun K' hK' => ?_
        have HK : Hid (∀ v W', Below W.heap.size W W' → ((Mk.const [3, 2] (.agg #[.slice a1 xs.length c1, .slice a2 ys.length c2]) : Mk)).P W.heap.size W'.heap.size W' v (upd x 4 v) → K' ⟨#[Value.agg #[Value.slice a1 xs.length c1, Value.slice a2 ys.length c2, Value.slice a3 is.length c3, Value.slice a4 bs.length c4], Value.pointer (some { block := w.heap.size, off := 0 }), Value.bool false, x 0, x 1, x 2, x 3, v, x 5, x 6, x 7, x 8, x 9, x 10, x 11, x 12, x 13, x 14, x 15, undef], []⟩ W') := fun v W' h1 h2 => hK' _ _ (hK v W' h1 h2)
        have e3 : x 3 = .pointer (some ⟨w.heap.size, 0, none⟩) := hp.post 3 (hd 3 (show 3 ∈ [3, 2] from by decide))
        have e2 : x 2 = .bool true := hp.post 2 (hd 2 (show 2 ∈ [3, 2] from by decide))
        have bw := HW.out W hp.bel
        have k0 : W.cell? ⟨w.heap.size, 0, none⟩ = some (.slice a1 xs.length c1) := bw.1.cell 0
        have k1 : W.cell? ⟨w.heap.size, 1, none⟩ = some (.slice a2 ys.length c2) := bw.1.cell 1
        have k2 : W.cell? ⟨w.heap.size, 2, none⟩ = some (.slice a3 is.length c3) := bw.1.cell 2
        have k3 : W.cell? ⟨w.heap.size, 3, none⟩ = some (.slice a4 bs.length c4) := bw.1.cell 3
        clear bw
        clear hK hK' hp hd
        simp only [e3, e2] at HK ⊢
        go_simp
        exact HK.out _ _ (Below.refl _ _) rfl
      · refine wpOp_step (o := _) rfl fun K' hK' => ?_
        have HK : Hid (∀ v W', Below W.heap.size W W' → ((Mk.const [2] (.agg #[.slice a1 xs.length c1, .slice a2 ys.length c2, .slice a3 is.length c3, .slice a4 bs.length c4]) : Mk)).P W.heap.size W'.heap.size W' v (upd x 5 v) → K' ⟨#[Value.agg #[Value.slice a1 xs.length c1, Value.slice a2 ys.length c2, Value.slice a3 is.length c3, Value.slice a4 bs.length c4], Value.pointer (some { block := w.heap.size, off := 0 }), Value.bool false, x 0, x 1, x 2, x 3, x 4, v, x 6, x 7, x 8, x 9, x 10, x 11, x 12, x 13, x 14, x 15, undef], []⟩ W') := fun v W' h1 h2 => hK' _ _ (hK v W' h1 h2)
        have e2 : x 2 = .bool true := hp.post 2 (hd 2 (show 2 ∈ [2] from by decide))
        have bw := HW.out W hp.bel
        have k0 : W.cell? ⟨w.heap.size, 0, none⟩ = some (.slice a1 xs.length c1) := bw.1.cell 0
        have k1 : W.cell? ⟨w.heap.size, 1, none⟩ = some (.slice a2 ys.length c2) := bw.1.cell 1
        have k2 : W.cell? ⟨w.heap.size, 2, none⟩ = some (.slice a3 is.length c3) := bw.1.cell 2
        have k3 : W.cell? ⟨w.heap.size, 3, none⟩ = some (.slice a4 bs.length c4) := bw.1.cell 3
        clear bw
        clear hK hK' hp hd
        simp only [e2] at HK ⊢
        go_simp
        exact HK.out _ _ (Below.refl _ _) rfl
      · refine wpOp_step (o := _) rfl fun K' hK' => ?_
        have HK : Hid (∀ v W', Below W.heap.size W W' → (MkBt [5, 2] (fB is bs) (fI is bs)).P W.heap.size W'.heap.size W' v (upd x 6 v) → K' ⟨#[Value.agg #[Value.slice a1 xs.length c1, Value.slice a2 ys.length c2, Value.slice a3 is.length c3, Value.slice a4 bs.length c4], Value.pointer (some { block := w.heap.size, off := 0 }), Value.bool false, x 0, x 1, x 2, x 3, x 4, x 5, v, x 7, x 8, x 9, x 10, x 11, x 12, x 13, x 14, x 15, undef], []⟩ W') := fun v W' h1 h2 => hK' _ _ (hK v W' h1 h2)
        have e5 : x 5 = .agg #[.slice a1 xs.length c1, .slice a2 ys.length c2, .slice a3 is.length c3, .slice a4 bs.length c4] := hp.post 5 (hd 5 (show 5 ∈ [5, 2] from by decide))
        have e2 : x 2 = .bool true := hp.post 2 (hd 2 (show 2 ∈ [5, 2] from by decide))
        have dr := (HW.out W hp.bel).2
        clear hK hK' hp hd
        simp only [e5, e2] at HK ⊢
        clear e5 e2
        go_simp
        refine (CB.out W dr).mono ?_
        rintro e w6 ⟨u, v, rfl, R1, R2, B6⟩
        obtain ⟨ua, uc, rfl⟩ : ∃ a c, u = .slice a (fB is bs).length c := by obtain ⟨p, q, e, -⟩ := R1; exact ⟨p, q, e⟩
        obtain ⟨va, vc, rfl⟩ : ∃ a c, v = .slice a (fI is bs).length c := by obtain ⟨p, q, e, -⟩ := R2; exact ⟨p, q, e⟩
        go_simp
        exact HK.out _ _ B6 ⟨ua, uc, va, vc, rfl, R1, R2⟩
      · refine wpOp_step (o := _) rfl fun K' hK' => ?_
        have HK : Hid (∀ v W', Below W.heap.size W W' → ((Mk.const [4, 6, 2] (.bool false) : Mk)).P W.heap.size W'.heap.size W' v (upd x 7 v) → K' ⟨#[Value.agg #[Value.slice a1 xs.length c1, Value.slice a2 ys.length c2, Value.slice a3 is.length c3, Value.slice a4 bs.length c4], Value.pointer (some { block := w.heap.size, off := 0 }), Value.bool false, x 0, x 1, x 2, x 3, x 4, x 5, x 6, v, x 8, x 9, x 10, x 11, x 12, x 13, x 14, x 15, undef], []⟩ W') := fun v W' h1 h2 => hK' _ _ (hK v W' h1 h2)
        have e4 : x 4 = .agg #[.slice a1 xs.length c1, .slice a2 ys.length c2] := hp.post 4 (hd 4 (show 4 ∈ [4, 6, 2] from by decide))
        have e2 : x 2 = .bool true := hp.post 2 (hd 2 (show 2 ∈ [4, 6, 2] from by decide))
        have e6 : ∃ a c a' c', x 6 = .agg #[.slice a (fB is bs).length c, .slice a' (fI is bs).length c'] ∧ RFl W (.slice a (fB is bs).length c) (fB is bs) ∧ RFl W (.slice a' (fI is bs).length c') (fI is bs) := hp.post 6 (hd 6 (show 6 ∈ [4, 6, 2] from by decide))
        have dr := (HW.out W hp.bel).2
        clear hK hK' hp hd
        obtain ⟨ua, uc, va, vc, e6, R1, R2⟩ := e6
        simp only [e4, e2, e6] at HK ⊢
        clear e4 e2 e6
        go_simp
        refine (CS.out W _ _ dr R1 R2).mono ?_
        rintro e w6 ⟨rfl, B6⟩
        go_simp
        exact HK.out _ _ B6 rfl
      · refine wpOp_step (o := _) rfl fun K' hK' => ?_
        have HK : Hid (∀ v W', Below W.heap.size W W' → ((Mk.const [2, 7] (.bool false) : Mk)).P W.heap.size W'.heap.size W' v (upd x 8 v) → K' ⟨#[Value.agg #[Value.slice a1 xs.length c1, Value.slice a2 ys.length c2, Value.slice a3 is.length c3, Value.slice a4 bs.length c4], Value.pointer (some { block := w.heap.size, off := 0 }), Value.bool false, x 0, x 1, x 2, x 3, x 4, x 5, x 6, x 7, v, x 9, x 10, x 11, x 12, x 13, x 14, x 15, undef], []⟩ W') := fun v W' h1 h2 => hK' _ _ (hK v W' h1 h2)
        have e2 : x 2 = .bool true := hp.post 2 (hd 2 (show 2 ∈ [2, 7] from by decide))
        have e7 : x 7 = .bool false := hp.post 7 (hd 7 (show 7 ∈ [2, 7] from by decide))
        clear hK hK' hp hd
        simp only [e2, e7] at HK ⊢
        go_simp
        exact HK.out _ _ (Below.refl _ _) rfl
      · refine wpOp_step (o := _) rfl fun K' hK' => ?_
        have HK : Hid (∀ v W', Below W.heap.size W W' → ((Mk.const [8] (.bool false) : Mk)).P W.heap.size W'.heap.size W' v (upd x 9 v) → K' ⟨#[Value.agg #[Value.slice a1 xs.length c1, Value.slice a2 ys.length c2, Value.slice a3 is.length c3, Value.slice a4 bs.length c4], Value.pointer (some { block := w.heap.size, off := 0 }), Value.bool false, x 0, x 1, x 2, x 3, x 4, x 5, x 6, x 7, x 8, v, x 10, x 11, x 12, x 13, x 14, x 15, undef], []⟩ W') := fun v W' h1 h2 => hK' _ _ (hK v W' h1 h2)
        have e8 : x 8 = .bool false := hp.post 8 (hd 8 (show 8 ∈ [8] from by decide))
        clear hK hK' hp hd
        simp only [e8] at HK ⊢
        go_simp
        exact HK.out _ _ (Below.refl _ _) rfl
      · refine wpOp_step (o := _) rfl fun K' hK' => ?_
        have HK : Hid (∀ v W', Below W.heap.size W W' → ((Mk.val [9] (fun _ _ _ _ => True) (fun _ _ _ _ _ _ _ => trivial) : Mk)).P W.heap.size W'.heap.size W' v (upd x 10 v) → K' ⟨#[Value.agg #[Value.slice a1 xs.length c1, Value.slice a2 ys.length c2, Value.slice a3 is.length c3, Value.slice a4 bs.length c4], Value.pointer (some { block := w.heap.size, off := 0 }), Value.bool false, x 0, x 1, x 2, x 3, x 4, x 5, x 6, x 7, x 8, x 9, v, x 11, x 12, x 13, x 14, x 15, undef], []⟩ W') := fun v W' h1 h2 => hK' _ _ (hK v W' h1 h2)
        have e9 : x 9 = .bool false := hp.post 9 (hd 9 (show 9 ∈ [9] from by decide))
        clear hK hK' hp hd
        simp only [e9] at HK ⊢
        go_simp
        exact HK.out _ _ (Below.refl _ _) trivial
      · refine wpOp_step (o := _) rfl fun K' hK' => ?_
        have HK : Hid (∀ v W', Below W.heap.size W W' → ((Mk.val [9] (fun _ _ _ _ => True) (fun _ _ _ _ _ _ _ => trivial) : Mk)).P W.heap.size W'.heap.size W' v (upd x 11 v) → K' ⟨#[Value.agg #[Value.slice a1 xs.length c1, Value.slice a2 ys.length c2, Value.slice a3 is.length c3, Value.slice a4 bs.length c4], Value.pointer (some { block := w.heap.size, off := 0 }), Value.bool false, x 0, x 1, x 2, x 3, x 4, x 5, x 6, x 7, x 8, x 9, x 10, v, x 12, x 13, x 14, x 15, undef], []⟩ W') := fun v W' h1 h2 => hK' _ _ (hK v W' h1 h2)
        have e9 : x 9 = .bool false := hp.post 9 (hd 9 (show 9 ∈ [9] from by decide))
        clear hK hK' hp hd
        simp only [e9] at HK ⊢
        go_simp
        exact HK.out _ _ (Below.refl _ _) trivial
      · refine wpOp_step (o := _) rfl fun K' hK' => ?_
        have HK : Hid (∀ v W', Below W.heap.size W W' → ((Mk.val [9] (fun _ _ _ _ => True) (fun _ _ _ _ _ _ _ => trivial) : Mk)).P W.heap.size W'.heap.size W' v (upd x 12 v) → K' ⟨#[Value.agg #[Value.slice a1 xs.length c1, Value.slice a2 ys.length c2, Value.slice a3 is.length c3, Value.slice a4 bs.length c4], Value.pointer (some { block := w.heap.size, off := 0 }), Value.bool false, x 0, x 1, x 2, x 3, x 4, x 5, x 6, x 7, x 8, x 9, x 10, x 11, v, x 13, x 14, x 15, undef], []⟩ W') := fun v W' h1 h2 => hK' _ _ (hK v W' h1 h2)
        have e9 : x 9 = .bool false := hp.post 9 (hd 9 (show 9 ∈ [9] from by decide))
        clear hK hK' hp hd
        simp only [e9] at HK ⊢
        go_simp
        exact HK.out _ _ (Below.refl _ _) trivial
      · refine wpOp_step (o := _) rfl fun K' hK' => ?_
        have HK : Hid (∀ v W', Below W.heap.size W W' → ((Mk.val [9] (fun _ _ _ _ => True) (fun _ _ _ _ _ _ _ => trivial) : Mk)).P W.heap.size W'.heap.size W' v (upd x 13 v) → K' ⟨#[Value.agg #[Value.slice a1 xs.length c1, Value.slice a2 ys.length c2, Value.slice a3 is.length c3, Value.slice a4 bs.length c4], Value.pointer (some { block := w.heap.size, off := 0 }), Value.bool false, x 0, x 1, x 2, x 3, x 4, x 5, x 6, x 7, x 8, x 9, x 10, x 11, x 12, v, x 14, x 15, undef], []⟩ W') := fun v W' h1 h2 => hK' _ _ (hK v W' h1 h2)
        have e9 : x 9 = .bool false := hp.post 9 (hd 9 (show 9 ∈ [9] from by decide))
        clear hK hK' hp hd
        simp only [e9] at HK ⊢
        go_simp
        exact HK.out _ _ (Below.refl _ _) trivial
      · refine wpOp_step (o := _) rfl fun K' hK' => ?_
        have HK : Hid (∀ v W', Below W.heap.size W W' → ((Mk.val [9] (fun _ _ _ _ => True) (fun _ _ _ _ _ _ _ => trivial) : Mk)).P W.heap.size W'.heap.size W' v (upd x 14 v) → K' ⟨#[Value.agg #[Value.slice a1 xs.length c1, Value.slice a2 ys.length c2, Value.slice a3 is.length c3, Value.slice a4 bs.length c4], Value.pointer (some { block := w.heap.size, off := 0 }), Value.bool false, x 0, x 1, x 2, x 3, x 4, x 5, x 6, x 7, x 8, x 9, x 10, x 11, x 12, x 13, v, x 15, undef], []⟩ W') := fun v W' h1 h2 => hK' _ _ (hK v W' h1 h2)
        have e9 : x 9 = .bool false := hp.post 9 (hd 9 (show 9 ∈ [9] from by decide))
        clear hK hK' hp hd
        simp only [e9] at HK ⊢
        go_simp
        exact HK.out _ _ (Below.refl _ _) trivial
      · refine wpOp_step (o := _) rfl fun K' hK' => ?_
        have HK : Hid (∀ v W', Below W.heap.size W W' → ((Mk.val [9] (fun _ _ _ _ => True) (fun _ _ _ _ _ _ _ => trivial) : Mk)).P W.heap.size W'.heap.size W' v (upd x 15 v) → K' ⟨#[Value.agg #[Value.slice a1 xs.length c1, Value.slice a2 ys.length c2, Value.slice a3 is.length c3, Value.slice a4 bs.length c4], Value.pointer (some { block := w.heap.size, off := 0 }), Value.bool false, x 0, x 1, x 2, x 3, x 4, x 5, x 6, x 7, x 8, x 9, x 10, x 11, x 12, x 13, x 14, v, undef], []⟩ W') := fun v W' h1 h2 => hK' _ _ (hK v W' h1 h2)
        have e9 : x 9 = .bool false := hp.post 9 (hd 9 (show 9 ∈ [9] from by decide))
        clear hK hK' hp hd
        simp only [e9] at HK ⊢
        go_simp
        exact HK.out _ _ (Below.refl _ _) trivial
    · intro x iw W hp
      have e9 : x 9 = .bool false := hp.post 9 (by decide)
      have HB := hide (HW.out W hp.bel).2
      simp only [e9]
      clear hp e9
      go_wp2_with fail
      try rw [List.filterMap_nil]
      try go_wp2
      go_ret
      exact ⟨by rw [HFX.out]; rfl, HB.out⟩
  | true =>
  have CK := hide (fun (W : World) (hb : Below w.heap.size w W) => knd_any (.slice a1 xs.length c1) (.slice a2 ys.length c2) (.slice a3 is.length c3) (.slice a4 bs.length c4) xs ys is bs W (h.below hb (Nat.le_refl _)) hX.r)
  have CC : Hid (∀ (W : World) (v : Value), RInts W v (kndL is) → Below w.heap.size w W → AtC W w.heap.size 35 #[.slice a1 xs.length c1, .slice a2 ys.length c2, .slice a3 is.length c3, .slice a4 bs.length c4] → Calls Tryz.prog 43 #[.agg #[v, .func (.func 41) #[] #[.pointer (some ⟨w.heap.size, 0, none⟩)]]] W fun e w' => e = .returned (.int .i64 (exN is bs)) ∧ Below W.heap.size W w') := fun W v ho b1 ha => by
    refine (cntI_any 41 eg41 (.pointer (some ⟨w.heap.size, 0, none⟩)) v (kndL is) (fun k => (fun i : Int => !(inoI is bs (i - 1).toNat)) ((kndL is).getD k 0)) (fun _ _ => True) (fun _ => False) W (by have := kndL_len is; omega) (fun _ e => e.elim) (fun W' c => ho.below (chgF c) (Nat.le_refl _)) (fun _ _ => trivial) (fun _ _ _ _ _ => trivial) (fun k hk W' _ c => ?_)).mono ?_
    · have b2 := b1.trans ((chgF c).mono b1.size)
      have hd := ha.over (chgF c)
      have hw := h.below b2 (Nat.le_refl _)
      have hmem := List.getElem_mem hk
      show Calls _ _ _ _ fun e w' => e = .returned (.bool ((fun i : Int => !(inoI is bs (i - 1).toNat)) ((kndL is).getD k 0))) ∧ _
      rw [getD_at 0 hk]
      have hr := (mem_kndL.1 hmem).1
      obtain ⟨q, hq⟩ : ∃ q : Nat, (kndL is)[k] = (q : Int) + 1 := ⟨((kndL is)[k] - 1).toNat, by omega⟩
      rw [hq]
      simp only
      rw [show ((q : Int) + 1 - 1).toNat = q by omega]
      exact (c41_any q a1 a2 a3 a4 c1 c2 c3 c4 xs ys is bs w.heap.size W' hw hX hd (by omega)).mono fun e w' hh => ⟨hh.1, trivial, Chg.of_below hh.2⟩
    · rintro e w' ⟨rfl, -, c⟩
      rw [countP_all (kndL is) 0 (fun i : Int => !(inoI is bs (i - 1).toNat))]
      exact ⟨rfl, chgF c⟩
  have HFX : Hid (exactB xs ys is bs = ((exN is bs : Int) == 0)) := hide (by
    rw [HEX.out, Bool.true_and, show ((exN is bs : Int) == 0) = decide ((exN is bs : Int) = 0) from rfl]
    exact decide_eq_decide.2 (by omega))
  obtain ⟨n, hn⟩ : ∃ n, exN is bs = n := ⟨_, rfl⟩
  simp only [hn] at CC HFX
  rw [HFX.out]
  clear h hG hsf hsf' hX hsb HEX HFX hn
  go_enter Tryz.func11, Tryz.ntmps11
  go_upto_region 1 with fail
  clear hW0
  refine wp_region_alt (by kernel_rfl) [0, 1, 2, 3, 4, 5, 6, 7, 8, 9, 10, 11, 12, 13, 14, 15] [16, 17] [] (fun i => match i with | 0 => .const [] (.agg #[.slice a1 xs.length c1, .slice a2 ys.length c2, .slice a3 is.length c3, .slice a4 bs.length c4]) | 1 => .const [0] (.bool true) | 2 => .const [1] (.bool true) | 3 => .const [2] (.pointer (some ⟨w.heap.size, 0, none⟩)) | 4 => .const [3, 2] (.agg #[.slice a1 xs.length c1, .slice a2 ys.length c2]) | 5 => .const [2] (.agg #[.slice a1 xs.length c1, .slice a2 ys.length c2, .slice a3 is.length c3, .slice a4 bs.length c4]) | 6 => MkBt [5, 2] (fB is bs) (fI is bs) | 7 => .const [4, 6, 2] (.bool true) | 8 => .const [2, 7] (.bool true) | 9 => .const [8] (.bool true) | 10 => .const [9] (.agg #[.slice a1 xs.length c1, .slice a2 ys.length c2, .slice a3 is.length c3, .slice a4 bs.length c4]) | 11 => MkIn [10, 9] (kndL is) | 12 => .const [9] (.func (.func 41) #[] #[.pointer (some ⟨w.heap.size, 0, none⟩)]) | 13 => MkCk [11, 12, 9] (kndL is) (.func (.func 41) #[] #[.pointer (some ⟨w.heap.size, 0, none⟩)]) | 14 => .const [13, 9] (.int .i64 (n : Int)) | 15 => .const [14, 9] (.bool ((n : Int) == 0)) | _ => .triv) (fun x => ⟨#[Value.agg #[Value.slice a1 xs.length c1, Value.slice a2 ys.length c2, Value.slice a3 is.length c3, Value.slice a4 bs.length c4], Value.pointer (some { block := w.heap.size, off := 0 }), Value.bool false, x 0, x 1, x 2, x 3, x 4, x 5, x 6, x 7, x 8, x 9, x 10, x 11, x 12, x 13, x 14, x 15, undef], []⟩) (fun i => match i with | 0 => undef | 1 => undef | 2 => undef | 3 => undef | 4 => undef | 5 => undef | 6 => undef | 7 => undef | 8 => undef | 9 => undef | 10 => undef | 11 => undef | 12 => undef | 13 => undef | 14 => undef | 15 => undef | _ => undef) rfl (makersOk2_of (by kernel_rfl) (by kernel_rfl)) (by kernel_rfl) (by kernel_rfl) (by kernel_rfl) rfl ?_ ?_ (by intro q hq; cases hq)
  · intro jo hj so x iw W hd hp K hK
    simp only [List.mem_cons, List.not_mem_nil, or_false] at hj
    rcases hj with rfl | rfl | rfl | rfl | rfl | rfl | rfl | rfl | rfl | rfl | rfl | rfl | rfl | rfl | rfl | rfl
    · refine wpOp_step (o := _) rfl fun K' hK' => ?_
      have HK : Hid (∀ v W', Below W.heap.size W W' → ((Mk.const [] (.agg #[.slice a1 xs.length c1, .slice a2 ys.length c2, .slice a3 is.length c3, .slice a4 bs.length c4]) : Mk)).P W.heap.size W'.heap.size W' v (upd x 0 v) → K' ⟨#[Value.agg #[Value.slice a1 xs.length c1, Value.slice a2 ys.length c2, Value.slice a3 is.length c3, Value.slice a4 bs.length c4], Value.pointer (some { block := w.heap.size, off := 0 }), Value.bool false, v, x 1, x 2, x 3, x 4, x 5, x 6, x 7, x 8, x 9, x 10, x 11, x 12, x 13, x 14, x 15, undef], []⟩ W') := fun v W' h1 h2 => hK' _ _ (hK v W' h1 h2)
      have bw := HW.out W hp.bel
      have k0 : W.cell? ⟨w.heap.size, 0, none⟩ = some (.slice a1 xs.length c1) := bw.1.cell 0
      have k1 : W.cell? ⟨w.heap.size, 1, none⟩ = some (.slice a2 ys.length c2) := bw.1.cell 1
      have k2 : W.cell? ⟨w.heap.size, 2, none⟩ = some (.slice a3 is.length c3) := bw.1.cell 2
      have k3 : W.cell? ⟨w.heap.size, 3, none⟩ = some (.slice a4 bs.length c4) := bw.1.cell 3
      clear bw
      clear hK hK' hp hd
      go_simp
      exact HK.out _ _ (Below.refl _ _) rfl
    · refine wpOp_step (o := _) rfl fun K' hK' => ?_
      have HK : Hid (∀ v W', Below W.heap.size W W' → ((Mk.const [0] (.bool true) : Mk)).P W.heap.size W'.heap.size W' v (upd x 1 v) → K' ⟨#[Value.agg #[Value.slice a1 xs.length c1, Value.slice a2 ys.length c2, Value.slice a3 is.length c3, Value.slice a4 bs.length c4], Value.pointer (some { block := w.heap.size, off := 0 }), Value.bool false, x 0, v, x 2, x 3, x 4, x 5, x 6, x 7, x 8, x 9, x 10, x 11, x 12, x 13, x 14, x 15, undef], []⟩ W') := fun v W' h1 h2 => hK' _ _ (hK v W' h1 h2)
      have e0 : x 0 = .agg #[.slice a1 xs.length c1, .slice a2 ys.length c2, .slice a3 is.length c3, .slice a4 bs.length c4] := hp.post 0 (hd 0 (show 0 ∈ [0] from by decide))
      have dr := (HW.out W hp.bel).2
      clear hK hK' hp hd
      simp only [e0] at HK ⊢
      clear e0
      go_simp
      refine (CO.out W dr).mono ?_
      rintro e w6 ⟨rfl, B6⟩
      go_simp
      exact HK.out _ _ B6 rfl
    · refine wpOp_step (o := _) rfl fun K' hK' => ?_
      have HK : Hid (∀ v W', Below W.heap.size W W' → ((Mk.const [1] (.bool true) : Mk)).P W.heap.size W'.heap.size W' v (upd x 2 v) → K' ⟨#[Value.agg #[Value.slice a1 xs.length c1, Value.slice a2 ys.length c2, Value.slice a3 is.length c3, Value.slice a4 bs.length c4], Value.pointer (some { block := w.heap.size, off := 0 }), Value.bool false, x 0, x 1, v, x 3, x 4, x 5, x 6, x 7, x 8, x 9, x 10, x 11, x 12, x 13, x 14, x 15, undef], []⟩ W') := fun v W' h1 h2 => hK' _ _ (hK v W' h1 h2)
      have e1 : x 1 = .bool true := hp.post 1 (hd 1 (show 1 ∈ [1] from by decide))
      clear hK hK' hp hd
      simp only [e1] at HK ⊢
      go_simp
      exact HK.out _ _ (Below.refl _ _) rfl
    · refine wpOp_step (o := _) rfl fun K' hK' => ?_
      have HK : Hid (∀ v W', Below W.heap.size W W' → ((Mk.const [2] (.pointer (some ⟨w.heap.size, 0, none⟩)) : Mk)).P W.heap.size W'.heap.size W' v (upd x 3 v) → K' ⟨#[Value.agg #[Value.slice a1 xs.length c1, Value.slice a2 ys.length c2, Value.slice a3 is.length c3, Value.slice a4 bs.length c4], Value.pointer (some { block := w.heap.size, off := 0 }), Value.bool false, x 0, x 1, x 2, v, x 4, x 5, x 6, x 7, x 8, x 9, x 10, x 11, x 12, x 13, x 14, x 15, undef], []⟩ W') := fun v W' h1 h2 => hK' _ _ (hK v W' h1 h2)
      have e2 : x 2 = .bool true := hp.post 2 (hd 2 (show 2 ∈ [2] from by decide))
      clear hK hK' hp hd
      simp only [e2] at HK ⊢
      go_simp
      exact HK.out _ _ (Below.refl _ _) rfl
    · refine wpOp_step (o := _) rfl fun K' hK' => ?_
      have HK : Hid (∀ v W', Below W.heap.size W W' → ((Mk.const [3, 2] (.agg #[.slice a1 xs.length c1, .slice a2 ys.length c2]) : Mk)).P W.heap.size W'.heap.size W' v (upd x 4 v) → K' ⟨#[Value.agg #[Value.slice a1 xs.length c1, Value.slice a2 ys.length c2, Value.slice a3 is.length c3, Value.slice a4 bs.length c4], Value.pointer (some { block := w.heap.size, off := 0 }), Value.bool false, x 0, x 1, x 2, x 3, v, x 5, x 6, x 7, x 8, x 9, x 10, x 11, x 12, x 13, x 14, x 15, undef], []⟩ W') := fun v W' h1 h2 => hK' _ _ (hK v W' h1 h2)
      have e3 : x 3 = .pointer (some ⟨w.heap.size, 0, none⟩) := hp.post 3 (hd 3 (show 3 ∈ [3, 2] from by decide))
      have e2 : x 2 = .bool true := hp.post 2 (hd 2 (show 2 ∈ [3, 2] from by decide))
      have bw := HW.out W hp.bel
      have k0 : W.cell? ⟨w.heap.size, 0, none⟩ = some (.slice a1 xs.length c1) := bw.1.cell 0
      have k1 : W.cell? ⟨w.heap.size, 1, none⟩ = some (.slice a2 ys.length c2) := bw.1.cell 1
      have k2 : W.cell? ⟨w.heap.size, 2, none⟩ = some (.slice a3 is.length c3) := bw.1.cell 2
      have k3 : W.cell? ⟨w.heap.size, 3, none⟩ = some (.slice a4 bs.length c4) := bw.1.cell 3
      clear bw
      clear hK hK' hp hd
      simp only [e3, e2] at HK ⊢
      go_simp
      exact HK.out _ _ (Below.refl _ _) rfl
    · refine wpOp_step (o := _) rfl fun K' hK' => ?_
      have HK : Hid (∀ v W', Below W.heap.size W W' → ((Mk.const [2] (.agg #[.slice a1 xs.length c1, .slice a2 ys.length c2, .slice a3 is.length c3, .slice a4 bs.length c4]) : Mk)).P W.heap.size W'.heap.size W' v (upd x 5 v) → K' ⟨#[Value.agg #[Value.slice a1 xs.length c1, Value.slice a2 ys.length c2, Value.slice a3 is.length c3, Value.slice a4 bs.length c4], Value.pointer (some { block := w.heap.size, off := 0 }), Value.bool false, x 0, x 1, x 2, x 3, x 4, v, x 6, x 7, x 8, x 9, x 10, x 11, x 12, x 13, x 14, x 15, undef], []⟩ W') := fun v W' h1 h2 => hK' _ _ (hK v W' h1 h2)
      have e2 : x 2 = .bool true := hp.post 2 (hd 2 (show 2 ∈ [2] from by decide))
      have bw := HW.out W hp.bel
      have k0 : W.cell? ⟨w.heap.size, 0, none⟩ = some (.slice a1 xs.length c1) := bw.1.cell 0
      have k1 : W.cell? ⟨w.heap.size, 1, none⟩ = some (.slice a2 ys.length c2) := bw.1.cell 1
      have k2 : W.cell? ⟨w.heap.size, 2, none⟩ = some (.slice a3 is.length c3) := bw.1.cell 2
      have k3 : W.cell? ⟨w.heap.size, 3, none⟩ = some (.slice a4 bs.length c4) := bw.1.cell 3
      clear bw
      clear hK hK' hp hd
      simp only [e2] at HK ⊢
      go_simp
      exact HK.out _ _ (Below.refl _ _) rfl
    · refine wpOp_step (o := _) rfl fun K' hK' => ?_
      have HK : Hid (∀ v W', Below W.heap.size W W' → (MkBt [5, 2] (fB is bs) (fI is bs)).P W.heap.size W'.heap.size W' v (upd x 6 v) → K' ⟨#[Value.agg #[Value.slice a1 xs.length c1, Value.slice a2 ys.length c2, Value.slice a3 is.length c3, Value.slice a4 bs.length c4], Value.pointer (some { block := w.heap.size, off := 0 }), Value.bool false, x 0, x 1, x 2, x 3, x 4, x 5, v, x 7, x 8, x 9, x 10, x 11, x 12, x 13, x 14, x 15, undef], []⟩ W') := fun v W' h1 h2 => hK' _ _ (hK v W' h1 h2)
      have e5 : x 5 = .agg #[.slice a1 xs.length c1, .slice a2 ys.length c2, .slice a3 is.length c3, .slice a4 bs.length c4] := hp.post 5 (hd 5 (show 5 ∈ [5, 2] from by decide))
      have e2 : x 2 = .bool true := hp.post 2 (hd 2 (show 2 ∈ [5, 2] from by decide))
      have dr := (HW.out W hp.bel).2
      clear hK hK' hp hd
      simp only [e5, e2] at HK ⊢
      clear e5 e2
      go_simp
      refine (CB.out W dr).mono ?_
      rintro e w6 ⟨u, v, rfl, R1, R2, B6⟩
      obtain ⟨ua, uc, rfl⟩ : ∃ a c, u = .slice a (fB is bs).length c := by obtain ⟨p, q, e, -⟩ := R1; exact ⟨p, q, e⟩
      obtain ⟨va, vc, rfl⟩ : ∃ a c, v = .slice a (fI is bs).length c := by obtain ⟨p, q, e, -⟩ := R2; exact ⟨p, q, e⟩
      go_simp
      exact HK.out _ _ B6 ⟨ua, uc, va, vc, rfl, R1, R2⟩
    · refine wpOp_step (o := _) rfl fun K' hK' => ?_
      have HK : Hid (∀ v W', Below W.heap.size W W' → ((Mk.const [4, 6, 2] (.bool true) : Mk)).P W.heap.size W'.heap.size W' v (upd x 7 v) → K' ⟨#[Value.agg #[Value.slice a1 xs.length c1, Value.slice a2 ys.length c2, Value.slice a3 is.length c3, Value.slice a4 bs.length c4], Value.pointer (some { block := w.heap.size, off := 0 }), Value.bool false, x 0, x 1, x 2, x 3, x 4, x 5, x 6, v, x 8, x 9, x 10, x 11, x 12, x 13, x 14, x 15, undef], []⟩ W') := fun v W' h1 h2 => hK' _ _ (hK v W' h1 h2)
      have e4 : x 4 = .agg #[.slice a1 xs.length c1, .slice a2 ys.length c2] := hp.post 4 (hd 4 (show 4 ∈ [4, 6, 2] from by decide))
      have e2 : x 2 = .bool true := hp.post 2 (hd 2 (show 2 ∈ [4, 6, 2] from by decide))
      have e6 : ∃ a c a' c', x 6 = .agg #[.slice a (fB is bs).length c, .slice a' (fI is bs).length c'] ∧ RFl W (.slice a (fB is bs).length c) (fB is bs) ∧ RFl W (.slice a' (fI is bs).length c') (fI is bs) := hp.post 6 (hd 6 (show 6 ∈ [4, 6, 2] from by decide))
      have dr := (HW.out W hp.bel).2
      clear hK hK' hp hd
      obtain ⟨ua, uc, va, vc, e6, R1, R2⟩ := e6
      simp only [e4, e2, e6] at HK ⊢
      clear e4 e2 e6
      go_simp
      refine (CS.out W _ _ dr R1 R2).mono ?_
      rintro e w6 ⟨rfl, B6⟩
      go_simp
      exact HK.out _ _ B6 rfl
    · refine wpOp_step (o := _) rfl fun K' hK' => ?_
      have HK : Hid (∀ v W', Below W.heap.size W W' → ((Mk.const [2, 7] (.bool true) : Mk)).P W.heap.size W'.heap.size W' v (upd x 8 v) → K' ⟨#[Value.agg #[Value.slice a1 xs.length c1, Value.slice a2 ys.length c2, Value.slice a3 is.length c3, Value.slice a4 bs.length c4], Value.pointer (some { block := w.heap.size, off := 0 }), Value.bool false, x 0, x 1, x 2, x 3, x 4, x 5, x 6, x 7, v, x 9, x 10, x 11, x 12, x 13, x 14, x 15, undef], []⟩ W') := fun v W' h1 h2 => hK' _ _ (hK v W' h1 h2)
      have e2 : x 2 = .bool true := hp.post 2 (hd 2 (show 2 ∈ [2, 7] from by decide))
      have e7 : x 7 = .bool true := hp.post 7 (hd 7 (show 7 ∈ [2, 7] from by decide))
      clear hK hK' hp hd
      simp only [e2, e7] at HK ⊢
      go_simp
      exact HK.out _ _ (Below.refl _ _) rfl
    · refine wpOp_step (o := _) rfl fun K' hK' => ?_
      have HK : Hid (∀ v W', Below W.heap.size W W' → ((Mk.const [8] (.bool true) : Mk)).P W.heap.size W'.heap.size W' v (upd x 9 v) → K' ⟨#[Value.agg #[Value.slice a1 xs.length c1, Value.slice a2 ys.length c2, Value.slice a3 is.length c3, Value.slice a4 bs.length c4], Value.pointer (some { block := w.heap.size, off := 0 }), Value.bool false, x 0, x 1, x 2, x 3, x 4, x 5, x 6, x 7, x 8, v, x 10, x 11, x 12, x 13, x 14, x 15, undef], []⟩ W') := fun v W' h1 h2 => hK' _ _ (hK v W' h1 h2)
      have e8 : x 8 = .bool true := hp.post 8 (hd 8 (show 8 ∈ [8] from by decide))
      clear hK hK' hp hd
      simp only [e8] at HK ⊢
      go_simp
      exact HK.out _ _ (Below.refl _ _) rfl
    · refine wpOp_step (o := _) rfl fun K' hK' => ?_
      have HK : Hid (∀ v W', Below W.heap.size W W' → ((Mk.const [9] (.agg #[.slice a1 xs.length c1, .slice a2 ys.length c2, .slice a3 is.length c3, .slice a4 bs.length c4]) : Mk)).P W.heap.size W'.heap.size W' v (upd x 10 v) → K' ⟨#[Value.agg #[Value.slice a1 xs.length c1, Value.slice a2 ys.length c2, Value.slice a3 is.length c3, Value.slice a4 bs.length c4], Value.pointer (some { block := w.heap.size, off := 0 }), Value.bool false, x 0, x 1, x 2, x 3, x 4, x 5, x 6, x 7, x 8, x 9, v, x 11, x 12, x 13, x 14, x 15, undef], []⟩ W') := fun v W' h1 h2 => hK' _ _ (hK v W' h1 h2)
      have e9 : x 9 = .bool true := hp.post 9 (hd 9 (show 9 ∈ [9] from by decide))
      have bw := HW.out W hp.bel
      have k0 : W.cell? ⟨w.heap.size, 0, none⟩ = some (.slice a1 xs.length c1) := bw.1.cell 0
      have k1 : W.cell? ⟨w.heap.size, 1, none⟩ = some (.slice a2 ys.length c2) := bw.1.cell 1
      have k2 : W.cell? ⟨w.heap.size, 2, none⟩ = some (.slice a3 is.length c3) := bw.1.cell 2
      have k3 : W.cell? ⟨w.heap.size, 3, none⟩ = some (.slice a4 bs.length c4) := bw.1.cell 3
      clear bw
      clear hK hK' hp hd
      simp only [e9] at HK ⊢
      go_simp
      exact HK.out _ _ (Below.refl _ _) rfl
    · refine wpOp_step (o := _) rfl fun K' hK' => ?_
      have HK : Hid (∀ v W', Below W.heap.size W W' → (MkIn [10, 9] (kndL is)).P W.heap.size W'.heap.size W' v (upd x 11 v) → K' ⟨#[Value.agg #[Value.slice a1 xs.length c1, Value.slice a2 ys.length c2, Value.slice a3 is.length c3, Value.slice a4 bs.length c4], Value.pointer (some { block := w.heap.size, off := 0 }), Value.bool false, x 0, x 1, x 2, x 3, x 4, x 5, x 6, x 7, x 8, x 9, x 10, v, x 12, x 13, x 14, x 15, undef], []⟩ W') := fun v W' h1 h2 => hK' _ _ (hK v W' h1 h2)
      have e10 : x 10 = .agg #[.slice a1 xs.length c1, .slice a2 ys.length c2, .slice a3 is.length c3, .slice a4 bs.length c4] := hp.post 10 (hd 10 (show 10 ∈ [10, 9] from by decide))
      have e9 : x 9 = .bool true := hp.post 9 (hd 9 (show 9 ∈ [10, 9] from by decide))
      have dr := (HW.out W hp.bel).2
      clear hK hK' hp hd
      simp only [e10, e9] at HK ⊢
      clear e10 e9
      go_simp
      refine (CK.out W dr).mono ?_
      rintro e w6 ⟨v, rfl, R1, B6⟩
      obtain ⟨ua, uc, rfl, -⟩ := R1.form
      rw [ic_length] at R1 ⊢
      go_simp
      exact HK.out _ _ B6 ⟨ua, uc, rfl, R1.rints⟩
    · refine wpOp_step (o := _) rfl fun K' hK' => ?_
      have HK : Hid (∀ v W', Below W.heap.size W W' → ((Mk.const [9] (.func (.func 41) #[] #[.pointer (some ⟨w.heap.size, 0, none⟩)]) : Mk)).P W.heap.size W'.heap.size W' v (upd x 12 v) → K' ⟨#[Value.agg #[Value.slice a1 xs.length c1, Value.slice a2 ys.length c2, Value.slice a3 is.length c3, Value.slice a4 bs.length c4], Value.pointer (some { block := w.heap.size, off := 0 }), Value.bool false, x 0, x 1, x 2, x 3, x 4, x 5, x 6, x 7, x 8, x 9, x 10, x 11, v, x 13, x 14, x 15, undef], []⟩ W') := fun v W' h1 h2 => hK' _ _ (hK v W' h1 h2)
      have e9 : x 9 = .bool true := hp.post 9 (hd 9 (show 9 ∈ [9] from by decide))
      clear hK hK' hp hd
      simp only [e9] at HK ⊢
      go_simp
      exact HK.out _ _ (Below.refl _ _) rfl
    · refine wpOp_step (o := _) rfl fun K' hK' => ?_
      have HK : Hid (∀ v W', Below W.heap.size W W' → (MkCk [11, 12, 9] (kndL is) (.func (.func 41) #[] #[.pointer (some ⟨w.heap.size, 0, none⟩)])).P W.heap.size W'.heap.size W' v (upd x 13 v) → K' ⟨#[Value.agg #[Value.slice a1 xs.length c1, Value.slice a2 ys.length c2, Value.slice a3 is.length c3, Value.slice a4 bs.length c4], Value.pointer (some { block := w.heap.size, off := 0 }), Value.bool false, x 0, x 1, x 2, x 3, x 4, x 5, x 6, x 7, x 8, x 9, x 10, x 11, x 12, v, x 14, x 15, undef], []⟩ W') := fun v W' h1 h2 => hK' _ _ (hK v W' h1 h2)
      have e11 : ∃ a c, x 11 = .slice a (kndL is).length c ∧ RInts W (.slice a (kndL is).length c) (kndL is) := hp.post 11 (hd 11 (show 11 ∈ [11, 12, 9] from by decide))
      have e12 : x 12 = .func (.func 41) #[] #[.pointer (some ⟨w.heap.size, 0, none⟩)] := hp.post 12 (hd 12 (show 12 ∈ [11, 12, 9] from by decide))
      have e9 : x 9 = .bool true := hp.post 9 (hd 9 (show 9 ∈ [11, 12, 9] from by decide))
      clear hK hK' hp hd
      obtain ⟨ua, uc, e11, R1⟩ := e11
      simp only [e11, e12, e9] at HK ⊢
      clear e11 e12 e9
      go_simp
      exact HK.out _ _ (Below.refl _ _) ⟨ua, uc, rfl, R1⟩
    · refine wpOp_step (o := _) rfl fun K' hK' => ?_
      have HK : Hid (∀ v W', Below W.heap.size W W' → ((Mk.const [13, 9] (.int .i64 (n : Int)) : Mk)).P W.heap.size W'.heap.size W' v (upd x 14 v) → K' ⟨#[Value.agg #[Value.slice a1 xs.length c1, Value.slice a2 ys.length c2, Value.slice a3 is.length c3, Value.slice a4 bs.length c4], Value.pointer (some { block := w.heap.size, off := 0 }), Value.bool false, x 0, x 1, x 2, x 3, x 4, x 5, x 6, x 7, x 8, x 9, x 10, x 11, x 12, x 13, v, x 15, undef], []⟩ W') := fun v W' h1 h2 => hK' _ _ (hK v W' h1 h2)
      have e13 : ∃ a c, x 13 = .agg #[.slice a (kndL is).length c, .func (.func 41) #[] #[.pointer (some ⟨w.heap.size, 0, none⟩)]] ∧ RInts W (.slice a (kndL is).length c) (kndL is) := hp.post 13 (hd 13 (show 13 ∈ [13, 9] from by decide))
      have e9 : x 9 = .bool true := hp.post 9 (hd 9 (show 9 ∈ [13, 9] from by decide))
      have dr := HW.out W hp.bel
      clear hK hK' hp hd
      obtain ⟨ua, uc, e13, R1⟩ := e13
      simp only [e13, e9] at HK ⊢
      clear e13 e9
      go_simp
      refine (CC.out W _ R1 dr.2 dr.1).mono ?_
      rintro e w6 ⟨rfl, B6⟩
      go_simp
      exact HK.out _ _ B6 rfl
    · refine wpOp_step (o := _) rfl fun K' hK' => ?_
      have HK : Hid (∀ v W', Below W.heap.size W W' → ((Mk.const [14, 9] (.bool ((n : Int) == 0)) : Mk)).P W.heap.size W'.heap.size W' v (upd x 15 v) → K' ⟨#[Value.agg #[Value.slice a1 xs.length c1, Value.slice a2 ys.length c2, Value.slice a3 is.length c3, Value.slice a4 bs.length c4], Value.pointer (some { block := w.heap.size, off := 0 }), Value.bool false, x 0, x 1, x 2, x 3, x 4, x 5, x 6, x 7, x 8, x 9, x 10, x 11, x 12, x 13, x 14, v, undef], []⟩ W') := fun v W' h1 h2 => hK' _ _ (hK v W' h1 h2)
      have e14 : x 14 = .int .i64 (n : Int) := hp.post 14 (hd 14 (show 14 ∈ [14, 9] from by decide))
      have e9 : x 9 = .bool true := hp.post 9 (hd 9 (show 9 ∈ [14, 9] from by decide))
      clear hK hK' hp hd
      simp only [e14, e9] at HK ⊢
      go_simp
      exact HK.out _ _ (Below.refl _ _) rfl
  · intro x iw W hp
    have e9 : x 9 = .bool true := hp.post 9 (by decide)
    have e15 : x 15 = .bool ((n : Int) == 0) := hp.post 15 (by decide)
    have HB := hide (HW.out W hp.bel).2
    simp only [e9, e15]
    clear hp e9 e15
    go_wp2_with fail
    try rw [List.filterMap_nil]
    try go_wp2
    go_ret
    exact ⟨rfl, HB.out⟩
end Go.Proofs.YtljooldjcefkoaaGreat
